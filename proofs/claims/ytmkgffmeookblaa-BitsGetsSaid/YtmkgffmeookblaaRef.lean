/- The document's own answers: a number's bits, and bits as bytes. -/
import Derived.Test.YtmkgffmeookblaaParts
namespace Go.Proofs.Ytmkgffmeookblaa
open Go.RowKit
set_option linter.unusedVariables false

theorem info_bool : (Try.prog.info? 4).map (fun i => (i.zero, i.size, i.bytes)) = some (some (.bool false), 1, 1) := by kernel_rfl

/-- Truths, as cells. -/
def tcells (L : List Bool) : List Value := L.map Value.bool
theorem tcells_one (L : List Bool) : ∀ u ∈ tcells L, u.oneCell' = true := by
  intro u hu
  obtain ⟨_, _, rfl⟩ := List.mem_map.1 hu
  rfl
theorem tcells_len (L : List Bool) : (tcells L).length = L.length := by simp [tcells]
theorem bool_one (b : Bool) : ∀ u ∈ [Value.bool b], u.oneCell' = true := by
  intro u hu
  simp at hu
  subst hu
  rfl

set_option maxHeartbeats 1000000 in
theorem number_bad (x : Nat) (n : Int) (high : Bool) (w : World) (hx : x < 4294967296) (hn1 : -9223372036854775808 ≤ n) (hn2 : n ≤ 9223372036854775807) (hb : ¬ (0 ≤ n ∧ n ≤ 32 ∧ x < 2 ^ n.toNat)) :
    Calls Try.prog 10 #[.int .u32 x, .int .i64 n, .bool high] w fun e w' => e = .returned (.tuple #[.slice none 0 0, .bool false]) ∧ w = w' := by
  by_cases h1 : n < 0
  · have d1 : decide (n < 0) = true := by simpa using h1
    clear hb
    go_enter Try.func10, Try.ntmps10
    go_wp2
    go_ret2
    exact ⟨rfl, rfl⟩
  · have d1 : decide (n < 0) = false := by simpa using h1
    by_cases h2 : 32 < n
    · have d2 : decide (32 < n) = true := by simpa using h2
      clear hb
      go_enter Try.func10, Try.ntmps10
      go_wp2
      go_ret2
      exact ⟨rfl, rfl⟩
    · have d2 : decide (32 < n) = false := by simpa using h2
      obtain ⟨n, rfl⟩ := Int.eq_ofNat_of_zero_le (by omega : 0 ≤ n)
      have h3 : ¬ x < 2 ^ n := fun h => hb ⟨by omega, by omega, by simpa using h⟩
      have hbit : ∃ i, n ≤ i ∧ i < 32 ∧ x.testBit i = true := by
        obtain ⟨i, hi, hb⟩ := Nat.exists_ge_and_testBit_of_ge_two_pow (Nat.le_of_not_lt h3)
        refine ⟨i, hi, ?_, hb⟩
        rcases Nat.lt_or_ge i 32 with h | h
        · exact h
        · have : x.testBit i = false := Nat.testBit_lt_two_pow (Nat.lt_of_lt_of_le hx (by show 2 ^ 32 ≤ 2 ^ i; exact Nat.pow_le_pow_right (by decide) h))
          rw [this] at hb
          cases hb
      have HB := keepf hbit
      clear hb h3 hbit
      go_enter Try.func10, Try.ntmps10
      go_wp2_with fail
      go_loop [8] (fun i => ∃ k : Nat, n ≤ k ∧ k ≤ 32 ∧ i = .int .i64 k ∧ Hid (∀ j, n ≤ j → j < k → x.testBit j = false)) (fun i => 32 - (intOf i).toNat)
      case atStart => exact ⟨n, Nat.le_refl _, by omega, rfl, fun j h h' => absurd h (by omega)⟩
      case round =>
        obtain ⟨k, hk0, hk, rfl, hno⟩ := hrel
        by_cases hlt : k < 32
        · go_wp2_with fail
          refine (bit_any x k _ hx (by omega) (by omega)).mono ?_
          rintro e w' ⟨rfl, rfl⟩
          rw [Int.toNat_natCast]
          cases hkb : x.testBit k
          · have HKB := keepf hkb
            clear hkb
            go_wp2_with fail
            go_round
            case rel => exact ⟨k + 1, by omega, by omega, by go_num, fun j h h' => by
              rcases Nat.lt_or_ge j k with h2 | h2
              · exact hno.out j h h2
              · rw [show j = k from by omega]; exact HKB.out⟩
            case measure => simp [intOf]; omega
          · go_wp2_with fail
            go_ret2
            exact ⟨rfl, rfl⟩
        · exfalso
          obtain ⟨i, hi, hi2, hb⟩ := HB.out
          have := hno.out i hi (by omega)
          rw [this] at hb
          cases hb

/-- Behind Number, where there is one. -/
def NumTo (w : World) (n : Nat) (L : List Bool) (e : Ending) (w' : World) : Prop :=
  ∃ A cap, e = .returned (.tuple #[.slice A n cap, .bool true]) ∧ w'.ownsRow 0 4 1 (.slice A n cap) n (tcells L) ∧ Chg NoS w w' ∧ (∀ i, i < w.heap.size → (Value.slice A n cap).ownBlock ≠ some i)

/-- A row of truths that grows; nothing that was there has changed. -/
structure Grow (w wr : World) (L : List Bool) (k : Nat) (v : Value) : Prop where
  o : wr.ownsRow 0 4 1 v k (tcells L)
  c : Chg NoS w wr
  n : ∀ i, i < w.heap.size → v.ownBlock ≠ some i

theorem Grow.add {w wr w2 : World} {L M : List Bool} {k m : Nat} {v v2 : Value} {o : Obj} (h : Grow w wr L k v) (hg : (wr.alloc o).grownBy w2 v.ownBlock) (hO : w2.ownsRow 0 4 1 v2 (k + m) (tcells L ++ tcells M)) (hat : v2.ownBlock = v.ownBlock ∨ v2.ownBlock = some (wr.alloc o).heap.size) :
    Grow w w2 (L ++ M) (k + m) v2 := by
  have hc2 : Chg (fun i => v.ownBlock = some i) wr w2 := ((Chg.refl _ wr).alloc o).grown hg (fun i e _ => e)
  refine ⟨by simpa [tcells] using hO, h.c.trans hc2 (fun i h1 h2 => absurd h2 (h.n i h1)), fun i hi he => ?_⟩
  rcases hat with e | e
  · exact h.n i hi (e ▸ he)
  · rw [e] at he
    injection he with he
    have := h.c.size
    simp at he
    omega

theorem take_next (high : Bool) (x n k : Nat) (h : k < n) : (numBits high x n).take (k + 1) = (numBits high x n).take k ++ [x.testBit (bif high then n - 1 - k else k)] := by
  rw [List.take_succ_eq_append_getElem (by rw [numBits_length]; exact h)]
  congr 2
  simp [numBits]

set_option maxHeartbeats 1000000 in
theorem number_ok (x n : Nat) (high : Bool) (w : World) (hx32 : x < 4294967296) (hn : n ≤ 32) (hx : x < 2 ^ n) :
    Calls Try.prog 10 #[.int .u32 x, .int .i64 n, .bool high] w (NumTo w n (numBits high x n)) := by
  have HX := keepf hx
  clear hx
  have d1 : decide ((n : Int) < 0) = false := by simp
  have d2 : decide ((32 : Int) < (n : Int)) = false := by simp; omega
  obtain ⟨i0, hi, hz0, hz1, hz2⟩ := info_parts info_bool
  go_enter Try.func10, Try.ntmps10
  go_wp2_with fail
  go_loop [8] (fun i => ∃ k : Nat, n ≤ k ∧ k ≤ 32 ∧ i = .int .i64 k) (fun i => 32 - (intOf i).toNat)
  case atStart => exact ⟨n, Nat.le_refl _, by omega, rfl⟩
  case round =>
    obtain ⟨k, hk0, hk, rfl⟩ := hrel
    by_cases hlt : k < 32
    · have hkb : x.testBit k = false := Nat.testBit_lt_two_pow (Nat.lt_of_lt_of_le HX.out (Nat.pow_le_pow_right (by decide) hk0))
      go_wp2_with fail
      refine (bit_any x k _ hx32 (by omega) (by omega)).mono ?_
      rintro e w' ⟨rfl, rfl⟩
      rw [Int.toNat_natCast]
      go_wp2_with fail
      go_round
      case rel => exact ⟨k + 1, by omega, by omega, by go_num⟩
      case measure => simp [intOf]; omega
    · go_wp2_with fail
      go_loopw [9, 10] (fun v i wr => ∃ j : Nat, j ≤ n ∧ i = .int .i64 j ∧ Grow w wr ((numBits high x n).take j) j v) (fun _ i _ => n - (intOf i).toNat)
      case atStart => exact ⟨0, Nat.zero_le _, rfl, own_nil _ _ _ _, Chg.refl _ _, fun i _ h => by simp [Value.ownBlock] at h⟩
      case round =>
        obtain ⟨j, hj, rfl, hG⟩ := hrel
        obtain ⟨A9, c9, rfl, _⟩ := own_slice hG.o
        have HG := keepf hG
        clear hG
        by_cases hlj : j < n
        · have HT := keepf (take_next high x n j hlj)
          cases high
          · simp only [cond_false] at HT
            go_wp2_with fail
            refine (bit_any x j _ hx32 (by omega) (by omega)).mono ?_
            rintro e w' ⟨rfl, rfl⟩
            rw [Int.toNat_natCast]
            go_wp2_with (first
              | (at_builtin; refine wpList_append_src rfl (.tmp 40) (.tmp 44) 25 rfl 4 i0 (.bool false) 1 1 Try.underlying25 hi hz0 hz1 hz2 rfl (by decide) (.slice A9 j c9) _ _ rfl (own_chg (S := NoS) HG.out.o ((Chg.refl _ _).alloc _) (fun _ _ h => h)) _ _ _ _ rfl (src_one _ _ _) (bool_one _) (by unfold maxLen; omega) (by omega) ?_; intro S2 w2 hown2 hgr hat; obtain ⟨A2, c2, rfl, hA2⟩ := own_slice hown2; have HG2 := keepf hgr; have HO2 := keepf hown2; have HA2 := keepf hat; clear hgr hown2 hat hA2))
            go_roundw
            case rel => exact ⟨j + 1, by omega, by go_num, by rw [HT.out]; exact HG.out.add HG2.out HO2.out HA2.out⟩
            case measure => simp [intOf]; omega
          · simp only [cond_true] at HT
            go_wp2_with fail
            refine (bit_any x (n - 1 - j) _ hx32 (by omega) (by omega)).mono ?_
            rintro e w' ⟨rfl, rfl⟩
            rw [show ((n : Int) - 1 - (j : Int)).toNat = n - 1 - j from by omega]
            go_wp2_with (first
              | (at_builtin; refine wpList_append_src rfl (.tmp 31) (.tmp 38) 25 rfl 4 i0 (.bool false) 1 1 Try.underlying25 hi hz0 hz1 hz2 rfl (by decide) (.slice A9 j c9) _ _ rfl (own_chg (S := NoS) HG.out.o ((Chg.refl _ _).alloc _) (fun _ _ h => h)) _ _ _ _ rfl (src_one _ _ _) (bool_one _) (by unfold maxLen; omega) (by omega) ?_; intro S2 w2 hown2 hgr hat; obtain ⟨A2, c2, rfl, hA2⟩ := own_slice hown2; have HG2 := keepf hgr; have HO2 := keepf hown2; have HA2 := keepf hat; clear hgr hown2 hat hA2))
            go_roundw
            case rel => exact ⟨j + 1, by omega, by go_num, by rw [HT.out]; exact HG.out.add HG2.out HO2.out HA2.out⟩
            case measure => simp [intOf]; omega
        · obtain rfl : j = n := by omega
          go_wp2_with fail
          go_ret2
          have hG := HG.out
          rw [List.take_of_length_le (by rw [numBits_length]; exact Nat.le_refl _)] at hG
          exact ⟨A9, c9, rfl, hG.o, hG.c, hG.n⟩
end Go.Proofs.Ytmkgffmeookblaa
