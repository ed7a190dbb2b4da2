/- Rows of integers: Grow and Concat of the library at them. -/
import Derived.Test.YtbdnhhhagpgibaaFix
import Derived.Lib.AppendZeros
namespace Go.Proofs.Ytbdnhhhagpgibaa
open Go.RowKit
set_option linter.unusedVariables false
set_option linter.unusedSimpArgs false

/-- A new row of integers is told. -/
def NewI (w : World) (L : List Int) (e : Ending) (w' : World) : Prop :=
  ∃ A c, e = .returned (.slice A L.length c) ∧ OwnI w' A c L ∧ Chg NoS w w' ∧ ∀ a, A = some a → w.heap.size ≤ a.block
theorem icells_app (L M : List Int) : icells (L ++ M) = icells L ++ icells M := by simp [icells]

theorem growI_any (n : Nat) (w : World) (hn : n ≤ 100000) : Calls Try.prog 43 #[.slice none 0 0, .int .i64 n] w (NewI w []) := by
  obtain ⟨i0, hi, hz0, hz1, hz2⟩ := info_parts info_i64
  rcases Nat.eq_zero_or_pos n with rfl | h0
  · go_enter Try.func43, Try.ntmps43
    go_wp2_with fail
    go_ret
    exact ⟨none, 0, rfl, own_nil _ _ _ _, Chg.refl _ _, fun a h => by cases h⟩
  · obtain ⟨cc, hcc⟩ : ∃ cc, cc = grownCap w n 0 3 := ⟨_, rfl⟩
    have hc1 : n ≤ cc := hcc ▸ grownCap_ge _ _ _ _
    have hc2 : cc ≤ maxLen := hcc ▸ grownCap_le_maxLen _ _ _ _ (by unfold maxLen; omega)
    have hrun := fun ty => Go.Lib.run_append_nil_zeros (P := Try.prog) w 32 3 ty 3 i0 _ .i64 .i64 Try.underlying32 Try.underlying3 hi hz0 n h0 (by rw [hz1]; omega) (by omega) (by rw [hz2]; omega)
    rw [← hcc] at hrun
    have HR := keepf hrun
    have HC2 := keepf hc2
    clear hrun hcc hc2
    have d1 : decide ((n : Int) < 0) = false := by simp
    have d2 : decide (0 < (n : Int)) = true := by simp; omega
    go_enter Try.func43, Try.ntmps43
    go_wp2_with (first
      | (at_builtin; go_loud (refine Go.Lib.wpList_append_run _ rfl (.tmp 20) (.tmp 21) 32 3 rfl _ _ rfl rfl _ _ (HR.out _) ?_)))
    go_ret
    refine ⟨some ⟨w.heap.size, 0, none⟩, cc, rfl, ⟨rfl, .inr ⟨w.heap.size, cc, _, rfl, Nat.zero_le _, heap_alloc_new w.drew _, Nat.zero_le _, HC2.out, ?_, rfl⟩⟩, ((Chg.refl _ w).drew).alloc _, ?_⟩
    · rw [Array.size_append, size_zeroCells, size_zeroCells]
      show n * 1 + (cc - n) * 1 = cc * 1
      omega
    · rintro a h; injection h with h; subst h; exact Nat.le_refl _

theorem take_moreI {α : Type} (L : List α) (k : Nat) (x : α) (h : L[k]? = some x) : L.take (k + 1) = L.take k ++ [x] := by
  rw [List.take_add_one, h]
  rfl
/-- A slice of slices of nodes. -/
abbrev SlI := Option Addr × Nat × List Int
def slvI (x : SlI) : Value := .slice x.1 x.2.2.length x.2.1
def allI (Xs : List SlI) : List Int := Xs.flatMap (·.2.2)
theorem allI_take (Xs : List SlI) (k : Nat) : (allI (Xs.take k)).length ≤ (allI Xs).length := by
  have h : allI (Xs.take k) ++ allI (Xs.drop k) = allI Xs := by unfold allI; rw [← List.flatMap_append, List.take_append_drop]
  have h2 := congrArg List.length h
  rw [List.length_append] at h2
  omega
theorem allI_snoc (Xs : List SlI) (x : SlI) : allI (Xs ++ [x]) = allI Xs ++ x.2.2 := by simp [allI]

set_option maxHeartbeats 1000000 in
theorem concatI_any (Xs : List SlI) (A : Option Addr) (c : Nat) (w : World) (hX : Xs.length ≤ 100) (h0 : 0 < Xs.length) (hT : (allI Xs).length ≤ 100000) (hS : Src w 1 A Xs.length c (Xs.map slvI)) (hall : ∀ x ∈ Xs, Src w 1 x.1 x.2.2.length x.2.1 (icells x.2.2)) :
    Calls Try.prog 29 #[.slice A Xs.length c] w (NewI w (allI Xs)) := by
  obtain ⟨i0, hi, hz0, hz1, hz2⟩ := info_parts info_i64
  obtain ⟨b, off, rfl, hcell⟩ := hS.plain (by simpa using h0)
  have HC := keepf hcell
  have HALL := keepf hall
  have HT := keepf hT
  obtain ⟨n, hn⟩ : ∃ n, n = Xs.length := ⟨_, rfl⟩
  have HN := keepf hn
  rw [← hn] at hX ⊢
  have hle : Hid (∀ k, (allI (Xs.take k)).length ≤ 100000) := fun k => Nat.le_trans (allI_take Xs k) hT
  have HTK : Hid (Xs.take n = Xs) := by show _ = _; rw [hn, List.take_length]
  clear hn hS hcell hall h0 hT
  go_enter Try.func29, Try.ntmps29
  go_wp2_with fail
  go_loop [3, 11] (fun v i => ∃ k : Nat, k ≤ n ∧ i = .int .i64 k ∧ v = .int .i64 (allI (Xs.take k)).length) (fun _ i => n - (intOf i).toNat)
  case atStart => exact ⟨0, Nat.zero_le _, rfl, by simp [allI]⟩
  case round =>
    obtain ⟨k, hk, rfl, rfl⟩ := hrel
    by_cases hlt : k < n
    · obtain ⟨x, hx⟩ : ∃ x, Xs[k]? = some x := ⟨_, List.getElem?_eq_getElem (by have := HN.out; omega)⟩
      have hc := HC.out k (slvI x) (by simp [hx])
      unfold slvI at hc
      have e1 := hle.out (k + 1)
      rw [take_moreI Xs k x hx, allI_snoc, List.length_append] at e1
      obtain ⟨s, hs⟩ : ∃ s, s = (allI (Xs.take k)).length := ⟨_, rfl⟩
      obtain ⟨m, hm⟩ : ∃ m, m = x.2.2.length := ⟨_, rfl⟩
      have e2 : (allI (Xs.take (k + 1))).length = s + m := by rw [take_moreI Xs k x hx, allI_snoc, List.length_append, hs, hm]
      rw [← hs] at e1 ⊢
      rw [← hm] at e1 hc
      have E2 := keepf e2
      clear hs hm e2
      have d1 : decide ((s : Int) + m < 0) = false := by simp; omega
      go_wp2_with fail
      go_round
      case rel => exact ⟨k + 1, by omega, by go_num, by rw [E2.out]; go_num⟩
      case measure => simp [intOf]; omega
    · obtain rfl : n = k := by omega
      rw [HTK.out]
      obtain ⟨s, hs⟩ : ∃ s, s = (allI Xs).length := ⟨_, rfl⟩
      have HSS := keepf hs
      rw [← hs]
      have hsl : s ≤ 100000 := by have := HT.out; omega
      clear hs
      go_wp2_with (go_at_call 43; refine (growI_any s _ hsl).mono ?_; rintro e w3 ⟨A3, c3, rfl, ho3, hc3, hf3⟩; have HO3 := keepf ho3; have HC3 := keepf hc3; have HF3 := keepf hf3; clear ho3 hc3 hf3)
      go_loopw [6, 27] (fun va vb wr => ∃ k : Nat, ∃ A2 : Option Addr, ∃ c2 : Nat, k ≤ n ∧ vb = .int .i64 k ∧ va = .slice A2 (allI (Xs.take k)).length c2 ∧ Hid (OwnI wr A2 c2 (allI (Xs.take k))) ∧ Hid (Chg NoS w wr) ∧ Hid (∀ a, A2 = some a → w.heap.size ≤ a.block)) (fun _ vb _ => n - (intOf vb).toNat)
      case atStart => exact ⟨0, A3, c3, Nat.zero_le _, rfl, by simp [allI], keepf (by simpa [allI] using HO3.out), HC3.out, HF3.out⟩
      case round =>
        obtain ⟨k, A2, c2, hk, rfl, rfl, HO, HC1, HF⟩ := hrel
        by_cases hlt : k < n
        · obtain ⟨x, hx⟩ : ∃ x, Xs[k]? = some x := ⟨_, List.getElem?_eq_getElem (by have := HN.out; omega)⟩
          have hc := (HC1.out.cell (p := ⟨b, off + k, none⟩) (by exact cell_lt (HC.out k (slvI x) (by simp [hx]))) (fun h => h)).trans (HC.out k (slvI x) (by simp [hx]))
          unfold slvI at hc
          have HX := keepf (take_moreI Xs k x hx)
          have HSx := keepf ((HALL.out x (List.mem_of_getElem? hx)).below (w0 := w) HC1.out)
          have hlen := hle.out (k + 1)
          rw [HX.out, allI_snoc, List.length_append] at hlen
          have HLN := keepf hlen
          obtain ⟨xa, xc, xl⟩ := x
          clear hlen hx
          go_wp2_with (first
            | (at_builtin; go_loud (refine wpList_append_src rfl (.tmp 31) (.tmp 32) 32 rfl 3 i0 (.int .i64 0) 1 8 Try.underlying32 hi hz0 hz1 hz2 rfl (by decide) (.slice A2 (allI (Xs.take k)).length c2) _ _ rfl HO.out _ _ _ (icells xl) rfl HSx.out (icells_one _) (by have := HLN.out; unfold maxLen; simp at this; omega) (by have := HLN.out; simp at this; omega) ?_); intro S2 w2 hown2 hgr hat; obtain ⟨A4, c4, rfl, hA4⟩ := own_slice hown2; have HG2 := keepf hgr; have HO2 := keepf hown2; have HA2 := keepf hat; clear hgr hown2 hat hA4))
          go_roundw
          case rel =>
            refine ⟨k + 1, A4, c4, by omega, by go_num, ?_, ?_, HC1.out.grown HG2.out ?_, ?_⟩
            · rw [HX.out, allI_snoc]; simp
            · have h2 := HO2.out
              rw [HX.out, allI_snoc]
              show w2.ownsRow _ _ _ _ _ (icells _)
              rw [icells_app, List.length_append]
              exact h2
            · intro i hi hlt2
              rcases A2 with _ | a2
              · simp [Value.ownBlock] at hi
              · have h3 := HF.out a2 rfl
                simp [Value.ownBlock] at hi
                omega
            · rintro a rfl
              have hs := HC1.out.size
              rcases HA2.out with h3 | h3
              · rcases A2 with _ | a2
                · simp [Value.ownBlock] at h3
                · have h4 := HF.out a2 rfl
                  simp [Value.ownBlock] at h3
                  omega
              · simp [Value.ownBlock] at h3
                omega
          case measure => simp [intOf]; omega
        · obtain rfl : n = k := by omega
          rw [HTK.out] at HO ⊢
          go_wp2_with fail
          go_ret
          exact ⟨A2, c2, rfl, HO.out, HC1.out, HF.out⟩
end Go.Proofs.Ytbdnhhhagpgibaa
