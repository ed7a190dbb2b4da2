/- What Put of a table does to a writer: a symbol's code, bit by bit; and how codes are got back. -/
import Derived.Test.YtkhhiaggmncehaaGetH
import Derived.Test.YtkhhiaggmncehaaWriter
namespace Go.Proofs.Ytkhhiaggmncehaa
open Go.RowKit
set_option linter.unusedVariables false
set_option linter.unusedSimpArgs false

/-- A code's bits. -/
def codeBits (ls : List Int) (s : Nat) : List Bool := numBits true (cd ls s) (lenAt ls s)
theorem codeBits_len (ls : List Int) (s : Nat) : (codeBits ls s).length = lenAt ls s := by simp [codeBits, numBits_length]
theorem numBits_take (c n j : Nat) (h : j < n) : (numBits true c n).take (j + 1) = (numBits true c n).take j ++ [c.testBit (n - 1 - j)] := by
  rw [List.take_succ_eq_append_getElem (by rw [numBits_length]; exact h)]
  congr 2
  simp [numBits]
theorem numBits_one (high b : Bool) : numBits high b.toNat 1 = [b] := by cases high <;> cases b <;> rfl
theorem bit_shift (c i : Nat) : c / 2 ^ i % 2 = (c.testBit i).toNat := by
  rw [Nat.testBit_eq_decide_div_mod_eq]
  rcases Nat.mod_two_eq_zero_or_one (c / 2 ^ i) with h | h <;> simp [h]

/-- A symbol that has a code. -/
def Has (ls : List Int) (s : Int) : Prop := 0 ≤ s ∧ s < ls.length ∧ lenAt ls s.toNat ≠ 0

set_option maxRecDepth 100000 in
theorem tput_bad (g gw : Nat) (ls : List Int) (s : Int) (w : World) (hM : May ls) (hT : Tb w g ls) (hb : ¬ Has ls s) (h1 : -9223372036854775808 ≤ s) (h2 : s ≤ 9223372036854775807) :
    Calls Try.prog 21 #[.pointer (some ⟨g, 0, none⟩), .pointer (some ⟨gw, 0, none⟩), .int .i64 s] w fun e w' => e = .returned (.int .i64 2) ∧ w = w' := by
  obtain ⟨T, Sy, hB, hTi, hSy⟩ := hT
  have c0 : w.cell? ⟨g, 0, none⟩ = some (.bool true) := by rw [hB.cell, hTi.made]
  have c1 : w.cell? ⟨g, 1, none⟩ = some (.int .i64 (ls.length : Nat)) := by rw [hB.cell, hTi.n]
  by_cases ha : s < 0
  · have d1 : decide (s < 0) = true := by simpa using ha
    clear hb hB hTi hSy
    go_enter Try.func21, Try.ntmps21
    go_wp2_with (go_at_call 31; refine (ready_any g _ c0).mono ?_; rintro e w' ⟨rfl, rfl⟩)
    go_ret
    exact ⟨rfl, rfl⟩
  · have d1 : decide (s < 0) = false := by simpa using ha
    by_cases hl : (ls.length : Int) ≤ s
    · have d2 : decide ((ls.length : Int) ≤ s) = true := by simpa using hl
      clear hb hB hTi hSy
      go_enter Try.func21, Try.ntmps21
      go_wp2_with (go_at_call 31; refine (ready_any g _ c0).mono ?_; rintro e w' ⟨rfl, rfl⟩)
      go_ret
      exact ⟨rfl, rfl⟩
    · have d2 : decide ((ls.length : Int) ≤ s) = false := by simpa using hl
      obtain ⟨s, rfl⟩ := Int.eq_ofNat_of_zero_le (by omega : 0 ≤ s)
      have hl320 := hM.2.1
      have hz : lenAt ls s = 0 := by
        rcases Nat.eq_zero_or_pos (lenAt ls s) with h | h
        · exact h
        · exact absurd ⟨by omega, by omega, by simp; omega⟩ hb
      have c2 : w.cell? ⟨g, 3 + s, none⟩ = some (.int .i64 0) := by
        have h3 := some_lenAt hM.2.2.1 (s := s) (by omega)
        rw [hB.cell, hTi.len s (by omega), List.getD_eq_getElem?_getD, h3, hz]
        rfl
      have hs320 : (s : Int) < 320 := by omega
      clear hb hB hTi hSy hM
      go_enter Try.func21, Try.ntmps21
      go_wp2_with (go_at_call 31; refine (ready_any g _ c0).mono ?_; rintro e w' ⟨rfl, rfl⟩)
      go_ret
      exact ⟨rfl, rfl⟩

/-- Behind a Put of a symbol that has a code. -/
def TPutTo (w : World) (gw : Nat) (high : Bool) (L : List Bool) (S : Value) (e : Ending) (w' : World) : Prop :=
  e = .returned (.int .i64 0) ∧ ∃ S', Wr w' gw high L S' ∧ Chg (WS gw S) w w' ∧ (∀ i, WS gw S' i → WS gw S i ∨ w.heap.size ≤ i)

set_option maxHeartbeats 2000000 in
set_option maxRecDepth 100000 in
theorem tput_ok (g gw s : Nat) (high : Bool) (L : List Bool) (S : Value) (ls : List Int) (w : World) (hM : May ls) (hT : Tb w g ls) (hW : Wr w gw high L S) (hL : L.length ≤ 100000) (hs : s < ls.length) (hn0 : lenAt ls s ≠ 0) (hne : ¬ WS gw S g) :
    Calls Try.prog 21 #[.pointer (some ⟨g, 0, none⟩), .pointer (some ⟨gw, 0, none⟩), .int .i64 s] w (TPutTo w gw high (L ++ codeBits ls s) S) := by
  have hGlt := hT.lt
  obtain ⟨T, Sy, hB, hTi, hSy⟩ := hT
  have hl320 := hM.2.1
  have h3 := some_lenAt hM.2.2.1 hs
  have hcl := cd_lt hM hn0 h3
  have hn15 := lenAt_le hM.2.2.1 s
  have hCB : codeBits ls s = numBits true (cd ls s) (lenAt ls s) := rfl
  have c0 : w.cell? ⟨g, 0, none⟩ = some (.bool true) := by rw [hB.cell, hTi.made]
  have c1 : w.cell? ⟨g, 1, none⟩ = some (.int .i64 (ls.length : Nat)) := by rw [hB.cell, hTi.n]
  have c2 : w.cell? ⟨g, 3 + s, none⟩ = some (.int .i64 (lenAt ls s : Nat)) := by
    rw [hB.cell, hTi.len s (by omega), List.getD_eq_getElem?_getD, h3]
    rfl
  have c3 : w.cell? ⟨g, 323 + s, none⟩ = some (.int .u32 (cd ls s : Nat)) := by rw [hB.cell, hTi.code s (by omega)]
  rw [hCB]
  generalize cd ls s = cw at *
  generalize lenAt ls s = n at *
  have hs320 : (s : Int) < 320 := by omega
  have hsl : (s : Int) < ls.length := by omega
  have d1 : decide ((s : Int) < 0) = false := by simp
  have d2 : decide (ls.length ≤ s) = false := by simp; omega
  have d3 : decide ((ls.length : Int) ≤ s) = false := by simp; omega
  have hnn : ((n : Int) == 0) = false := by simp; omega
  have HC3 := keepf c3
  have HW := keepf hW
  have HNE := keepf hne
  have HCL := keepf hcl
  have hcw : cw < 32768 := by
    have : 2 ^ n ≤ 2 ^ 15 := Nat.pow_le_pow_right (by decide) hn15
    omega
  clear hW hB hTi hSy hM h3 hne hCB hcl c3
  go_enter Try.func21, Try.ntmps21
  go_wp2_with (go_at_call 31; refine (ready_any g _ c0).mono ?_; rintro e w' ⟨rfl, rfl⟩)
  clear c0 c1 c2 d1 d2 d3 hnn
  go_loopw [7] (fun i wr => ∃ j : Nat, ∃ S' : Value, j ≤ n ∧ i = .int .i64 ((n : Int) - 1 - j) ∧ Wr wr gw high (L ++ (numBits true cw n).take j) S' ∧ Chg (WS gw S) w wr ∧ Hid (∀ i, WS gw S' i → WS gw S i ∨ w.heap.size ≤ i)) (fun i _ => (intOf i + 1).toNat)
  case atStart => exact ⟨0, S, by omega, by go_num, by simpa using HW.out, Chg.refl _ _, fun i h => .inl h⟩
  case round =>
    obtain ⟨j, S', hj, rfl, hWr, hch, hF⟩ := hrel
    have HWr := keepf hWr
    have HCh := keepf hch
    clear hWr hch HW
    by_cases hlt : j < n
    · obtain ⟨i, hi⟩ : ∃ i : Nat, i = n - 1 - j := ⟨_, rfl⟩
      have hii : ((n : Int) - 1 - j) = (i : Int) := by omega
      rw [hii]
      have hbs := bit_shift cw i
      obtain ⟨b, hb⟩ : ∃ b, b = cw.testBit i := ⟨_, rfl⟩
      rw [← hb] at hbs
      have e3 : wr.cell? ⟨g, 323 + s, none⟩ = some (.int .u32 (cw : Nat)) := (HCh.out.cell (p := ⟨g, 323 + s, none⟩) hGlt (fun e => HNE.out e)).trans HC3.out
      have hand : bits BinOp.and IntKind.u32 ((cw : Int) / 2 ^ i) 1 = ((b.toNat : Nat) : Int) := by
        have := piece_eq cw i 1 (by omega) (by omega)
        rw [show (((2 : Int) ^ 1 - 1) % 4294967296) = 1 from by decide, Nat.pow_one, hbs] at this
        exact this
      have HPT := keepf (put_ok gw high (L ++ (numBits true cw n).take j) S' b.toNat 1 wr HWr.out (by simp [numBits_length]; omega) (by omega) (by cases b <;> simp))
      have hi15 : i ≤ 15 := by omega
      have HI := keepf hi
      have HBB := keepf hb
      clear hi hb hbs
      obtain ⟨z, hz⟩ : ∃ z, z = b.toNat := ⟨_, rfl⟩
      rw [← hz] at hand HPT
      have HZ := keepf hz
      clear hz
      go_wp2_with (go_at_call 34; refine HPT.out.mono ?_; intro e w3 hp; obtain ⟨rfl, S3, hw3, hc3, hf3⟩ := hp.got; have HW3 := keepf hw3; have HC33 := keepf hc3; have HF3 := keepf hf3; clear hp hw3 hc3 hf3)
      go_roundw
      case rel =>
        have hlb : (numBits true cw n).take (j + 1) = (numBits true cw n).take j ++ [b] := by rw [numBits_take _ _ _ hlt, HBB.out, HI.out]
        refine ⟨j + 1, S3, by omega, by go_num, ?_, ?_, ?_⟩
        · have := HW3.out
          rw [HZ.out, numBits_one, List.append_assoc, ← hlb] at this
          exact this
        · exact HCh.out.trans HC33.out (fun q hq h => by
            rcases hF.out q h with h1 | h1
            · exact h1
            · omega)
        · intro q hq
          rcases HF3.out q hq with h1 | h1
          · exact hF.out q h1
          · exact .inr (Nat.le_trans HCh.out.size h1)
      case measure => simp [intOf]
    · obtain rfl : n = j := by omega
      go_wp2_with fail
      go_ret
      refine ⟨rfl, S', ?_, HCh.out, hF.out⟩
      have := HWr.out
      rwa [List.take_of_length_le (by rw [numBits_length]; exact Nat.le_refl _)] at this
end Go.Proofs.Ytkhhiaggmncehaa
