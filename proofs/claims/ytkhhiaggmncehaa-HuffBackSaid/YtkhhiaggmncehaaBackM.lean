/- Codes that are put one behind the other are got back: plain mathematics. -/
import Derived.Test.YtkhhiaggmncehaaPutH
namespace Go.Proofs.Ytkhhiaggmncehaa
open Go.RowKit
set_option linter.unusedVariables false
set_option linter.unusedSimpArgs false

theorem left_take (high : Bool) (L : List Bool) (a n : Nat) (h : a + n ≤ L.length) : (leftBits high (bytesOf high L) a).take n = (L.drop a).take n := by
  apply List.ext_getElem?
  intro j
  rw [List.getElem?_take, List.getElem?_take]
  by_cases hj : j < n
  · rw [if_pos hj, if_pos hj, List.getElem?_drop, leftBits, List.getElem?_drop]
    have h1 : a + j < 8 * (bytesOf high L).length := by rw [bytesOf_length]; unfold nby; omega
    have h2 : a + j < L.length := by omega
    simp [allBits, h1, bitAt_bytes, List.getD_eq_getElem?_getD, h2]
  · rw [if_neg hj, if_neg hj]

theorem vl_code (c n j : Nat) (hc : c < 2 ^ n) (hj : j ≤ n) : vl ((numBits true c n).take j) = c / 2 ^ (n - j) := by
  induction j with
  | zero =>
    rw [List.take_zero, Nat.sub_zero, Nat.div_eq_of_lt hc]
    rfl
  | succ j ih =>
    rw [numBits_take _ _ _ (by omega), vl_snoc, ih (by omega), ← bit_shift]
    obtain ⟨i, hi⟩ : ∃ i, i = n - 1 - j := ⟨_, rfl⟩
    rw [← hi, show n - j = i + 1 from by omega, show n - (j + 1) = i from by omega, Nat.pow_succ, ← Nat.div_div_eq_div_mul]
    omega

/-- The bits of symbols, one behind the other. -/
def symBits (ls : List Int) (ins : List Nat) : List Bool := ins.flatMap (codeBits ls)
theorem symBits_snoc (ls : List Int) (ins : List Nat) (s : Nat) : symBits ls (ins ++ [s]) = symBits ls ins ++ codeBits ls s := by simp [symBits]
theorem symBits_split (ls : List Int) (ins : List Nat) (k s : Nat) (h : ins[k]? = some s) : symBits ls ins = symBits ls (ins.take k) ++ (codeBits ls s ++ symBits ls (ins.drop (k + 1))) := by
  have hk := (List.getElem?_eq_some_iff.1 h).1
  have e : ins = ins.take k ++ s :: ins.drop (k + 1) := by
    have h1 := List.take_append_drop k ins
    have h2 : ins.drop k = s :: ins.drop (k + 1) := by
      rw [List.drop_eq_getElem_cons hk, (List.getElem?_eq_some_iff.1 h).2]
    rw [h2] at h1
    exact h1.symm
  have h2 : symBits ls ins = symBits ls (ins.take k ++ s :: ins.drop (k + 1)) := by rw [← e]
  rw [h2]
  simp [symBits]

theorem take_code {ls : List Int} {ins : List Nat} (high : Bool) (k s : Nat) (hM : May ls) (h : ins[k]? = some s) (hs : s < ls.length) (hn : lenAt ls s ≠ 0) :
    Out ls (leftBits high (bytesOf high (symBits ls ins)) (symBits ls (ins.take k)).length) s (lenAt ls s) 0 := by
  have hsp := symBits_split ls ins k s h
  obtain ⟨a, ha⟩ : ∃ a, a = (symBits ls (ins.take k)).length := ⟨_, rfl⟩
  have hlen : a + lenAt ls s ≤ (symBits ls ins).length := by
    rw [hsp, List.length_append, List.length_append, codeBits_len, ha]; omega
  rw [← ha]
  have hls := some_lenAt hM.2.2.1 hs
  have hcl := cd_lt hM hn hls
  have htake : ∀ m, m ≤ lenAt ls s → (leftBits high (bytesOf high (symBits ls ins)) a).take m = (codeBits ls s).take m := by
    intro m hm
    rw [left_take _ _ _ _ (by omega), hsp, ha, List.drop_left, List.take_append_of_le_length (by rw [codeBits_len]; exact hm)]
  have hv : ∀ m, m ≤ lenAt ls s → vl ((leftBits high (bytesOf high (symBits ls ins)) a).take m) = cd ls s / 2 ^ (lenAt ls s - m) := by
    intro m hm
    rw [htake m hm]
    exact vl_code _ _ _ hcl hm
  refine .ok _ _ ⟨hn, ?_, hls, ?_⟩ (fun m q hm hh => ?_)
  · rw [leftBits_len, bytesOf_length]; unfold nby; omega
  · rw [hv _ (Nat.le_refl _), Nat.sub_self, Nat.pow_zero, Nat.div_one]
  · obtain ⟨h1, h2, h3, h4⟩ := hh
    rw [hv m (by omega)] at h4
    have hne : q ≠ s := by
      rintro rfl
      rw [hls] at h3
      have := Option.some.inj h3
      omega
    exact apart h1 (by omega) h3 hls hne h4.symm
end Go.Proofs.Ytkhhiaggmncehaa
