/- What a printed number is to be read as. -/
import Derived.Test.YtnkfbjddlbdnfaaDoorNCon
namespace Go.Proofs.YtnkfbjddlbdnfaaDoor
open Go.RowKit
set_option linter.unusedVariables false

theorem trimZ_len : ∀ (k : Nat) (l : List Nat), (trimZ k l).length ≤ l.length := by
  intro k
  induction k with
  | zero => intro l; exact Nat.le_refl _
  | succ k ih =>
    intro l
    rw [trimZ]
    split
    · exact Nat.le_trans (ih _) (by rw [List.length_dropLast]; omega)
    · exact Nat.le_refl _
theorem txt_len10 {n m : Nat} (h : n < 10 ^ 10) (hm : m ≤ 10) : (txt n m).length ≤ 10 := by
  rw [txt_len]
  exact Nat.max_le.2 ⟨hm, dn_len h⟩
theorem sign_lt (x : Int) : ∀ d ∈ signL x, d < 256 := by
  unfold signL
  split <;> simp
theorem sign_len (x : Int) : (signL x).length ≤ 1 := by
  unfold signL
  split <;> simp
/-- The text of a number that may be one. -/
def tellL (k : Nat) (x : Int) : List Nat := if (k : Int) = 2 then intTxt x else realTxt x
theorem tell_back {k : Nat} {x : Int} (h : mayN k x) : numOf (tellL k x) = (0, k, x) ∧ (∀ d ∈ tellL k x, d < 256) ∧ (tellL k x).length ≤ 100 := by
  have h := h
  unfold mayN at h
  rcases h with ⟨hk, h1, h2⟩ | ⟨hk, h1, h2⟩
  · obtain rfl : k = 2 := by omega
    have e : tellL 2 x = intTxt x := if_pos rfl
    rw [e]
    refine ⟨int_back x (by omega), ?_, ?_⟩
    · intro d hd
      rcases List.mem_append.1 hd with h | h
      · exact sign_lt x d h
      · exact dig_lt (txt_dig _ _) d h
    · have a := sign_len x
      have b := txt_len10 (n := x.natAbs) (m := 1) (by omega) (by omega)
      rw [intTxt, List.length_append]
      omega
  · obtain rfl : k = 3 := by omega
    have e : tellL 3 x = realTxt x := if_neg (by decide)
    rw [e]
    refine ⟨real_back x (by omega), ?_, ?_⟩
    · intro d hd
      rcases List.mem_append.1 hd with h | h
      · exact sign_lt x d h
      · rcases List.mem_append.1 h with h | h
        · exact dig_lt (txt_dig _ _) d h
        · rcases List.mem_cons.1 h with rfl | h
          · decide
          · exact dig_lt (trimZ_dig _ _ (txt_dig _ _)) d h
    · have a := sign_len x
      have b := txt_len10 (n := x.natAbs / 1000000) (m := 1) (by omega) (by omega)
      have c := trimZ_len 5 (txt (x.natAbs % 1000000) 6)
      have d := txt_len10 (n := x.natAbs % 1000000) (m := 6) (by omega) (by omega)
      rw [realTxt, List.length_append, List.length_append, List.length_cons]
      omega
theorem tell_num {k : Nat} {x : Int} (h : mayN k x) : numOf (sl (sb (tellL k x))) = (0, k, x) ∧ (sb (tellL k x)).size ≤ 100 := by
  obtain ⟨h1, h2, h3⟩ := tell_back h
  rw [sl_sb _ h2, sb_size]
  exact ⟨h1, h3⟩
theorem pr_tell {k : Nat} {x : Int} (h : mayN k x) : prOf k x 0 0 = (tellL k x, 0) := by
  unfold prOf
  rw [if_pos (show chkOf k x 0 0 = 0 from if_pos ⟨rfl, rfl, h⟩)]
  rfl
theorem num_err {l : List Nat} {z : Int} {k : Nat} {x : Int} (h : numOf l = (z, k, x)) (hz : z ≠ 0) : k = 0 ∧ x = 0 := by
  unfold numOf at h
  split at h
  · cases h; exact ⟨rfl, rfl⟩
  · split at h
    · cases h; exact ⟨rfl, rfl⟩
    · split at h
      · cases h; exact ⟨rfl, rfl⟩
      · cases h; exact absurd rfl hz
theorem num_may {l : List Nat} {k : Nat} {x : Int} (h : numOf l = (0, k, x)) : mayN k x := by
  rcases numOf_may h with ⟨h1, h2⟩ | ⟨h1, h2⟩
  · exact .inl ⟨by omega, by omega, by omega⟩
  · exact .inr ⟨by omega, by omega, by omega⟩
end Go.Proofs.YtnkfbjddlbdnfaaDoor
