/- The document's own Check of a number. -/
import Derived.Test.YtmmehaghcfdjdaaRPad
namespace Go.Proofs.Ytmmehaghcfdjdaa
open Go.RowKit
set_option linter.unusedVariables false
set_option linter.unusedSimpArgs false

/-- May a number be? -/
def mayN (k n : Int) : Prop := (k = 2 ∧ -2147483647 ≤ n ∧ n ≤ 2147483647) ∨ (k = 3 ∧ -2147483647000000 ≤ n ∧ n ≤ 2147483647000000)
instance (k n : Int) : Decidable (mayN k n) := inferInstanceAs (Decidable (_ ∨ _))
def chkOf (k n : Int) (sz len : Nat) : Int := if sz = 0 ∧ len = 0 ∧ mayN k n then 0 else 2
theorem str_nil {s : ByteArray} (h : s.size = 0) : s = ⟨#[]⟩ := by
  obtain ⟨a⟩ := s
  have h : a.size = 0 := h
  rw [Array.eq_empty_of_size_eq_zero h]
theorem str_ne {s : ByteArray} (h : s.size ≠ 0) : ¬ s.toList = [] := by
  rw [ByteArray.toList_eq]
  obtain ⟨⟨l⟩⟩ := s
  have h : l.length ≠ 0 := h
  rcases l with _ | ⟨x, l⟩
  · simp at h
  · intro h2; cases h2
end Go.Proofs.Ytmmehaghcfdjdaa
