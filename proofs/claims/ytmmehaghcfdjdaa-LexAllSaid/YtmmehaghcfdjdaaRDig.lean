/- The document's own Digits. -/
import Derived.Test.YtmmehaghcfdjdaaStr9
import Derived.Test.YtmmehaghcfdjdaaProg
import Derived.WalkKit
import Derived.WalkMore
namespace Go.Proofs.Ytmmehaghcfdjdaa
open Go.RowKit
set_option linter.unusedVariables false
set_option linter.unusedSimpArgs false

/-- What digits tell: the number, and the error. -/
def dgOf (l : List Nat) : Int × Int := if l = [] ∨ ∃ d ∈ l, ¬ isD d then (0, 11) else if 2147483647 < valF 0 l then (0, 5) else (((valF 0 l : Nat) : Int), 0)
theorem valF_ge (l : List Nat) : ∀ a, a ≤ valF a l := by
  induction l with
  | nil => intro a; exact Nat.le_refl _
  | cons x l ih =>
    intro a
    have := ih (10 * a + (x - 48))
    show a ≤ valF (10 * a + (x - 48)) l
    omega
theorem valF_part (l : List Nat) (k : Nat) : valF 0 (l.take k) ≤ valF 0 l := by
  have h := valF_app 0 (l.take k) (l.drop k)
  rw [List.take_append_drop] at h
  rw [h]
  exact valF_ge _ _
theorem dg_bad {l : List Nat} (h : l = [] ∨ ∃ d ∈ l, ¬ isD d) : dgOf l = (0, 11) := if_pos h
theorem dg_big {l : List Nat} (h0 : l ≠ []) (h1 : ∀ d ∈ l, isD d) (h : 2147483647 < valF 0 l) : dgOf l = (0, 5) := by
  unfold dgOf
  rw [if_neg (by rintro (h | ⟨d, hd, h⟩); exact h0 h; exact h (h1 d hd)), if_pos h]
theorem dg_ok {l : List Nat} (h0 : l ≠ []) (h1 : ∀ d ∈ l, isD d) (h : ¬ 2147483647 < valF 0 l) : dgOf l = (((valF 0 l : Nat) : Int), 0) := by
  unfold dgOf
  rw [if_neg (by rintro (h | ⟨d, hd, h⟩); exact h0 h; exact h (h1 d hd)), if_neg h]
end Go.Proofs.Ytmmehaghcfdjdaa
