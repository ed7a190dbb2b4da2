/- Lengths that come in. -/
import Derived.Test.YtkhhiaggmncehaaCodesR
import Derived.Test.YtkhhiaggmncehaaWorkH
import Derived.OpenShut
namespace Go.Proofs.Ytkhhiaggmncehaa
open Go.RowKit Go.Deep Go.ChangeShapes Go.WideShapes
set_option linter.unusedVariables false

def encI (z : Int) : List Value := [.int .i64 z]
def goodI (z : Int) : Prop := -9223372036854775808 ≤ z ∧ z ≤ 9223372036854775807
theorem int_el {H : Type} {en : TypeId × Value → H} {w : World} {base n : Nat} {spare : Nat → Bool} {held : Bool} {cs : List Value} {y : DataW H × List MemPlace}
    (h : DataW.trod en Try.prog w base spare held n 3 cs = some y) : ∃ p : Int, cs = encI p ∧ goodI p := by
  obtain ⟨z, rfl, hz⟩ := el_int Try.underlying3 h
  exact ⟨z, rfl, bounds_i64 hz⟩
theorem flat_ints (ls : List Int) : ls.flatMap encI = icells ls := by
  induction ls with
  | nil => rfl
  | cons b bs ih => rw [List.flatMap_cons, ih]; rfl
end Go.Proofs.Ytkhhiaggmncehaa
