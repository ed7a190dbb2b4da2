/- Bytes that come in. -/
import Derived.Test.YtbdnhhhagpgibaaWorkI
import Derived.Test.YtbdnhhhagpgibaaOpen
import Derived.OpenShut
namespace Go.Proofs.Ytbdnhhhagpgibaa
open Go.RowKit Go.Deep Go.ChangeShapes Go.WideShapes
set_option linter.unusedVariables false

def encU (b : Nat) : List Value := [.int .u8 (b : Nat)]
theorem byte_elU {H : Type} {en : TypeId × Value → H} {w : World} {base n : Nat} {spare : Nat → Bool} {held : Bool} {cs : List Value} {y : DataW H × List MemPlace}
    (h : DataW.trod en Try.prog w base spare held n 5 cs = some y) : ∃ p : Nat, cs = encU p ∧ p < 256 := by
  obtain ⟨z, rfl, hz⟩ := el_int Try.underlying5 h
  have b0 := bounds_u8 hz
  exact ⟨z.toNat, by simp [encU]; omega, by omega⟩
theorem flat_bytesU (bs : List Nat) : bs.flatMap encU = ucells bs := by
  induction bs with
  | nil => rfl
  | cons b bs ih => rw [List.flatMap_cons, ih]; rfl
end Go.Proofs.Ytbdnhhhagpgibaa
