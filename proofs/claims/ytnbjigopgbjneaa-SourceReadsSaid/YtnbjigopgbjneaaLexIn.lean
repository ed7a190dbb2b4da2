/- What comes in, for the words of a file: bytes, and bytes with a place and a number. -/
import Derived.Test.YtnbjigopgbjneaaLexB
import Derived.OpenShut
import Derived.Deep.Slices
import Derived.Lib.SmallJoins
namespace Go.Proofs.Ytnbjigopgbjneaa
open Go.RowKit Go.Deep Go.ChangeShapes Go.WideShapes
set_option linter.unusedVariables false

theorem open_capL {H : Type} {en : TypeId × Value → H} {P : Program} {w : World} {base fuel : Nat} {spare : Nat → Bool} {held : Bool} {t e : TypeId} {A : Option Addr} {len cap : Nat} {x : DataW H × List MemPlace}
    (ht : P.underlying t = some (.slice e)) (h : DataW.trod en P w base spare held fuel t [.slice A len cap] = some x) : len ≤ cap := by
  rcases open_slice ht h with ⟨h0, _⟩ | ⟨a, len', cap', m, n, D, Pl, hcs, hb, hl, _⟩
  · simp only [List.cons.injEq, Value.slice.injEq, and_true] at h0
    omega
  · simp only [List.cons.injEq, Value.slice.injEq, and_true] at hcs
    omega

def encL (b : Nat) : List Value := [.int .u8 (b : Nat)]

theorem byte_elL {H : Type} {en : TypeId × Value → H} {w : World} {base n : Nat} {spare : Nat → Bool} {held : Bool} {cs : List Value} {y : DataW H × List MemPlace}
    (h : DataW.trod en Try.prog w base spare held n 5 cs = some y) : ∃ p : Nat, cs = encL p ∧ p < 256 := by
  obtain ⟨z, rfl, hz⟩ := el_int Try.underlying5 h
  have b0 := bounds_u8 hz
  exact ⟨z.toNat, by simp [encL]; omega, by omega⟩

theorem flat_bytesL (bs : List Nat) : bs.flatMap encL = lcells bs := by
  induction bs with
  | nil => rfl
  | cons b bs ih => rw [List.flatMap_cons, ih]; rfl

end Go.Proofs.Ytnbjigopgbjneaa
