/- Bytes that come in. -/
import Derived.Test.YtbdnhhhagpgibaaWorkI
import Derived.Test.YtbdnhhhagpgibaaOpen
import Derived.OpenShut
namespace Go.Proofs.Ytbdnhhhagpgibaa
open Go.RowKit Go.Deep Go.ChangeShapes Go.WideShapes
set_option linter.unusedVariables false

/-- A slice that came in is no longer than its block. -/
theorem open_capU {H : Type} {en : TypeId × Value → H} {P : Program} {w : World} {base fuel : Nat} {spare : Nat → Bool} {held : Bool} {t e : TypeId} {A : Option Addr} {len cap : Nat} {x : DataW H × List MemPlace}
    (ht : P.underlying t = some (.slice e)) (h : DataW.trod en P w base spare held fuel t [.slice A len cap] = some x) : len ≤ cap := by
  rcases open_slice ht h with ⟨h0, _⟩ | ⟨a, len', cap', m, n, D, Pl, hcs, hb, hl, _⟩
  · simp only [List.cons.injEq, Value.slice.injEq, and_true] at h0
    omega
  · simp only [List.cons.injEq, Value.slice.injEq, and_true] at hcs
    omega

def encU (b : Nat) : List Value := [.int .u8 (b : Nat)]
theorem byte_elU {H : Type} {en : TypeId × Value → H} {w : World} {base n : Nat} {spare : Nat → Bool} {held : Bool} {cs : List Value} {y : DataW H × List MemPlace}
    (h : DataW.trod en Try.prog w base spare held n 5 cs = some y) : ∃ p : Nat, cs = encU p ∧ p < 256 := by
  obtain ⟨z, rfl, hz⟩ := el_int Try.underlying5 h
  have b0 := bounds_u8 hz
  exact ⟨z.toNat, by simp [encU]; omega, by omega⟩
theorem flat_bytesU (bs : List Nat) : bs.flatMap encU = ucells bs := by
  induction bs with
  | nil => rfl
  | cons b bs ih => rw [List.flatMap_cons, ih]; rfl
end Go.Proofs.Ytbdnhhhagpgibaa
