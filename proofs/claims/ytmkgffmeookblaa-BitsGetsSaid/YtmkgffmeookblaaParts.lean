/- Parts, a number and how many bits it has: how they lie in memory, and how a list of them that comes in is opened. -/
import Derived.Test.YtmkgffmeookblaaWorks
import Derived.Test.YtmkgffmeookblaaOpen
import Derived.OpenShut
namespace Go.Proofs.Ytmkgffmeookblaa
open Go.RowKit Go.ChangeShapes Go.WideShapes Go.ChangeAt
set_option linter.unusedVariables false

/-- A part: a number and a width, as cells. -/
def encP (p : Nat × Int) : List Value := [.int .u32 (p.1 : Nat), .int .i64 p.2]
def goodP (p : Nat × Int) : Prop := p.1 < 4294967296 ∧ -9223372036854775808 ≤ p.2 ∧ p.2 ≤ 9223372036854775807

theorem info_part : (Try.prog.info? 29).map (fun i => (i.zero, i.size, i.bytes)) = some (some (.agg #[.int .u32 0, .int .i64 0]), 2, 16) := by kernel_rfl

theorem part_el {H : Type} {en : TypeId × Value → H} {w : World} {base n : Nat} {spare : Nat → Bool} {held : Bool} {cs : List Value} {y : DataW H × List MemPlace}
    (h : DataW.trod en Try.prog w base spare held n 29 cs = some y) : ∃ p, cs = encP p ∧ goodP p := by
  obtain ⟨u, v, m, y0, y1, rfl, h0, h1⟩ := el_two Try.underlying29 (by kernel_rfl) (by kernel_rfl) h
  obtain ⟨z0, e0, g0⟩ := el_int Try.underlying27 h0
  obtain ⟨z1, e1, g1⟩ := el_int Try.underlying3 h1
  simp only [List.cons.injEq, and_true] at e0 e1
  subst e0 e1
  have b0 := bounds_u32 g0
  have b1 := bounds_i64 g1
  exact ⟨(z0.toNat, z1), by simp [encP]; omega, by unfold goodP; simp; omega⟩

theorem src_two (w : World) (u v : Value) (t : TypeId) : Src (w.alloc (.cells #[u, v] t)) 2 (some ⟨w.heap.size, 0, none⟩) 1 1 [u, v] :=
  ⟨rfl, fun h => (by cases h), fun ad had j x hx => by
    cases had
    match j, hx with
    | 0, hx => simp at hx; subst hx; simp [Addr.add]
    | 1, hx => simp at hx; subst hx; simp [Addr.add]
    | j + 2, hx => simp at hx⟩
theorem two_one (x : Nat) (z : Int) : ∀ u ∈ encP (x, z), u.oneCell' = true := by
  intro u hu
  simp [encP] at hu
  rcases hu with rfl | rfl <;> rfl

end Go.Proofs.Ytmkgffmeookblaa
