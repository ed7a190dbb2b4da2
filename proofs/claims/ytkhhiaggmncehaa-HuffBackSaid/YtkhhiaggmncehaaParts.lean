/- Parts, a number and how many bits it has: how they lie in memory, and how a list of them that comes in is opened. -/
import Derived.Test.YtkhhiaggmncehaaWorks
import Derived.Test.YtkhhiaggmncehaaOpen
import Derived.OpenShut
namespace Go.Proofs.Ytkhhiaggmncehaa
open Go.RowKit Go.ChangeShapes Go.WideShapes Go.ChangeAt
set_option linter.unusedVariables false

/-- A part: a number and a width, as cells. -/
def encP (p : Nat × Int) : List Value := [.int .u32 (p.1 : Nat), .int .i64 p.2]
def goodP (p : Nat × Int) : Prop := p.1 < 4294967296 ∧ -9223372036854775808 ≤ p.2 ∧ p.2 ≤ 9223372036854775807

theorem src_two (w : World) (u v : Value) (t : TypeId) : Src (w.alloc (.cells #[u, v] t)) 2 (some ⟨w.heap.size, 0, none⟩) 1 1 [u, v] :=
  ⟨rfl, fun h => (by cases h), fun ad had j x hx => by
    cases had
    match j, hx with
    | 0, hx => simp at hx; subst hx; simp [Addr.add]
    | 1, hx => simp at hx; subst hx; simp [Addr.add]
    | j + 2, hx => simp at hx⟩
theorem two_one (x : Nat) (z : Int) : ∀ u ∈ encP (x, z), u.oneCell' = true := by
  intro u hu
  simp [encP] at hu
  rcases hu with rfl | rfl <;> rfl

end Go.Proofs.Ytkhhiaggmncehaa
