/- A number (api.Value) that comes in. -/
import Derived.Test.YtnkfbjddlbdnfaaDoorOpen
import Derived.Test.YtnkfbjddlbdnfaaDoorProg
import Derived.OpenShut
import Derived.Deep.Slices
import Derived.Lib.SmallJoins
namespace Go.Proofs.YtnkfbjddlbdnfaaDoor
open Go.RowKit Go.Deep Go.ChangeShapes Go.WideShapes
set_option linter.unusedVariables false

set_option maxRecDepth 100000 in
theorem open_val {H : Type} {enc : TypeId × Value → H} {w : World} {base b0 : Nat} {spare : Nat → Bool} {held : Bool} {r : Reach} {v : Value} {d : DataW H} {p : List MemPlace} (hv : Value.okWide Tryd.prog w r b0 25 v)
    (h : DataW.Trod enc Tryd.prog w base spare held 25 v d p) :
    ∃ (k n : Int) (s : ByteArray) (A : Option Addr) (len cap : Nat), v = .agg #[.int .i64 k, .int .i64 n, .string s, .slice A len cap] ∧ (Lit.int .i64 k).wf = true ∧ (Lit.int .i64 n).wf = true ∧ s.size ≤ maxLen ∧ len ≤ maxLen := by
  obtain ⟨v0, v1, v2, v3, y0, y1, y2, y3, m, rfl, _, _, h0, h1, h2, h3⟩ := Go.Joins.open_agg4 Tryd.underlying25 (by kernel_rfl) (by kernel_rfl) hv h
  obtain ⟨z0, e0, g0⟩ := el_int Tryd.underlying3 h0
  obtain ⟨z1, e1, g1⟩ := el_int Tryd.underlying3 h1
  obtain ⟨s, e2, _, g2⟩ := DataW.trod_string Tryd.underlying9 h2
  simp only [List.cons.injEq, and_true] at e0 e1 e2
  subst e0 e1 e2
  rcases open_slice Tryd.underlying23 h3 with ⟨e3, _⟩ | ⟨a, len, cap, m', n', D, Pl, e3, _, hl, hc, _⟩
  · simp only [List.cons.injEq, and_true] at e3
    subst e3
    exact ⟨z0, z1, s, none, 0, 0, rfl, g0, g1, g2, Nat.zero_le _⟩
  · simp only [List.cons.injEq, and_true] at e3
    subst e3
    exact ⟨z0, z1, s, some a, len, cap, rfl, g0, g1, g2, Nat.le_trans hl hc⟩
end Go.Proofs.YtnkfbjddlbdnfaaDoor
