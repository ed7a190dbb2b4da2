/- What comes in: bytes, tokens, three numbers. -/
import Derived.Test.YtomkejeofcpchaaWorkL
import Derived.OpenShut
import Derived.Laws.IdiomArrays
import Derived.Lib.SmallJoins
namespace Go.Proofs.Ytomkejeofcpchaa
open Go.RowKit Go.Deep Go.ChangeShapes Go.WideShapes
set_option linter.unusedVariables false

/-- A slice that came in is no longer than its block. -/
theorem open_capO {H : Type} {en : TypeId × Value → H} {P : Program} {w : World} {base fuel : Nat} {spare : Nat → Bool} {held : Bool} {t e : TypeId} {A : Option Addr} {len cap : Nat} {x : DataW H × List MemPlace}
    (ht : P.underlying t = some (.slice e)) (h : DataW.trod en P w base spare held fuel t [.slice A len cap] = some x) : len ≤ cap := by
  rcases open_slice ht h with ⟨h0, _⟩ | ⟨a, len', cap', m, n, D, Pl, hcs, hb, hl, _⟩
  · simp only [List.cons.injEq, Value.slice.injEq, and_true] at h0
    omega
  · simp only [List.cons.injEq, Value.slice.injEq, and_true] at hcs
    omega

def encO (b : Nat) : List Value := [.int .u8 (b : Nat)]
theorem byte_elO {H : Type} {en : TypeId × Value → H} {w : World} {base n : Nat} {spare : Nat → Bool} {held : Bool} {cs : List Value} {y : DataW H × List MemPlace}
    (h : DataW.trod en Try.prog w base spare held n 5 cs = some y) : ∃ p : Nat, cs = encO p ∧ p < 256 := by
  obtain ⟨z, rfl, hz⟩ := el_int Try.underlying5 h
  have b0 := bounds_u8 hz
  exact ⟨z.toNat, by simp [encO]; omega, by omega⟩
theorem flat_bytesO (bs : List Nat) : bs.flatMap encO = ocells bs := by
  induction bs with
  | nil => rfl
  | cons b bs ih => rw [List.flatMap_cons, ih]; rfl

/-- A struct of three fields of one cell each. -/
theorem el_three {H : Type} {en : TypeId × Value → H} {P : Program} {w : World} {base n : Nat} {spare : Nat → Bool} {held : Bool} {e : TypeId} {cs : List Value} {y : DataW H × List MemPlace} {f0 f1 f2 : Field}
    (he : P.underlying e = some (.struct #[f0, f1, f2])) (hone : oneCellFields P #[f0, f1, f2] = true) (hC : P.cellsOf e = 3) (h : DataW.trod en P w base spare held n e cs = some y) :
    ∃ u v x m y0 y1 y2, cs = [u, v, x] ∧ DataW.trod en P w base spare held m f0.type [u] = some y0 ∧ DataW.trod en P w base spare held m f1.type [v] = some y1 ∧ DataW.trod en P w base spare held m f2.type [x] = some y2 := by
  obtain ⟨xs, m, _, _, hl, hx, hf⟩ := DataW.trod_struct he h
  rw [hC] at hl
  obtain ⟨o0, c0⟩ := hone_of hone 0 f0 rfl
  obtain ⟨o1, c1⟩ := hone_of hone 1 f1 rfl
  obtain ⟨o2, c2⟩ := hone_of hone 2 f2 rfl
  have h0 := hf 0 f0 rfl
  have h1 := hf 1 f1 rfl
  have h2 := hf 2 f2 rfl
  rw [o0, c0] at h0
  rw [o1, c1] at h1
  rw [o2, c2] at h2
  match cs, hl with
  | [u, v, x], _ =>
    simp at hx
    rw [List.getElem?_eq_getElem (by omega)] at h0 h1 h2
    exact ⟨u, v, x, m, _, _, _, rfl, by simpa using h0, by simpa using h1, by simpa using h2⟩

theorem tok_el {H : Type} {en : TypeId × Value → H} {w : World} {base n : Nat} {spare : Nat → Bool} {held : Bool} {cs : List Value} {y : DataW H × List MemPlace}
    (h : DataW.trod en Try.prog w base spare held n 46 cs = some y) : ∃ p : Tk, cs = encT p ∧ p.good := by
  obtain ⟨u, v, x, m, y0, y1, y2, rfl, h0, h1, h2⟩ := el_three Try.underlying46 (by kernel_rfl) (by kernel_rfl) h
  obtain ⟨z0, e0, g0⟩ := el_int Try.underlying5 h0
  obtain ⟨z1, e1, g1⟩ := el_int Try.underlying3 h1
  obtain ⟨z2, e2, g2⟩ := el_int Try.underlying3 h2
  simp only [List.cons.injEq, and_true] at e0 e1 e2
  subst e0 e1 e2
  have b0 := bounds_u8 g0
  exact ⟨⟨z0.toNat, z1, z2⟩, by simp [encT]; omega, by show z0.toNat < 256; omega, bounds_i64 g1, bounds_i64 g2⟩

theorem okWide_array {P : Program} {w : World} {r : Reach} {base : Nat} {t e : TypeId} {n : Nat} {v : Value} (ht : P.underlying t = some (.array n e)) (h : Value.okWide P w r base t v) : ∃ cs, v = .agg cs ∧ cs.size = P.cellsOf t := by
  simp only [Value.okWide, ht] at h
  obtain ⟨cs, h1, h2, _⟩ := h
  exact ⟨cs, h1, h2⟩

theorem open_arr3 {H : Type} {enc : TypeId × Value → H} {w : World} {base b0 : Nat} {spare : Nat → Bool} {held : Bool} {r : Reach} {v : Value} {d : DataW H} {p : List MemPlace} (hv : Value.okWide Try.prog w r b0 37 v)
    (h : DataW.Trod enc Try.prog w base spare held 37 v d p) :
    ∃ z0 z1 z2 : Int, v = .agg #[.int .i64 z0, .int .i64 z1, .int .i64 z2] ∧ (-9223372036854775808 ≤ z0 ∧ z0 ≤ 9223372036854775807) ∧ (-9223372036854775808 ≤ z1 ∧ z1 ≤ 9223372036854775807) ∧ (-9223372036854775808 ≤ z2 ∧ z2 ≤ 9223372036854775807) := by
  obtain ⟨cs, rfl, hsz⟩ := okWide_array Try.underlying37 hv
  obtain ⟨c0, c1, c2, rfl⟩ := Go.Joins.array3 (hsz.trans (by kernel_rfl))
  obtain ⟨fuel, hf⟩ := h
  simp only [Value.cells] at hf
  obtain ⟨y0, y1, y2, n, _, h0, h1, h2⟩ := trod_array3 Try.underlying37 (by kernel_rfl) hf
  obtain ⟨z0, e0, g0⟩ := el_int Try.underlying3 h0
  obtain ⟨z1, e1, g1⟩ := el_int Try.underlying3 h1
  obtain ⟨z2, e2, g2⟩ := el_int Try.underlying3 h2
  simp only [List.cons.injEq, and_true] at e0 e1 e2
  subst e0 e1 e2
  exact ⟨z0, z1, z2, rfl, bounds_i64 g0, bounds_i64 g1, bounds_i64 g2⟩
end Go.Proofs.Ytomkejeofcpchaa
