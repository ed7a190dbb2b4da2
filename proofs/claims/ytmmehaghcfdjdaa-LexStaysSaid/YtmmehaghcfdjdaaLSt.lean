/- What is held of up to three tokens' blocks, over calls that change none of them. -/
import Derived.Test.YtmmehaghcfdjdaaLWorks
namespace Go.Proofs.Ytmmehaghcfdjdaa
open Go.RowKit
set_option linter.unusedVariables false
set_option linter.unusedSimpArgs false
structure LSt (w : World) (g g4 g5 : Nat) (cs : Array Value) (W : World) : Prop where
  b : Blk W g 28 cs
  d : Blk W g4 28 cs
  f : Blk W g5 28 cs
  chg : Chg NoS w W
theorem LSt.call {w W W' : World} {g g4 g5 : Nat} {cs : Array Value} (h : LSt w g g4 g5 cs W) (hc : Chg NoS W W') : LSt w g g4 g5 cs W' :=
  ⟨h.b.chg hc (fun e => e), h.d.chg hc (fun e => e), h.f.chg hc (fun e => e), h.chg.trans hc (fun _ _ e => e)⟩
theorem LSt.drew {w W : World} {g g4 g5 : Nat} {cs : Array Value} (h : LSt w g g4 g5 cs W) : LSt w g g4 g5 cs W.drew := ⟨h.b, h.d, h.f, h.chg.drew⟩
theorem LSt.cells {w W : World} {g g4 g5 k0 k1 k2 k3 : Nat} {k4 : Int} {S5 S7 : ByteArray} (h : LSt w g g4 g5 #[.int .i64 (k0 : Nat), .int .i64 (k1 : Nat), .int .i64 (k2 : Nat), .int .i64 (k3 : Nat), .int .i64 k4, .string S5, .slice none 0 0, .string S7] W) : W.cell? ⟨g, 0, none⟩ = some (.int .i64 (k0 : Nat)) ∧ W.cell? ⟨g, 1, none⟩ = some (.int .i64 (k1 : Nat)) ∧ W.cell? ⟨g, 2, none⟩ = some (.int .i64 (k2 : Nat)) ∧ W.cell? ⟨g, 3, none⟩ = some (.int .i64 (k3 : Nat)) ∧ W.cell? ⟨g, 4, none⟩ = some (.int .i64 k4) ∧ W.cell? ⟨g, 5, none⟩ = some (.string S5) ∧ W.cell? ⟨g, 6, none⟩ = some (.slice none 0 0) ∧ W.cell? ⟨g, 7, none⟩ = some (.string S7) ∧ W.cell? ⟨g4, 0, none⟩ = some (.int .i64 (k0 : Nat)) ∧ W.cell? ⟨g4, 1, none⟩ = some (.int .i64 (k1 : Nat)) ∧ W.cell? ⟨g4, 2, none⟩ = some (.int .i64 (k2 : Nat)) ∧ W.cell? ⟨g4, 3, none⟩ = some (.int .i64 (k3 : Nat)) ∧ W.cell? ⟨g4, 4, none⟩ = some (.int .i64 k4) ∧ W.cell? ⟨g4, 5, none⟩ = some (.string S5) ∧ W.cell? ⟨g4, 6, none⟩ = some (.slice none 0 0) ∧ W.cell? ⟨g4, 7, none⟩ = some (.string S7) ∧ W.cell? ⟨g5, 0, none⟩ = some (.int .i64 (k0 : Nat)) ∧ W.cell? ⟨g5, 1, none⟩ = some (.int .i64 (k1 : Nat)) ∧ W.cell? ⟨g5, 2, none⟩ = some (.int .i64 (k2 : Nat)) ∧ W.cell? ⟨g5, 3, none⟩ = some (.int .i64 (k3 : Nat)) ∧ W.cell? ⟨g5, 4, none⟩ = some (.int .i64 k4) ∧ W.cell? ⟨g5, 5, none⟩ = some (.string S5) ∧ W.cell? ⟨g5, 6, none⟩ = some (.slice none 0 0) ∧ W.cell? ⟨g5, 7, none⟩ = some (.string S7) := by
  have x0 := h.b.cell 0
  have x1 := h.b.cell 1
  have x2 := h.b.cell 2
  have x3 := h.b.cell 3
  have x4 := h.b.cell 4
  have x5 := h.b.cell 5
  have x6 := h.b.cell 6
  have x7 := h.b.cell 7
  have y0 := h.d.cell 0
  have y1 := h.d.cell 1
  have y2 := h.d.cell 2
  have y3 := h.d.cell 3
  have y4 := h.d.cell 4
  have y5 := h.d.cell 5
  have y6 := h.d.cell 6
  have y7 := h.d.cell 7
  have z0 := h.f.cell 0
  have z1 := h.f.cell 1
  have z2 := h.f.cell 2
  have z3 := h.f.cell 3
  have z4 := h.f.cell 4
  have z5 := h.f.cell 5
  have z6 := h.f.cell 6
  have z7 := h.f.cell 7
  simp at x0 x1 x2 x3 x4 x5 x6 x7 y0 y1 y2 y3 y4 y5 y6 y7 z0 z1 z2 z3 z4 z5 z6 z7
  exact ⟨x0, x1, x2, x3, x4, x5, x6, x7, y0, y1, y2, y3, y4, y5, y6, y7, z0, z1, z2, z3, z4, z5, z6, z7⟩
theorem LSt.of_ {w : World} {g g4 g5 : Nat} {cs : Array Value} {f : FuncId} {args : Array Value} {v : Value} (H : ∀ W, Calls Try.prog f args W fun e w' => e = .returned v ∧ Chg NoS W w') (W : World) (h : LSt w g g4 g5 cs W) : Calls Try.prog f args W fun e w' => e = .returned v ∧ LSt w g g4 g5 cs w' :=
  (H W).mono fun _ _ ⟨he, hc⟩ => ⟨he, h.call hc⟩
end Go.Proofs.Ytmmehaghcfdjdaa
