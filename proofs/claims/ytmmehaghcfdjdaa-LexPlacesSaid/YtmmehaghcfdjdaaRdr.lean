/- The reader of a file's words: a block of the call's own that bears a builder of bytes, the bytes that came in, a place, and whether they are the last ones. -/
import Derived.Test.YtmmehaghcfdjdaaLexB
import Derived.Lib.UnsafeStr
import Derived.Lib.Builder
namespace Go.Proofs.Ytmmehaghcfdjdaa
open Go.RowKit
set_option linter.unusedVariables false
set_option linter.unusedSimpArgs false

/-- Of the blocks that are known whole, and are neither R nor rows of bytes, none has changed. -/
def KB (R : Nat) (V W : World) : Prop := ∀ g T cs, g ≠ R → T ≠ 5 → Blk V g T cs → Blk W g T cs
theorem KB.refl (R : Nat) (V : World) : KB R V V := fun _ _ _ _ _ h => h
theorem KB.trans {R : Nat} {V W X : World} (h : KB R V W) (k : KB R W X) : KB R V X := fun g T cs a b c => k g T cs a b (h g T cs a b c)
theorem KB.chg {R : Nat} {V W : World} (h : Chg NoS V W) : KB R V W := fun _ _ _ _ _ c => c.chg h (fun h => h)
theorem KB.set {R : Nat} {V W : World} (h : KB R V W) (i : Nat) (u : Value) : KB R V (W.setCell ⟨R, i, none⟩ u) := fun g T cs a b c => (h g T cs a b c).far (p := ⟨R, i, none⟩) a u
theorem KB.grown {R : Nat} {V W W' : World} {base : Nat} {v : Value} {m : Nat} {xs : List Value} (h : KB R V W) (ho : W.ownsRow base 5 1 v m xs) (hg : W.grownBy W' v.ownBlock) : KB R V W' :=
  fun g T cs a b c => (h g T cs a b c).grown hg (own_ne_blk ho (h g T cs a b c) (Ne.symm b)).symm
/-- The reader's cells. -/
def rcl (q : Value) (A2 : Option Addr) (n2 c2 : Nat) (A : Option Addr) (n c p : Nat) (last : Bool) : Array Value :=
  #[q, .slice A2 n2 c2, .slice A n c, .int .i64 (p : Nat), .bool last]
/-- The reader of n bytes in the block R: it stands at p, and has put together the bytes out. -/
structure RDx (V w W : World) (A : Option Addr) (n c : Nat) (last : Bool) (R p : Nat) (out : List Nat) (q : Value) (A2 : Option Addr) (c2 : Nat) : Prop where
  blk : Blk W R 54 (rcl q A2 out.length c2 A n c p last)
  used : q = .pointer none ∨ q = .pointer (some ⟨R, 0, none⟩)
  own : W.ownsRow w.heap.size 5 1 (.slice A2 out.length c2) out.length (lcells out)
  chg : Chg NoS w W
  new : w.heap.size ≤ R
  kb : KB R V W
def RD (V w W : World) (A : Option Addr) (n c : Nat) (last : Bool) (R p : Nat) (out : List Nat) : Prop := ∃ q A2 c2, RDx V w W A n c last R p out q A2 c2
section
variable {V w W W' : World} {A A2 : Option Addr} {n c R p c2 : Nat} {last : Bool} {out : List Nat} {q : Value}
theorem RDx.cells (h : RDx V w W A n c last R p out q A2 c2) : W.cell? ⟨R, 0, none⟩ = some q ∧ W.cell? ⟨R, 1, none⟩ = some (.slice A2 out.length c2) ∧ W.cell? ⟨R, 2, none⟩ = some (.slice A n c) ∧ W.cell? ⟨R, 3, none⟩ = some (.int .i64 (p : Nat)) ∧ W.cell? ⟨R, 4, none⟩ = some (.bool last) := by
  refine ⟨?_, ?_, ?_, ?_, ?_⟩ <;> (rw [h.blk.cell]; rfl)
theorem RDx.frozen (h : RDx V w W A n c last R p out q A2 c2) (i : Nat) : W.frozen? ⟨R, i, none⟩ = false := h.blk.frozen i
theorem RDx.shape (h : RDx V w W A n c last R p out q A2 c2) : W.shape? R = some (54, 5) := by
  have h' : W.heap[R]? = some (.cells (rcl q A2 out.length c2 A n c p last) 54 (0, 0)) := h.blk
  simp [World.shape?, h', rcl]
theorem RDx.neq (h : RDx V w W A n c last R p out q A2 c2) : (Value.slice A2 out.length c2).ownBlock ≠ some R := own_ne_blk h.own h.blk (by decide)
theorem own_kept {g : Nat} {u : Value} {i base : Nat} {e : TypeId} {v : Value} {m : Nat} {xs : List Value} (h : W.ownsRow base e 1 v m xs) (hne : v.ownBlock ≠ some g) : (W.setCell ⟨g, i, none⟩ u).ownsRow base e 1 v m xs :=
  own_chg (S := fun k => k = g) h ((Chg.refl (fun k => k = g) W).setCell (p := ⟨g, i, none⟩) (fun _ => rfl) u) (fun k hk e => hne (by rw [hk, e]))
/-- It goes on to another place. -/
theorem RDx.at_ (h : RDx V w W A n c last R p out q A2 c2) (p' : Nat) : RDx V w (W.setCell ⟨R, 3, none⟩ (.int .i64 (p' : Nat))) A n c last R p' out q A2 c2 :=
  ⟨h.blk.set_ 3 _, h.used, own_kept h.own h.neq, h.chg.setCell (p := ⟨R, 3, none⟩) (fun e => absurd e (Nat.not_lt.2 h.new)) _, h.new, h.kb.set _ _⟩
/-- The builder knows itself. -/
theorem RDx.use (h : RDx V w W A n c last R p out q A2 c2) : RDx V w (W.setCell ⟨R, 0, none⟩ (.pointer (some ⟨R, 0, none⟩))) A n c last R p out (.pointer (some ⟨R, 0, none⟩)) A2 c2 :=
  ⟨h.blk.set_ 0 _, .inr rfl, own_kept h.own h.neq, h.chg.setCell (p := ⟨R, 0, none⟩) (fun e => absurd e (Nat.not_lt.2 h.new)) _, h.new, h.kb.set _ _⟩
theorem RDx.call (h : RDx V w W A n c last R p out q A2 c2) (hc : Chg NoS W W') : RDx V w W' A n c last R p out q A2 c2 :=
  ⟨h.blk.chg hc (fun h => h), h.used, own_chg (S := NoS) h.own hc (fun _ _ e => e), h.chg.trans hc (fun _ _ e => e), h.new, h.kb.trans (KB.chg hc)⟩
theorem RDx.drew (h : RDx V w W A n c last R p out q A2 c2) : RDx V w W.drew A n c last R p out q A2 c2 := h.call ((Chg.refl _ _).drew)
theorem RDx.drewN (h : RDx V w W A n c last R p out q A2 c2) (k : Nat) : RDx V w (W.drewN k) A n c last R p out q A2 c2 := h.call ((Chg.refl _ _).drewN k)
theorem RDx.alloc (h : RDx V w W A n c last R p out q A2 c2) (o : Obj) : RDx V w (W.alloc o) A n c last R p out q A2 c2 := h.call ((Chg.refl _ _).alloc o)
/-- A row that has grown is laid into it. -/
theorem RDx.grow {A3 : Option Addr} {c3 : Nat} {out' : List Nat} (h : RDx V w W A n c last R p out q A2 c2) (hg : W.grownBy W' (Value.slice A2 out.length c2).ownBlock)
    (ho : W'.ownsRow w.heap.size 5 1 (.slice A3 out'.length c3) out'.length (lcells out')) : RDx V w (W'.setCell ⟨R, 1, none⟩ (.slice A3 out'.length c3)) A n c last R p out' q A3 c3 := by
  have hb : Blk W' R 54 (rcl q A2 out.length c2 A n c p last) := h.blk.grown hg h.neq.symm
  have hne : (Value.slice A3 out'.length c3).ownBlock ≠ some R := own_ne_blk ho hb (by decide)
  refine ⟨hb.set_ 1 _, h.used, own_kept ho hne, ?_, h.new, (h.kb.grown h.own hg).set _ _⟩
  exact (h.chg.grown hg (fun k hk e => absurd e (Nat.not_lt.2 (h.own.lt k hk).1))).setCell (p := ⟨R, 1, none⟩) (fun e => absurd e (Nat.not_lt.2 h.new)) _
theorem RDx.at_cells (h : RDx V w W A n c last R p out q A2 c2) (hg : W.grownBy W' (Value.slice A2 out.length c2).ownBlock) : W'.cell? ⟨R, 0, none⟩ = some q ∧ W'.cell? ⟨R, 1, none⟩ = some (.slice A2 out.length c2) ∧ W'.frozen? ⟨R, 1, none⟩ = false := by
  have hb : Blk W' R 54 (rcl q A2 out.length c2 A n c p last) := h.blk.grown hg h.neq.symm
  exact ⟨by rw [hb.cell]; rfl, by rw [hb.cell]; rfl, hb.frozen 1⟩
theorem RDx.rd (h : RDx V w W A n c last R p out q A2 c2) : RD V w W A n c last R p out := ⟨_, _, _, h⟩
theorem RD.chg (h : RD V w W A n c last R p out) : Chg NoS w W := by
  obtain ⟨_, _, _, h⟩ := h
  exact h.chg
theorem RD.new (h : RD V w W A n c last R p out) : w.heap.size ≤ R := by
  obtain ⟨_, _, _, h⟩ := h
  exact h.new
theorem RD.call (h : RD V w W A n c last R p out) (hc : Chg NoS W W') : RD V w W' A n c last R p out := by
  obtain ⟨_, _, _, h⟩ := h
  exact ⟨_, _, _, h.call hc⟩
theorem RD.drew (h : RD V w W A n c last R p out) : RD V w W.drew A n c last R p out := h.call ((Chg.refl _ _).drew)
theorem RD.drewN (h : RD V w W A n c last R p out) (k : Nat) : RD V w (W.drewN k) A n c last R p out := h.call ((Chg.refl _ _).drewN k)
theorem RD.alloc (h : RD V w W A n c last R p out) (o : Obj) : RD V w (W.alloc o) A n c last R p out := h.call ((Chg.refl _ _).alloc o)
theorem RD.at_ (h : RD V w W A n c last R p out) (p' : Nat) : RD V w (W.setCell ⟨R, 3, none⟩ (.int .i64 (p' : Nat))) A n c last R p' out := by
  obtain ⟨_, _, _, h⟩ := h
  exact ⟨_, _, _, h.at_ p'⟩
theorem RD.cells (h : RD V w W A n c last R p out) : W.cell? ⟨R, 2, none⟩ = some (.slice A n c) ∧ W.cell? ⟨R, 3, none⟩ = some (.int .i64 (p : Nat)) ∧ W.cell? ⟨R, 4, none⟩ = some (.bool last) ∧ W.frozen? ⟨R, 3, none⟩ = false := by
  obtain ⟨_, _, _, h⟩ := h
  exact ⟨h.cells.2.2.1, h.cells.2.2.2.1, h.cells.2.2.2.2, h.frozen 3⟩
theorem RD.kb (h : RD V w W A n c last R p out) : KB R V W := by
  obtain ⟨_, _, _, h⟩ := h
  exact h.kb
theorem RD.base {V' : World} (h : RD V w W A n c last R p out) (k : KB R V' W) : RD V' w W A n c last R p out := by
  obtain ⟨_, _, _, h⟩ := h
  exact ⟨_, _, _, h.blk, h.used, h.own, h.chg, h.new, k⟩
/-- From the world as it is on. -/
theorem RD.here (h : RD V w W A n c last R p out) : RD W w W A n c last R p out := h.base (KB.refl _ _)
theorem RD.lt (h : RD V w W A n c last R p out) : R < W.heap.size := by
  obtain ⟨_, _, _, h⟩ := h
  exact h.blk.lt
end
/-- What is left of it at the end: its place. -/
structure RE (V w W : World) (R p : Nat) : Prop where
  cell : W.cell? ⟨R, 3, none⟩ = some (.int .i64 (p : Nat))
  chg : Chg NoS w W
  kb : KB R V W
theorem RD.re {V w W : World} {A : Option Addr} {n c R p : Nat} {last : Bool} {out : List Nat} (h : RD V w W A n c last R p out) : RE V w W R p := ⟨h.cells.2.1, h.chg, h.kb⟩
theorem RE.call {V w W W' : World} {R p : Nat} (h : RE V w W R p) (hc : Chg NoS W W') : RE V w W' R p :=
  ⟨(hc.cell (p := ⟨R, 3, none⟩) (cell_lt h.cell) (fun h => h)).trans h.cell, h.chg.trans hc (fun _ _ e => e), h.kb.trans (KB.chg hc)⟩
theorem RE.back {V V' w W : World} {R p : Nat} (h : RE V w W R p) (k : KB R V' V) : RE V' w W R p := ⟨h.cell, h.chg, k.trans h.kb⟩
/-- Bytes that are frozen in a block of the call's own. -/
theorem Chg.freeze {w W : World} (h : Chg NoS w W) {g : Nat} (hg : w.heap.size ≤ g) (n : Nat) : Chg NoS w (W.freeze ⟨g, 0, none⟩ n) := by
  have hb := Lib.below_freeze (B := w.heap.size) h.no_below (p := ⟨g, 0, none⟩) hg n
  exact Chg.of_below hb
theorem freeze_cell {W : World} {g R i : Nat} (hne : R ≠ g) (n : Nat) : (W.freeze ⟨g, 0, none⟩ n).cell? ⟨R, i, none⟩ = W.cell? ⟨R, i, none⟩ := by
  unfold World.freeze
  split
  · rfl
  · simp only [World.cell?]
    rw [Array.getElem?_modify, if_neg (fun e => hne e.symm)]
theorem KB.far {R g : Nat} {V W : World} (h : KB R V W) (hg : V.heap.size ≤ g) (i : Nat) (u : Value) : KB R V (W.setCell ⟨g, i, none⟩ u) :=
  fun k T cs a b c => (h k T cs a b c).far (p := ⟨g, i, none⟩) (Nat.ne_of_lt (Nat.lt_of_lt_of_le c.lt hg)) u
theorem RE.far {V w W : World} {R p g : Nat} (h : RE V w W R p) (hR : g ≠ R) (hV : V.heap.size ≤ g) (hw : w.heap.size ≤ g) (i : Nat) (u : Value) : RE V w (W.setCell ⟨g, i, none⟩ u) R p := by
  refine ⟨?_, h.chg.setCell (p := ⟨g, i, none⟩) (fun e => absurd e (Nat.not_lt.2 hw)) u, h.kb.far hV i u⟩
  have e : (W.setCell ⟨g, i, none⟩ u).heap[R]? = W.heap[R]? := Below.heap_setCell W ⟨g, i, none⟩ u R (fun e => hR e.symm)
  exact (World.cell?_of_block (a := ⟨R, 3, none⟩) e).trans h.cell
theorem RE.set4 {V w W : World} {R p g : Nat} (h : RE V w W R p) (hR : g ≠ R) (hV : V.heap.size ≤ g) (hw : w.heap.size ≤ g) (a b c d : Value) :
    RE V w ((((W.setCell ⟨g, 0, none⟩ a).setCell ⟨g, 1, none⟩ b).setCell ⟨g, 2, none⟩ c).setCell ⟨g, 3, none⟩ d) R p :=
  (((h.far hR hV hw 0 a).far hR hV hw 1 b).far hR hV hw 2 c).far hR hV hw 3 d
theorem RE.set8 {V w W : World} {R p g : Nat} (h : RE V w W R p) (hR : g ≠ R) (hV : V.heap.size ≤ g) (hw : w.heap.size ≤ g) (a0 a1 a2 a3 a4 a5 a6 a7 : Value) :
    RE V w ((((((((W.setCell ⟨g, 0, none⟩ a0).setCell ⟨g, 1, none⟩ a1).setCell ⟨g, 2, none⟩ a2).setCell ⟨g, 3, none⟩ a3).setCell ⟨g, 4, none⟩ a4).setCell ⟨g, 5, none⟩ a5).setCell ⟨g, 6, none⟩ a6).setCell ⟨g, 7, none⟩ a7) R p :=
  (((((((h.far hR hV hw 0 a0).far hR hV hw 1 a1).far hR hV hw 2 a2).far hR hV hw 3 a3).far hR hV hw 4 a4).far hR hV hw 5 a5).far hR hV hw 6 a6).far hR hV hw 7 a7
/-- A block of the call's own whose four, or eight, cells are told. -/
structure Cl4 (W : World) (g : Nat) (T : TypeId) (a b c d : Value) : Prop where
  c0 : W.cell? ⟨g, 0, none⟩ = some a
  c1 : W.cell? ⟨g, 1, none⟩ = some b
  c2 : W.cell? ⟨g, 2, none⟩ = some c
  c3 : W.cell? ⟨g, 3, none⟩ = some d
  f0 : W.frozen? ⟨g, 0, none⟩ = false
  f1 : W.frozen? ⟨g, 1, none⟩ = false
  f2 : W.frozen? ⟨g, 2, none⟩ = false
  f3 : W.frozen? ⟨g, 3, none⟩ = false
theorem Blk.cl4 {W : World} {g : Nat} {T : TypeId} {a b c d : Value} (h : Blk W g T #[a, b, c, d]) : Cl4 W g T a b c d :=
  ⟨(h.cell 0).trans rfl, (h.cell 1).trans rfl, (h.cell 2).trans rfl, (h.cell 3).trans rfl, h.frozen 0, h.frozen 1, h.frozen 2, h.frozen 3⟩
structure Cl8 (W : World) (g : Nat) (T : TypeId) (a0 a1 a2 a3 a4 a5 a6 a7 : Value) : Prop where
  c0 : W.cell? ⟨g, 0, none⟩ = some a0
  c1 : W.cell? ⟨g, 1, none⟩ = some a1
  c2 : W.cell? ⟨g, 2, none⟩ = some a2
  c3 : W.cell? ⟨g, 3, none⟩ = some a3
  c4 : W.cell? ⟨g, 4, none⟩ = some a4
  c5 : W.cell? ⟨g, 5, none⟩ = some a5
  c6 : W.cell? ⟨g, 6, none⟩ = some a6
  c7 : W.cell? ⟨g, 7, none⟩ = some a7
  f0 : W.frozen? ⟨g, 0, none⟩ = false
  f1 : W.frozen? ⟨g, 1, none⟩ = false
  f2 : W.frozen? ⟨g, 2, none⟩ = false
  f3 : W.frozen? ⟨g, 3, none⟩ = false
  f4 : W.frozen? ⟨g, 4, none⟩ = false
  f5 : W.frozen? ⟨g, 5, none⟩ = false
  f6 : W.frozen? ⟨g, 6, none⟩ = false
  f7 : W.frozen? ⟨g, 7, none⟩ = false
theorem Blk.cl8 {W : World} {g : Nat} {T : TypeId} {a0 a1 a2 a3 a4 a5 a6 a7 : Value} (h : Blk W g T #[a0, a1, a2, a3, a4, a5, a6, a7]) : Cl8 W g T a0 a1 a2 a3 a4 a5 a6 a7 :=
  ⟨(h.cell 0).trans rfl, (h.cell 1).trans rfl, (h.cell 2).trans rfl, (h.cell 3).trans rfl, (h.cell 4).trans rfl, (h.cell 5).trans rfl, (h.cell 6).trans rfl, (h.cell 7).trans rfl, h.frozen 0, h.frozen 1, h.frozen 2, h.frozen 3, h.frozen 4, h.frozen 5, h.frozen 6, h.frozen 7⟩
theorem KB.freeze {R : Nat} {V W : World} (h : KB R V W) {g : Nat} {cs : Array Value} {fz : Nat × Nat} (hg : W.heap[g]? = some (.cells cs 5 fz)) (n : Nat) : KB R V (W.freeze ⟨g, 0, none⟩ n) := by
  intro k T cs' a b c
  have h1 := h k T cs' a b c
  have hne : g ≠ k := by
    rintro rfl
    have h2 : W.heap[g]? = some (.cells cs' T (0, 0)) := h1
    rw [hg] at h2
    simp only [Option.some.injEq, Obj.cells.injEq] at h2
    exact b h2.2.1.symm
  have h2 : W.heap[k]? = some (.cells cs' T (0, 0)) := h1
  unfold World.freeze
  split
  · exact h1
  · show (W.heap.modify g _)[k]? = _
    rw [Array.getElem?_modify, if_neg hne]
    exact h2
end Go.Proofs.Ytmmehaghcfdjdaa
