/- Whole arrays and structs: loaded, stored, made, copied into, in a block that is known whole. Plain laws, no program. -/
import Derived.Test.YtnbjigopgbjneaaMem
import Derived.Deep.MidRow
import Derived.Laws.Rows
import Derived.Laws.Tables
import Derived.Laws.CopyOwn
import Derived.Laws.ResultCell
namespace Go.Proofs.Ytnbjigopgbjneaa
open Go.RowKit
set_option linter.unusedVariables false
set_option linter.unusedSimpArgs false

theorem blk_setRow {w : World} {g : Nat} {t : TypeId} {cs : Array Value} (h : Blk w g t cs) (cs' : Array Value) : Blk (w.setRow g cs') g t cs' := setRow_heap w g cs cs' t (0, 0) h

theorem chg_setRow (w : World) (g : Nat) (cs : Array Value) : Chg (fun i => i = g) w (w.setRow g cs) :=
  ⟨rfl, rfl, rfl, by simp [World.setRow], fun k _ hk => setRow_other w g k cs hk⟩

section
variable {P : Program} {ops : Array Oper} {rest : List Oper} {o : Oper} {a : Act} {w : World} {Q : Exit → Act → World → Prop}

/-- The whole of a block is loaded. -/
theorem load_blk (hgd : o.guard = none) (ty : TypeId) (x : Operand) (ho : o.op = .load ty x) (g : Nat) (hx : a.eval x = .pointer (some ⟨g, 0, none⟩)) (t : TypeId) (cs : Array Value) (d : TypeDesc)
    (hg : Blk w g t cs) (hu : P.underlying ty = some d) (hd : d.isRow = true) (n : Nat) (hi : (P.info? ty).map (·.size) = some n) (hn : cs.size = n)
    (h : wpList P ops Q rest (a.put o.dst (.agg cs)) w) : wpList P ops Q (o :: rest) a w :=
  wpList_load_row hgd ty x ho g hx t cs (0, 0) d hg hu (by cases d <;> simp_all [TypeDesc.isRow]) (by rw [hi, hn]) h

/-- A part of a block is loaded. -/
theorem load_mid (hgd : o.guard = none) (ty : TypeId) (x : Operand) (ho : o.op = .load ty x) (g off : Nat) (hx : a.eval x = .pointer (some ⟨g, off, none⟩)) (cs : Array Value) (d : TypeDesc)
    (hg : w.rangeAt g off cs.toList) (hu : P.underlying ty = some d) (hd : d.isRow = true) (n : Nat) (hi : (P.info? ty).map (·.size) = some n) (hn : cs.size = n)
    (h : wpList P ops Q rest (a.put o.dst (.agg cs)) w) : wpList P ops Q (o :: rest) a w :=
  wpList_load_mid hgd ty x ho g off hx cs.toList d hg hu hd (by rw [hi, ← hn]; simp) (by simpa using h)

/-- The whole of a block is stored. -/
theorem store_blk (hgd : o.guard = none) (ty : TypeId) (x y : Operand) (ho : o.op = .store ty x y) (g : Nat) (cells : Array Value) (hx : a.eval x = .pointer (some ⟨g, 0, none⟩)) (hy : a.eval y = .agg cells)
    (t : TypeId) (old : Array Value) (hg : Blk w g t old) (n : Nat) (hi : (P.info? ty).map (·.size) = some n) (hn : cells.size = n) (hold : old.size = n) (h1 : cells.all (·.oneCell') = true)
    (h : ∀ w', Blk w' g t cells → Chg (fun i => i = g) w w' → wpList P ops Q rest (a.put o.dst undef) w') : wpList P ops Q (o :: rest) a w :=
  wpList_store_row hgd ty x y ho g cells hx hy t old hg (by rw [hi, hn]) (by rw [hold, hn]) h1 (h _ (blk_setRow hg cells) (chg_setRow w g cells))

/-- A variable is made, of whatever size. -/
theorem alloc_big (hgd : o.guard = none) (ty : TypeId) (ho : o.op = .alloc ty) (Z : Array Value) (hz : (P.info? ty).bind (·.zero) = some (.agg Z))
    (h : ∀ w' g, g = w.heap.size → Blk w' g ty Z → Chg NoS w w' → wpList P ops Q rest (a.put o.dst (.pointer (some ⟨g, 0, none⟩))) w') : wpList P ops Q (o :: rest) a w := by
  refine wpList_plain hgd fun K hK => ?_
  have h1 := hK _ _ (h (w.alloc (.cells Z ty)) _ rfl (Blk.new w ty Z) ((Chg.refl _ _).alloc _))
  cases hq : P.info? ty with
  | none => simp [hq] at hz
  | some i =>
    have hz' : i.zero = some (.agg Z) := by simpa [hq] using hz
    unfold Oper.wp execOp
    simp [ho, Instr.alloc, zeroValue, typeInfo, hq, hz', newVar, newRow, newObj, Value.cells, Sem.run_bind, Result.andThen]
    exact h1

end

/-- Rows of three cells each, sixteen of them: the first, how many, and where. -/
structure RowsIs (R : Array Value) (f m a : Nat → Nat) : Prop where
  size : R.size = 48
  c0 : ∀ i, i < 16 → R[i * 3]? = some (.int .u32 (f i : Nat))
  c1 : ∀ i, i < 16 → R[i * 3 + 1]? = some (.int .u32 (m i : Nat))
  c2 : ∀ i, i < 16 → R[i * 3 + 2]? = some (.int .i64 (a i : Nat))

theorem RowsIs.one {R : Array Value} {f m a : Nat → Nat} (h : RowsIs R f m a) : R.all (·.oneCell') = true := by
  rw [Array.all_eq_true]
  intro j hj
  have hs := h.size
  have hq : j / 3 < 16 := by omega
  have e : ∀ v, R[j]? = some v → v = R[j] := fun v hv => by
    rw [Array.getElem?_eq_getElem hj] at hv
    exact (Option.some.inj hv).symm
  rcases (by omega : j % 3 = 0 ∨ j % 3 = 1 ∨ j % 3 = 2) with h3 | h3 | h3
  · have := h.c0 _ hq
    rw [show j / 3 * 3 = j from by omega] at this
    rw [← e _ this]; rfl
  · have := h.c1 _ hq
    rw [show j / 3 * 3 + 1 = j from by omega] at this
    rw [← e _ this]; rfl
  · have := h.c2 _ hq
    rw [show j / 3 * 3 + 2 = j from by omega] at this
    rw [← e _ this]; rfl

theorem RowsIs.set1 {R : Array Value} {f m a : Nat → Nat} (h : RowsIs R f m a) (n v : Nat) (hn : n < 16) : RowsIs (R.setIfInBounds (n * 3 + 1) (.int .u32 (v : Nat))) f (fun i => if i = n then v else m i) a where
  size := by simpa using h.size
  c0 i hi := by
    rw [Array.getElem?_setIfInBounds_ne (by omega)]
    exact h.c0 i hi
  c1 i hi := by
    by_cases e : i = n
    · subst e
      have := h.size
      rw [Array.getElem?_setIfInBounds_self_of_lt (by omega)]
      simp
    · rw [Array.getElem?_setIfInBounds_ne (by omega), h.c1 i hi]
      simp [e]
  c2 i hi := by
    rw [Array.getElem?_setIfInBounds_ne (by omega)]
    exact h.c2 i hi

theorem RowsIs.congr {R : Array Value} {f m a f' m' a' : Nat → Nat} (h : RowsIs R f m a) (hf : ∀ i, i < 16 → f i = f' i) (hm : ∀ i, i < 16 → m i = m' i) (ha : ∀ i, i < 16 → a i = a' i) : RowsIs R f' m' a' where
  size := h.size
  c0 i hi := by rw [← hf i hi]; exact h.c0 i hi
  c1 i hi := by rw [← hm i hi]; exact h.c1 i hi
  c2 i hi := by rw [← ha i hi]; exact h.c2 i hi

theorem results_cell2 {P : Program} {fn : Func} {p u v : Tmp} {ty : TypeId} (h : fn.results = #[.cell p ty, .tmp u, .tmp v]) (tmps : Array Value) (w : World) (g : Nat) (t : TypeId) (cs : Array Value) (d : TypeDesc) (x y : Value)
    (hp : tmps.getD p undef = .pointer (some ⟨g, 0, none⟩)) (hg : Blk w g t cs) (hu : P.underlying ty = some d) (hd : d.isRow = true) (n : Nat) (hi : (P.info? ty).map (·.size) = some n) (hn : cs.size = n)
    (hx : tmps.getD u undef = x) (hy : tmps.getD v undef = y) :
    (results fn tmps).run P w = .ok (.tuple #[.agg cs, x, y]) w := by
  have hl := run_loadVar_row (P := P) w g t ty cs (0, 0) d hg hu (by cases d <;> simp_all [TypeDesc.isRow]) (by rw [hi, hn])
  have hp' : tmps[p]?.getD undef = .pointer (some ⟨g, 0, none⟩) := by simpa using hp
  have hx' : tmps[u]?.getD undef = x := by simpa using hx
  have hy' : tmps[v]?.getD undef = y := by simpa using hy
  simp [results, h, hp', hx', hy', asAddr, hl, Sem.run_bind, Result.andThen]

end Go.Proofs.Ytnbjigopgbjneaa
