/- A map from numbers of 32 bits to numbers: what it tells of each key, as a function. -/
import Derived.Test.YtomkejeofcpchaaThree
import Derived.Maps.OwnSet
namespace Go.Proofs.Ytomkejeofcpchaa
open Go.RowKit
open Go.WideElems (Fit rd rg pl rd_key rd_val rg_of rd_mk)
open Go.Maps (Keyed)
open Go.ChangeMaps (setBlock putKey notKey mem_insert_iff)
set_option linter.unusedVariables false
set_option linter.unusedSimpArgs false

theorem keyedU : Keyed Try.prog 58 := Maps.int_keyed Try.underlying58
theorem zeroE (w : World) : (zeroValue 3).run Try.prog w = .ok (.int .i64 0) w := by kernel_rfl

/-- Block b is a map of at most n entries that tells of each key what f says. -/
def MapIs (w : World) (b n : Nat) (f : Nat → Option Nat) : Prop :=
  ∃ es clock, w.heap[b]? = some (.map es clock) ∧ Fit Try.prog 58 (plainElem (H := Unit) Try.prog 3) es clock ∧ es.size ≤ n ∧
    (∀ e ∈ es.toList, ∃ k v : Nat, e.key = .int .u32 (k : Nat) ∧ e.val = .int .i64 (v : Nat) ∧ f k = some v) ∧ ∀ k v, f k = some v → ∃ e ∈ es.toList, e.key = .int .u32 (k : Nat)

theorem keyU {k : Nat} (h : k < 4294967296) : keyOf Try.prog 58 (.int .u32 (k : Nat)) = some (.int .u32 (k : Nat)) :=
  Maps.keyOf_int_mk Try.underlying58 (by simp only [Lit.wf, Bool.and_eq_true, decide_eq_true_eq]; exact ⟨Int.le_trans (by decide) (Int.natCast_nonneg _), Int.le_trans (Int.ofNat_le.2 (show _ ≤ 4294967295 by omega)) (by decide)⟩)

theorem MapIs.made (w : World) (o : Obj) (n : Nat) (h : w.heap.size = n) : MapIs (w.alloc (.map #[] 0)) n 0 (fun _ => none) := by
  subst h
  exact ⟨#[], 0, heap_alloc_new w _, ⟨by simp, MapKept.stamped_empty 0, by simp⟩, Nat.le_refl _, by simp, by simp⟩
theorem MapIs.lt {w : World} {b n : Nat} {f : Nat → Option Nat} (h : MapIs w b n f) : b < w.heap.size := by
  obtain ⟨es, clock, hb, _⟩ := h
  exact (Array.getElem?_eq_some_iff.1 hb).1
theorem MapIs.chg {S : Nat → Prop} {w w' : World} {b n : Nat} {f : Nat → Option Nat} (h : MapIs w b n f) (hc : Chg S w w') (hS : ¬ S b) : MapIs w' b n f := by
  have hlt := h.lt
  obtain ⟨es, clock, hb, r⟩ := h
  exact ⟨es, clock, (hc.block b hlt hS).trans hb, r⟩
theorem MapIs.mono {w : World} {b n m : Nat} {f : Nat → Option Nat} (h : MapIs w b n f) (hn : n ≤ m) : MapIs w b m f := by
  obtain ⟨es, clock, hb, F, hs, r⟩ := h
  exact ⟨es, clock, hb, F, Nat.le_trans hs hn, r⟩

def okVal : Option Nat → Value
  | some v => .tuple #[.int .i64 (v : Nat), .bool true]
  | none => .tuple #[.int .i64 0, .bool false]

theorem int_nat_inj {a b : Nat} {q : IntKind} (h : Value.int q (a : Nat) = Value.int q (b : Nat)) : a = b := by
  injection h with _ h
  exact Int.ofNat.inj h

theorem MapIs.look {w : World} {b n : Nat} {f : Nat → Option Nat} (h : MapIs w b n f) {k : Nat} (hk : k < 4294967296) :
    (Instr.lookup 57 (.map (some b)) (.int .u32 (k : Nat)) true).run Try.prog w = .ok (okVal (f k)) w := by
  obtain ⟨es, clock, hb, F, _, h1, h2⟩ := h
  rcases Maps.fit_look true keyedU Try.underlying57 (zeroE w) hb F (keyU hk) with ⟨hrun, hne, _⟩ | ⟨e0, y, hm, he, hrun, _⟩
  · rw [hrun]
    rcases hf : f k with _ | v
    · rfl
    · obtain ⟨e, hem, hek⟩ := h2 k v hf
      exact absurd hek (hne e hem)
  · rw [hrun]
    obtain ⟨k', v, hk', hv, hf⟩ := h1 e0 hm
    rw [he] at hk'
    have := int_nat_inj hk'
    subst this
    rw [hf, hv]
    rfl

def setF (f : Nat → Option Nat) (k v : Nat) : Nat → Option Nat := fun x => if x = k then some v else f x

theorem MapIs.put {w : World} {b n : Nat} {f : Nat → Option Nat} (h : MapIs w b n f) {k v : Nat} (hk : k < 4294967296) (hv : v ≤ 9223372036854775807) (hn : n < maxLen) :
    ∃ w', (Instr.mapUpdate 57 (.map (some b)) (.int .u32 (k : Nat)) (.int .i64 (v : Nat))).run Try.prog w = .ok () w' ∧ MapIs w' b (n + 1) (setF f k v) ∧ w.grownBy w' (some b) := by
  obtain ⟨es, clock, hb, F, hs, h1, h2⟩ := h
  have hval : plainElem (H := Unit) Try.prog 3 (.int .i64 (v : Nat)) = some (.lit (.int .i64 (v : Nat)), []) := plainElem_int Try.underlying3 (by simp only [Lit.wf, Bool.and_eq_true, decide_eq_true_eq]; exact ⟨Int.le_trans (by decide) (Int.natCast_nonneg _), Int.le_trans (Int.ofNat_le.2 (hv)) (by decide)⟩)
  obtain ⟨es', clock', hrun, F', hput, _, _, hwho⟩ := Maps.fit_store (R' := plainElem (H := Unit) Try.prog 3) keyedU Try.underlying57 hb F (Nat.lt_of_le_of_lt hs hn) (fun _ _ _ _ hz => hz) (keyU hk) hval
  have hall : ∀ e ∈ es'.toList, ∃ k' v' : Nat, e.key = .int .u32 (k' : Nat) ∧ e.val = .int .i64 (v' : Nat) ∧ setF f k v k' = some v' := by
    intro e he
    rcases hwho e he with ⟨he2, hne⟩ | ⟨hk1, hv1⟩
    · obtain ⟨k', v', e1, e2, e3⟩ := h1 e he2
      refine ⟨k', v', e1, e2, ?_⟩
      have : k' ≠ k := by rintro rfl; exact hne e1
      rw [setF, if_neg this, e3]
    · exact ⟨k, v, hk1, hv1, by simp [setF]⟩
  refine ⟨_, hrun, ⟨es', clock', Go.ChangeMaps.heap_setBlock_same hb _, F', ?_, hall, ?_⟩, ⟨rfl, rfl, rfl, by simp [setBlock], fun i _ hi => Go.ChangeMaps.heap_setBlock_other hb _ (fun e => hi (by rw [e]))⟩⟩
  · have e1 : es'.size = ((es'.toList.map (rg Try.prog 58 (plainElem (H := Unit) Try.prog 3))).foldr DataW.insert []).length := by rw [length_sorted]; simp
    rw [e1, hput]
    unfold putKey
    rw [length_insert]
    have e2 := List.length_filter_le (notKey (.int .u32 (k : Nat))) ((es.toList.map (rg Try.prog 58 (plainElem (H := Unit) Try.prog 3))).foldr DataW.insert [])
    rw [length_sorted] at e2
    simp at e2
    omega
  · intro k' v' hf
    have hfind : ∃ p ∈ es'.toList.map (rg Try.prog 58 (plainElem (H := Unit) Try.prog 3)), p.1 = .int .u32 (k' : Nat) := by
      have hmem : ∀ p, p ∈ es'.toList.map (rg Try.prog 58 (plainElem (H := Unit) Try.prog 3)) ↔ p ∈ (es'.toList.map (rg Try.prog 58 (plainElem (H := Unit) Try.prog 3))).foldr DataW.insert [] := fun p => (Go.WideShapes.sorted_perm _).mem_iff.symm
      by_cases hkk : k' = k
      · subst hkk
        refine ⟨(.int .u32 (k' : Nat), .lit (.int .i64 (v : Nat))), ?_, rfl⟩
        rw [hmem, hput]
        exact mem_insert_iff.2 (.inl rfl)
      · rw [setF, if_neg hkk] at hf
        obtain ⟨e, hem, hek⟩ := h2 k' v' hf
        obtain ⟨y, hy⟩ := F.reads e hem
        have hy1 := rd_key hy
        rw [hek] at hy1
        have hy2 : y.1 = .int .u32 (k' : Nat) := by
          simp [keyOf, Try.underlying58, mapKey] at hy1
          exact hy1.2.symm
        refine ⟨y, ?_, hy2⟩
        rw [hmem, hput]
        refine mem_insert_iff.2 (.inr (List.mem_filter.2 ⟨(Go.WideShapes.sorted_perm _).mem_iff.2 (List.mem_map.2 ⟨e, hem, rg_of hy⟩), ?_⟩))
        refine (Maps.notKey_iff (keyedU.key (keyU hk))).2 ?_
        rw [hy2]
        intro e
        injection e with _ e
        omega
    obtain ⟨p, hp, hpk⟩ := hfind
    obtain ⟨e, hem, rfl⟩ := List.mem_map.1 hp
    obtain ⟨k2, v2, e1, _, _⟩ := hall e hem
    obtain ⟨y, hy⟩ := F'.reads e hem
    rw [rg_of hy] at hpk
    have hy1 := rd_key hy
    rw [hpk, e1] at hy1
    simp [keyOf, Try.underlying58, mapKey] at hy1
    refine ⟨e, hem, ?_⟩
    rw [e1]
    congr 1
    omega

theorem wpList_look {w : World} {ops : Array Oper} {rest : List Oper} {o : Oper} {a : Act} {Q : Exit → Act → World → Prop}
    (hg : o.guard = none) (m x : Operand) (hop : o.op = Op.lookup 57 m x true) (b n : Nat) (f : Nat → Option Nat) (k : Nat) (r : Option Nat)
    (hm : a.eval m = .map (some b)) (hown : MapIs w b n f) (hx : a.eval x = .int .u32 (k : Nat)) (hk : k < 4294967296) (hr : f k = r)
    (hK : wpList Try.prog ops Q rest (a.put o.dst (okVal r)) w) : wpList Try.prog ops Q (o :: rest) a w := by
  refine wpList_plain hg fun K' hK' => ?_
  have hrun := hown.look hk
  rw [hr] at hrun
  unfold Oper.wp
  simp [execOp, hop, hm, hx, hrun, Result.andThen]
  exact hK' _ _ hK

theorem wpList_look_some {w : World} {ops : Array Oper} {rest : List Oper} {o : Oper} {a : Act} {Q : Exit → Act → World → Prop}
    (hg : o.guard = none) (m x : Operand) (hop : o.op = Op.lookup 57 m x true) (b n : Nat) (f : Nat → Option Nat) (k r : Nat)
    (hm : a.eval m = .map (some b)) (hown : MapIs w b n f) (hx : a.eval x = .int .u32 (k : Nat)) (hk : k < 4294967296) (hr : f k = some r)
    (hK : wpList Try.prog ops Q rest (a.put o.dst (.tuple #[.int .i64 (r : Nat), .bool true])) w) : wpList Try.prog ops Q (o :: rest) a w :=
  wpList_look hg m x hop b n f k (some r) hm hown hx hk hr hK
theorem wpList_look_none {w : World} {ops : Array Oper} {rest : List Oper} {o : Oper} {a : Act} {Q : Exit → Act → World → Prop}
    (hg : o.guard = none) (m x : Operand) (hop : o.op = Op.lookup 57 m x true) (b n : Nat) (f : Nat → Option Nat) (k : Nat)
    (hm : a.eval m = .map (some b)) (hown : MapIs w b n f) (hx : a.eval x = .int .u32 (k : Nat)) (hk : k < 4294967296) (hr : f k = none)
    (hK : wpList Try.prog ops Q rest (a.put o.dst (.tuple #[.int .i64 0, .bool false])) w) : wpList Try.prog ops Q (o :: rest) a w :=
  wpList_look hg m x hop b n f k none hm hown hx hk hr hK

theorem wpList_store {w : World} {ops : Array Oper} {rest : List Oper} {o : Oper} {a : Act} {Q : Exit → Act → World → Prop}
    (hg : o.guard = none) (m x y : Operand) (hop : o.op = Op.mapUpdate 57 m x y) (b n : Nat) (f : Nat → Option Nat) (k v : Nat)
    (hm : a.eval m = .map (some b)) (hown : MapIs w b n f) (hx : a.eval x = .int .u32 (k : Nat)) (hy : a.eval y = .int .i64 (v : Nat)) (hk : k < 4294967296) (hv : v ≤ 9223372036854775807) (hn : n < maxLen)
    (hK : ∀ w', MapIs w' b (n + 1) (setF f k v) → w.grownBy w' (some b) → wpList Try.prog ops Q rest (a.put o.dst undef) w') : wpList Try.prog ops Q (o :: rest) a w := by
  refine wpList_plain hg fun K' hK' => ?_
  obtain ⟨w', hrun, r1, r2⟩ := hown.put hk hv hn
  unfold Oper.wp
  simp [execOp, hop, hm, hx, hy, hrun, Result.andThen]
  exact hK' _ _ (hK w' r1 r2)

theorem MapIs.cleared {w : World} {b n : Nat} {f : Nat → Option Nat} (h : MapIs w b n f) (ty : TypeId) :
    ∃ w', (Builtin.clear_ #[57] ty #[.map (some b)]).run Try.prog w = .ok (.tuple #[]) w' ∧ MapIs w' b 0 (fun _ => none) ∧ w.grownBy w' (some b) := by
  obtain ⟨es, clock, hb, F, hs, h1, h2⟩ := h
  refine ⟨setBlock w b (.map #[] clock), ?_, ⟨#[], clock, Go.ChangeMaps.heap_setBlock_same hb _, ⟨by simp, MapKept.stamped_empty _, by simp⟩, Nat.le_refl _, by simp, by simp⟩, ⟨rfl, rfl, rfl, by simp [setBlock], fun i _ hi => Go.ChangeMaps.heap_setBlock_other hb _ (fun e => hi (by rw [e]))⟩⟩
  simp [Builtin.clear_, run_underlying Try.underlying57, MapKept.run_getObj_map hb, MapKept.run_setObj_map _ hb, Result.andThen, setBlock]

theorem wpList_clear {w : World} {ops : Array Oper} {rest : List Oper} {o : Oper} {a : Act} {Q : Exit → Act → World → Prop}
    (hg : o.guard = none) (m : Operand) (hop : o.op = Op.call { callee := Callee.builtin Builtin.clear, args := #[m], argTypes := #[57] }) (b n : Nat) (f : Nat → Option Nat)
    (hm : a.eval m = .map (some b)) (hown : MapIs w b n f)
    (hK : ∀ w', MapIs w' b 0 (fun _ => none) → w.grownBy w' (some b) → wpList Try.prog ops Q rest (a.put o.dst (.tuple #[])) w') : wpList Try.prog ops Q (o :: rest) a w := by
  refine wpList_plain hg fun K' hK' => ?_
  obtain ⟨w', hrun, r1, r2⟩ := hown.cleared o.type
  unfold Oper.wp
  simp [execOp, hop, resolve, invoke, builtin, hm, hrun, Result.andThen]
  exact hK' _ _ (hK w' r1 r2)
end Go.Proofs.Ytomkejeofcpchaa
