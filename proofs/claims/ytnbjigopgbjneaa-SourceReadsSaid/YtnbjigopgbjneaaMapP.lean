/- A map from whole numbers to blocks of bytes: what it tells of each key, as a function. -/
import Derived.Test.YtnbjigopgbjneaaMem
import Derived.Test.YtnbjigopgbjneaaProg
import Derived.Maps.OwnSet
namespace Go.Proofs.Ytnbjigopgbjneaa
open Go.RowKit
open Go.WideElems (Fit rd rg pl rd_key rd_val rg_of rd_mk)
open Go.Maps (Keyed)
open Go.ChangeMaps (setBlock putKey notKey mem_insert_iff)
set_option linter.unusedVariables false
set_option linter.unusedSimpArgs false

theorem keyedI : Keyed Try.prog 3 := Maps.int_keyed Try.underlying3

theorem zeroP (w : World) : (zeroValue 79).run Try.prog w = .ok (.pointer none) w := by kernel_rfl

/-- How an element reads: its block's number. -/
def ptrElem : Value → Option (DataW Unit × List MemPlace)
  | .pointer (some ad) => some (.lit (.int .i64 ad.block), [])
  | _ => none

/-- Block b is a map of at most n entries that tells of each key what f says. -/
def MapP (w : World) (b n : Nat) (f : Nat → Option Nat) : Prop :=
  ∃ es clock, w.heap[b]? = some (.map es clock) ∧ Fit Try.prog 3 ptrElem es clock ∧ es.size ≤ n ∧
    (∀ e ∈ es.toList, ∃ k v : Nat, e.key = .int .i64 (k : Nat) ∧ e.val = .pointer (some ⟨v, 0, none⟩) ∧ f k = some v) ∧ ∀ k v, f k = some v → ∃ e ∈ es.toList, e.key = .int .i64 (k : Nat)

theorem keyP {k : Nat} (h : k < 9223372036854775808) : keyOf Try.prog 3 (.int .i64 (k : Nat)) = some (.int .i64 (k : Nat)) :=
  Maps.keyOf_int_mk Try.underlying3 (by simp only [Lit.wf, Bool.and_eq_true, decide_eq_true_eq]; exact ⟨Int.le_trans (by decide) (Int.natCast_nonneg _), Int.le_trans (Int.ofNat_le.2 (show _ ≤ 9223372036854775807 by omega)) (by decide)⟩)

theorem MapP.made (w : World) : MapP (w.alloc (.map #[] 0)) w.heap.size 0 (fun _ => none) :=
  ⟨#[], 0, heap_alloc_new w _, ⟨by simp, MapKept.stamped_empty 0, by simp⟩, Nat.le_refl _, by simp, by simp⟩

theorem MapP.lt {w : World} {b n : Nat} {f : Nat → Option Nat} (h : MapP w b n f) : b < w.heap.size := by
  obtain ⟨es, clock, hb, _⟩ := h
  exact (Array.getElem?_eq_some_iff.1 hb).1

theorem MapP.chg {S : Nat → Prop} {w w' : World} {b n : Nat} {f : Nat → Option Nat} (h : MapP w b n f) (hc : Chg S w w') (hS : ¬ S b) : MapP w' b n f := by
  have hlt := h.lt
  obtain ⟨es, clock, hb, r⟩ := h
  exact ⟨es, clock, (hc.block b hlt hS).trans hb, r⟩

theorem MapP.ne {w : World} {b n g : Nat} {f : Nat → Option Nat} {T : TypeId} {cs : Array Value} (h : MapP w b n f) (hg : Blk w g T cs) : g ≠ b := by
  rintro rfl
  obtain ⟨es, clock, hb, r⟩ := h
  have e := hb.symm.trans hg
  injection e with e
  cases e

def ptrOf : Option Nat → Value
  | some v => .pointer (some ⟨v, 0, none⟩)
  | none => .pointer none

theorem nat_i64_inj {a b : Nat} {q : IntKind} (h : Value.int q (a : Nat) = Value.int q (b : Nat)) : a = b := by
  injection h with _ h
  exact Int.ofNat.inj h

theorem MapP.look {w : World} {b n : Nat} {f : Nat → Option Nat} (h : MapP w b n f) {k : Nat} (hk : k < 9223372036854775808) :
    (Instr.lookup 58 (.map (some b)) (.int .i64 (k : Nat)) false).run Try.prog w = .ok (ptrOf (f k)) w := by
  obtain ⟨es, clock, hb, F, _, h1, h2⟩ := h
  rcases Maps.fit_look false keyedI Try.underlying58 (zeroP w) hb F (keyP hk) with ⟨hrun, hne, _⟩ | ⟨e0, y, hm, he, hrun, _⟩
  · rw [hrun]
    rcases hf : f k with _ | v
    · rfl
    · obtain ⟨e, hem, hek⟩ := h2 k v hf
      exact absurd hek (hne e hem)
  · rw [hrun]
    obtain ⟨k', v, hk', hv, hf⟩ := h1 e0 hm
    rw [he] at hk'
    have := nat_i64_inj hk'
    subst this
    rw [hf, hv]
    rfl

def setP (f : Nat → Option Nat) (k v : Nat) : Nat → Option Nat := fun x => if x = k then some v else f x

set_option maxRecDepth 100000 in
theorem MapP.put {w : World} {b n : Nat} {f : Nat → Option Nat} (h : MapP w b n f) {k v : Nat} (hk : k < 9223372036854775808) (hn : n < maxLen) :
    ∃ w', (Instr.mapUpdate 58 (.map (some b)) (.int .i64 (k : Nat)) (.pointer (some ⟨v, 0, none⟩))).run Try.prog w = .ok () w' ∧ MapP w' b (n + 1) (setP f k v) ∧ w.grownBy w' (some b) := by
  obtain ⟨es, clock, hb, F, hs, h1, h2⟩ := h
  have hval : ptrElem (.pointer (some ⟨v, 0, none⟩)) = some (.lit (.int .i64 (v : Nat)), []) := rfl
  obtain ⟨es', clock', hrun, F', hput, _, _, hwho⟩ := Maps.fit_store (R' := ptrElem) keyedI Try.underlying58 hb F (Nat.lt_of_le_of_lt hs hn) (fun _ _ _ _ hz => hz) (keyP hk) hval
  have hall : ∀ e ∈ es'.toList, ∃ k' v' : Nat, e.key = .int .i64 (k' : Nat) ∧ e.val = .pointer (some ⟨v', 0, none⟩) ∧ setP f k v k' = some v' := by
    intro e he
    rcases hwho e he with ⟨he2, hne⟩ | ⟨hk1, hv1⟩
    · obtain ⟨k', v', e1, e2, e3⟩ := h1 e he2
      refine ⟨k', v', e1, e2, ?_⟩
      have : k' ≠ k := by rintro rfl; exact hne e1
      rw [setP, if_neg this, e3]
    · exact ⟨k, v, hk1, hv1, by simp [setP]⟩
  refine ⟨_, hrun, ⟨es', clock', Go.ChangeMaps.heap_setBlock_same hb _, F', ?_, hall, ?_⟩, ⟨rfl, rfl, rfl, by simp [setBlock], fun i _ hi => Go.ChangeMaps.heap_setBlock_other hb _ (fun e => hi (by rw [e]))⟩⟩
  · have e1 : es'.size = ((es'.toList.map (rg Try.prog 3 ptrElem)).foldr DataW.insert []).length := by rw [length_sorted]; simp
    rw [e1, hput]
    unfold putKey
    rw [length_insert]
    have e2 := List.length_filter_le (notKey (.int .i64 (k : Nat))) ((es.toList.map (rg Try.prog 3 ptrElem)).foldr DataW.insert [])
    rw [length_sorted] at e2
    simp at e2
    omega
  · intro k' v' hf
    have hfind : ∃ p ∈ es'.toList.map (rg Try.prog 3 ptrElem), p.1 = .int .i64 (k' : Nat) := by
      have hmem : ∀ p, p ∈ es'.toList.map (rg Try.prog 3 ptrElem) ↔ p ∈ (es'.toList.map (rg Try.prog 3 ptrElem)).foldr DataW.insert [] := fun p => (Go.WideShapes.sorted_perm _).mem_iff.symm
      by_cases hkk : k' = k
      · subst hkk
        refine ⟨(.int .i64 (k' : Nat), .lit (.int .i64 (v : Nat))), ?_, rfl⟩
        rw [hmem, hput]
        exact mem_insert_iff.2 (.inl rfl)
      · rw [setP, if_neg hkk] at hf
        obtain ⟨e, hem, hek⟩ := h2 k' v' hf
        obtain ⟨y, hy⟩ := F.reads e hem
        have hy1 := rd_key hy
        rw [hek] at hy1
        have hy2 : y.1 = .int .i64 (k' : Nat) := by
          simp [keyOf, Try.underlying3, mapKey] at hy1
          exact hy1.2.symm
        refine ⟨y, ?_, hy2⟩
        rw [hmem, hput]
        refine mem_insert_iff.2 (.inr (List.mem_filter.2 ⟨(Go.WideShapes.sorted_perm _).mem_iff.2 (List.mem_map.2 ⟨e, hem, rg_of hy⟩), ?_⟩))
        refine (Maps.notKey_iff (keyedI.key (keyP hk))).2 ?_
        rw [hy2]
        intro e
        injection e with _ e
        omega
    obtain ⟨p, hp, hpk⟩ := hfind
    obtain ⟨e, hem, rfl⟩ := List.mem_map.1 hp
    obtain ⟨k2, v2, e1, _, _⟩ := hall e hem
    obtain ⟨y, hy⟩ := F'.reads e hem
    rw [rg_of hy] at hpk
    have hy1 := rd_key hy
    rw [hpk, e1] at hy1
    simp [keyOf, Try.underlying3, mapKey] at hy1
    refine ⟨e, hem, ?_⟩
    rw [e1]
    congr 1
    omega

theorem look_map {w : World} {ops : Array Oper} {rest : List Oper} {o : Oper} {a : Act} {Q : Exit → Act → World → Prop}
    (hg : o.guard = none) (m x : Operand) (hop : o.op = Op.lookup 58 m x false) (b n : Nat) (f : Nat → Option Nat) (k : Nat) (r : Option Nat)
    (hm : a.eval m = .map (some b)) (hown : MapP w b n f) (hx : a.eval x = .int .i64 (k : Nat)) (hk : k < 9223372036854775808) (hr : f k = r)
    (hK : wpList Try.prog ops Q rest (a.put o.dst (ptrOf r)) w) : wpList Try.prog ops Q (o :: rest) a w := by
  refine wpList_plain hg fun K' hK' => ?_
  have hrun := hown.look hk
  rw [hr] at hrun
  unfold Oper.wp
  simp [execOp, hop, hm, hx, hrun, Result.andThen]
  exact hK' _ _ hK

theorem look_map_some {w : World} {ops : Array Oper} {rest : List Oper} {o : Oper} {a : Act} {Q : Exit → Act → World → Prop}
    (hg : o.guard = none) (m x : Operand) (hop : o.op = Op.lookup 58 m x false) (b n : Nat) (f : Nat → Option Nat) (k r : Nat)
    (hm : a.eval m = .map (some b)) (hown : MapP w b n f) (hx : a.eval x = .int .i64 (k : Nat)) (hk : k < 9223372036854775808) (hr : f k = some r)
    (hK : wpList Try.prog ops Q rest (a.put o.dst (.pointer (some ⟨r, 0, none⟩))) w) : wpList Try.prog ops Q (o :: rest) a w :=
  look_map hg m x hop b n f k (some r) hm hown hx hk hr hK

theorem look_map_none {w : World} {ops : Array Oper} {rest : List Oper} {o : Oper} {a : Act} {Q : Exit → Act → World → Prop}
    (hg : o.guard = none) (m x : Operand) (hop : o.op = Op.lookup 58 m x false) (b n : Nat) (f : Nat → Option Nat) (k : Nat)
    (hm : a.eval m = .map (some b)) (hown : MapP w b n f) (hx : a.eval x = .int .i64 (k : Nat)) (hk : k < 9223372036854775808) (hr : f k = none)
    (hK : wpList Try.prog ops Q rest (a.put o.dst (.pointer none)) w) : wpList Try.prog ops Q (o :: rest) a w :=
  look_map hg m x hop b n f k none hm hown hx hk hr hK

theorem store_map {w : World} {ops : Array Oper} {rest : List Oper} {o : Oper} {a : Act} {Q : Exit → Act → World → Prop}
    (hg : o.guard = none) (m x y : Operand) (hop : o.op = Op.mapUpdate 58 m x y) (b n : Nat) (f : Nat → Option Nat) (k v : Nat)
    (hm : a.eval m = .map (some b)) (hown : MapP w b n f) (hx : a.eval x = .int .i64 (k : Nat)) (hy : a.eval y = .pointer (some ⟨v, 0, none⟩)) (hk : k < 9223372036854775808) (hn : n < maxLen)
    (hK : ∀ w', MapP w' b (n + 1) (setP f k v) → w.grownBy w' (some b) → wpList Try.prog ops Q rest (a.put o.dst undef) w') : wpList Try.prog ops Q (o :: rest) a w := by
  refine wpList_plain hg fun K' hK' => ?_
  obtain ⟨w', hrun, r1, r2⟩ := hown.put hk hn
  unfold Oper.wp
  simp only [execOp, hop, hm, hx, hy, Sem.run_bind]
  rw [hrun]
  simp [Result.andThen]
  exact hK' _ _ (hK w' r1 r2)

end Go.Proofs.Ytnbjigopgbjneaa
