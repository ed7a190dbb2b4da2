/- The cells of a table: how they are made, and what a store leaves of them. -/
import Derived.Test.YtbdnhhhagpgibaaCount
namespace Go.Proofs.Ytbdnhhhagpgibaa
open Go.RowKit
set_option linter.unusedVariables false
set_option linter.unusedSimpArgs false

structure TabIs (T : Array Value) (n d : Nat) (L : Nat → Int) (C f m a S : Nat → Nat) : Prop where
  size : T.size = 1011
  made : T[0]? = some (.bool true)
  n : T[1]? = some (.int .i64 n)
  deep : T[2]? = some (.int .i64 d)
  len : ∀ i, i < 320 → T[3 + i]? = some (.int .i64 (L i))
  code : ∀ i, i < 320 → T[323 + i]? = some (.int .u32 (C i : Nat))
  r0 : ∀ i, i < 16 → T[643 + i * 3]? = some (.int .u32 (f i : Nat))
  r1 : ∀ i, i < 16 → T[643 + i * 3 + 1]? = some (.int .u32 (m i : Nat))
  r2 : ∀ i, i < 16 → T[643 + i * 3 + 2]? = some (.int .i64 (a i : Nat))
  sym : ∀ i, i < 320 → T[691 + i]? = some (.int .i64 (S i : Nat))

section
variable {T : Array Value} {n d : Nat} {L : Nat → Int} {C f m a S : Nat → Nat}

theorem get_set_ne {T : Array Value} {i j : Nat} {v : Value} (h : j ≠ i) : (T.setIfInBounds i v)[j]? = T[j]? := Array.getElem?_setIfInBounds_ne (fun e => h e.symm)
theorem get_set_eq {T : Array Value} {i : Nat} {v : Value} (h : i < T.size) : (T.setIfInBounds i v)[i]? = some v := Array.getElem?_setIfInBounds_self_of_lt h

theorem TabIs.set_deep (h : TabIs T n d L C f m a S) (k : Nat) : TabIs (T.setIfInBounds 2 (.int .i64 k)) n k L C f m a S where
  size := by simpa using h.size
  made := by rw [get_set_ne (by omega)]; exact h.made
  n := by rw [get_set_ne (by omega)]; exact h.n
  deep := get_set_eq (by rw [h.size]; omega)
  len i hi := by rw [get_set_ne (by omega)]; exact h.len i hi
  code i hi := by rw [get_set_ne (by omega)]; exact h.code i hi
  r0 i hi := by rw [get_set_ne (by omega)]; exact h.r0 i hi
  r1 i hi := by rw [get_set_ne (by omega)]; exact h.r1 i hi
  r2 i hi := by rw [get_set_ne (by omega)]; exact h.r2 i hi
  sym i hi := by rw [get_set_ne (by omega)]; exact h.sym i hi
theorem TabIs.set_code (h : TabIs T n d L C f m a S) (k v : Nat) (hk : k < 320) : TabIs (T.setIfInBounds (323 + k) (.int .u32 (v : Nat))) n d L (fun i => if i = k then v else C i) f m a S where
  size := by simpa using h.size
  made := by rw [get_set_ne (by omega)]; exact h.made
  n := by rw [get_set_ne (by omega)]; exact h.n
  deep := by rw [get_set_ne (by omega)]; exact h.deep
  len i hi := by rw [get_set_ne (by omega)]; exact h.len i hi
  code i hi := by
    by_cases e : i = k
    · subst e; rw [get_set_eq (by rw [h.size]; omega)]; simp
    · rw [get_set_ne (by omega), h.code i hi]; simp [e]
  r0 i hi := by rw [get_set_ne (by omega)]; exact h.r0 i hi
  r1 i hi := by rw [get_set_ne (by omega)]; exact h.r1 i hi
  r2 i hi := by rw [get_set_ne (by omega)]; exact h.r2 i hi
  sym i hi := by rw [get_set_ne (by omega)]; exact h.sym i hi
theorem TabIs.set_sym (h : TabIs T n d L C f m a S) (k v : Nat) (hk : k < 320) : TabIs (T.setIfInBounds (691 + k) (.int .i64 (v : Nat))) n d L C f m a (fun i => if i = k then v else S i) where
  size := by simpa using h.size
  made := by rw [get_set_ne (by omega)]; exact h.made
  n := by rw [get_set_ne (by omega)]; exact h.n
  deep := by rw [get_set_ne (by omega)]; exact h.deep
  len i hi := by rw [get_set_ne (by omega)]; exact h.len i hi
  code i hi := by rw [get_set_ne (by omega)]; exact h.code i hi
  r0 i hi := by rw [get_set_ne (by omega)]; exact h.r0 i hi
  r1 i hi := by rw [get_set_ne (by omega)]; exact h.r1 i hi
  r2 i hi := by rw [get_set_ne (by omega)]; exact h.r2 i hi
  sym i hi := by
    by_cases e : i = k
    · subst e; rw [get_set_eq (by rw [h.size]; omega)]; simp
    · rw [get_set_ne (by omega), h.sym i hi]; simp [e]
theorem TabIs.set_r0 (h : TabIs T n d L C f m a S) (k v : Nat) (hk : k < 16) : TabIs (T.setIfInBounds (643 + k * 3) (.int .u32 (v : Nat))) n d L C (fun i => if i = k then v else f i) m a S where
  size := by simpa using h.size
  made := by rw [get_set_ne (by omega)]; exact h.made
  n := by rw [get_set_ne (by omega)]; exact h.n
  deep := by rw [get_set_ne (by omega)]; exact h.deep
  len i hi := by rw [get_set_ne (by omega)]; exact h.len i hi
  code i hi := by rw [get_set_ne (by omega)]; exact h.code i hi
  r0 i hi := by
    by_cases e : i = k
    · subst e; rw [get_set_eq (by rw [h.size]; omega)]; simp
    · rw [get_set_ne (by omega), h.r0 i hi]; simp [e]
  r1 i hi := by rw [get_set_ne (by omega)]; exact h.r1 i hi
  r2 i hi := by rw [get_set_ne (by omega)]; exact h.r2 i hi
  sym i hi := by rw [get_set_ne (by omega)]; exact h.sym i hi
theorem TabIs.set_r2 (h : TabIs T n d L C f m a S) (k v : Nat) (hk : k < 16) : TabIs (T.setIfInBounds (643 + k * 3 + 2) (.int .i64 (v : Nat))) n d L C f m (fun i => if i = k then v else a i) S where
  size := by simpa using h.size
  made := by rw [get_set_ne (by omega)]; exact h.made
  n := by rw [get_set_ne (by omega)]; exact h.n
  deep := by rw [get_set_ne (by omega)]; exact h.deep
  len i hi := by rw [get_set_ne (by omega)]; exact h.len i hi
  code i hi := by rw [get_set_ne (by omega)]; exact h.code i hi
  r0 i hi := by rw [get_set_ne (by omega)]; exact h.r0 i hi
  r1 i hi := by rw [get_set_ne (by omega)]; exact h.r1 i hi
  r2 i hi := by
    by_cases e : i = k
    · subst e; rw [get_set_eq (by rw [h.size]; omega)]; simp
    · rw [get_set_ne (by omega), h.r2 i hi]; simp [e]
  sym i hi := by rw [get_set_ne (by omega)]; exact h.sym i hi
theorem TabIs.congr {n' d' : Nat} {L' : Nat → Int} {C' f' m' a' S' : Nat → Nat} (h : TabIs T n d L C f m a S) (hn : n = n') (hd : d = d') (hL : ∀ i, i < 320 → L i = L' i) (hC : ∀ i, i < 320 → C i = C' i)
    (hf : ∀ i, i < 16 → f i = f' i) (hm : ∀ i, i < 16 → m i = m' i) (ha : ∀ i, i < 16 → a i = a' i) (hS : ∀ i, i < 320 → S i = S' i) : TabIs T n' d' L' C' f' m' a' S' where
  size := h.size
  made := h.made
  n := by rw [← hn]; exact h.n
  deep := by rw [← hd]; exact h.deep
  len i hi := by rw [← hL i hi]; exact h.len i hi
  code i hi := by rw [← hC i hi]; exact h.code i hi
  r0 i hi := by rw [← hf i hi]; exact h.r0 i hi
  r1 i hi := by rw [← hm i hi]; exact h.r1 i hi
  r2 i hi := by rw [← ha i hi]; exact h.r2 i hi
  sym i hi := by rw [← hS i hi]; exact h.sym i hi
end

/-- Cells laid over others, one by one. -/
theorem foldl_set (l : List Value) : ∀ (k o : Nat) (T : Array Value) (i : Nat), ((l.zipIdx k).foldl (fun cs p => cs.setIfInBounds (o + p.2) p.1) T)[i]? = (if o + k ≤ i ∧ i < o + k + l.length ∧ i < T.size then l[i - (o + k)]? else T[i]?) ∧ ((l.zipIdx k).foldl (fun cs p => cs.setIfInBounds (o + p.2) p.1) T).size = T.size := by
  induction l with
  | nil => intro k o T i; simp; omega
  | cons c r ih =>
    intro k o T i
    rw [List.zipIdx_cons, List.foldl_cons]
    obtain ⟨h1, h2⟩ := ih (k + 1) o (T.setIfInBounds (o + k) c) i
    refine ⟨?_, by rw [h2]; simp⟩
    rw [h1]
    simp only [Array.size_setIfInBounds, List.length_cons]
    by_cases e : i = o + k
    · subst e
      rw [if_neg (by omega)]
      by_cases hs : o + k < T.size
      · rw [get_set_eq hs, if_pos (by omega)]; simp
      · rw [if_neg (by omega), Array.getElem?_eq_none (by simp; omega), Array.getElem?_eq_none (by omega)]
    · rw [get_set_ne e]
      by_cases hin : o + (k + 1) ≤ i ∧ i < o + (k + 1) + r.length ∧ i < T.size
      · rw [if_pos hin, if_pos (by omega), show i - (o + k) = (i - (o + (k + 1))) + 1 from by omega, List.getElem?_cons_succ]
      · rw [if_neg hin, if_neg (by omega)]

def ztab : Array Value := ((List.range 1011).map fun j => if j < 1 then Value.bool false else if j < 323 then .int .i64 0 else if j < 643 then .int .u32 0 else if j < 691 then (if (j - 643) % 3 = 2 then .int .i64 0 else .int .u32 0) else .int .i64 0).toArray
set_option maxRecDepth 100000 in
theorem zero_tab : (Try.prog.info? 110).bind (·.zero) = some (.agg ztab) := by kernel_rfl
def placesOf (P : Program) (t : TypeId) : Option (List (Nat × Nat)) :=
  match P.underlying t with
  | some (.struct fields) => fields.toList.mapM (fun f => (P.info? f.type).map fun i => (f.offset, i.size))
  | _ => none
theorem places_tab : placesOf Try.prog 110 = some [(0, 1), (1, 1), (2, 1), (3, 320), (323, 320), (643, 48), (691, 320)] := by kernel_rfl
theorem built_struct {P : Program} {t : TypeId} {z : Value} {places : List (Nat × Nat)} {parts : List (Nat × Value)} (hz : (P.info? t).bind (·.zero) = some z) (hp : placesOf P t = some places) :
    P.built t parts = Instr.fill (places.toArray[·]?) z.cells parts := by
  unfold Program.built placesOf at *
  cases hi : P.info? t with
  | none => simp [hi] at hz
  | some i =>
    have hz' : i.zero = some z := by simpa [hi] using hz
    cases hu : P.underlying t with
    | none => simp [hu] at hp
    | some d =>
      cases d <;> simp only [hu] at hp <;> first | (cases hp; done) | simp [hz', hp]

/-- A table, its number of symbols and its rows filled in. -/
def newTab (n : Nat) (R : Array Value) : Array Value := (R.toList.zipIdx 0).foldl (fun cs p => cs.setIfInBounds (643 + p.2) p.1) ((ztab.setIfInBounds 0 (.bool true)).setIfInBounds 1 (.int .i64 n))
theorem ztab_size : ztab.size = 1011 := by simp [ztab]
theorem built_tab (n : Nat) (R : Array Value) (hR : R.size = 48) : Try.prog.built 110 [(0, .bool true), (1, .int .i64 n), (5, .agg R)] = some (newTab n R) := by
  rw [built_struct zero_tab places_tab]
  have hz := ztab_size
  simp [Instr.fill, Value.cells, hR, hz, newTab]
  have e : (48 : Nat) = R.zipIdx.size := by simp [hR]
  rw [e, ← Array.toList_zipIdx, Array.foldl_toList]

theorem newTab_is (n : Nat) (R : Array Value) (m : Nat → Nat) (hR : RowsIs R (fun _ => 0) m (fun _ => 0)) : TabIs (newTab n R) n 0 (fun _ => 0) (fun _ => 0) (fun _ => 0) m (fun _ => 0) (fun _ => 0) := by
  have hz := ztab_size
  have hs := hR.size
  have hg : ∀ i, (newTab n R)[i]? = if 643 ≤ i ∧ i < 691 then R[i - 643]? else ((ztab.setIfInBounds 0 (.bool true)).setIfInBounds 1 (.int .i64 n))[i]? := by
    intro i
    unfold newTab
    rw [(foldl_set R.toList 0 643 _ i).1]
    simp only [Array.size_setIfInBounds, hz, Nat.add_zero, Array.length_toList, hs]
    by_cases h : 643 ≤ i ∧ i < 691
    · rw [if_pos h, if_pos (by omega)]; simp
    · rw [if_neg h, if_neg (by omega)]
  have hlow : ∀ i, 2 ≤ i → i < 643 ∨ 691 ≤ i → (newTab n R)[i]? = ztab[i]? := by
    intro i h1 h2
    rw [hg, if_neg (by omega), get_set_ne (by omega), get_set_ne (by omega)]
  refine ⟨?_, ?_, ?_, ?_, ?_, ?_, ?_, ?_, ?_, ?_⟩
  · unfold newTab
    rw [(foldl_set R.toList 0 643 _ 0).2]
    simp [hz]
  · rw [hg, if_neg (by omega), get_set_ne (by omega), get_set_eq (by omega)]
  · rw [hg, if_neg (by omega), get_set_eq (by simp; omega)]
  · rw [hlow 2 (by omega) (by omega)]; simp [ztab]
  · intro i hi
    rw [hlow _ (by omega) (by omega)]
    simp [ztab, show 3 + i < 1011 from by omega, show ¬ 3 + i < 1 from by omega, show 3 + i < 323 from by omega]
  · intro i hi
    rw [hlow _ (by omega) (by omega)]
    simp [ztab, show 323 + i < 1011 from by omega, show ¬ 323 + i < 1 from by omega, show ¬ 323 + i < 323 from by omega, show 323 + i < 643 from by omega]
  · intro i hi
    rw [hg, if_pos (by omega), show 643 + i * 3 - 643 = i * 3 from by omega]; exact hR.c0 i hi
  · intro i hi
    rw [hg, if_pos (by omega), show 643 + i * 3 + 1 - 643 = i * 3 + 1 from by omega]; exact hR.c1 i hi
  · intro i hi
    rw [hg, if_pos (by omega), show 643 + i * 3 + 2 - 643 = i * 3 + 2 from by omega]; exact hR.c2 i hi
  · intro i hi
    rw [hlow _ (by omega) (by omega)]
    simp [ztab, show 691 + i < 1011 from by omega, show ¬ 691 + i < 1 from by omega, show ¬ 691 + i < 323 from by omega, show ¬ 691 + i < 643 from by omega, show ¬ 691 + i < 691 from by omega]

theorem splice_get (l : List Value) (off : Nat) (cs : List Value) (h : off + cs.length ≤ l.length) (j : Nat) : (splice l off cs)[j]? = if j < off then l[j]? else if j < off + cs.length then cs[j - off]? else l[j]? := by
  unfold splice
  rw [List.getElem?_append, List.length_take, show min off l.length = off from by omega]
  by_cases h1 : j < off
  · rw [if_pos h1, if_pos h1, List.getElem?_take, if_pos h1]
  · rw [if_neg h1, if_neg h1, List.getElem?_append]
    by_cases h2 : j < off + cs.length
    · rw [if_pos (by omega), if_pos h2]
    · rw [if_neg (by omega), if_neg h2, List.getElem?_drop, show off + cs.length + (j - off - cs.length) = j from by omega]

theorem TabIs.copy {T : Array Value} {n d : Nat} {C f m a S : Nat → Nat} (h : TabIs T n d (fun _ => 0) C f m a S) (ls : List Int) (hl : ls.length ≤ 320) :
    TabIs (splice T.toList 3 (icells ls)).toArray n d (fun i => ls.getD i 0) C f m a S := by
  have hs := h.size
  have hg : ∀ j, (splice T.toList 3 (icells ls)).toArray[j]? = if 3 ≤ j ∧ j < 3 + ls.length then (icells ls)[j - 3]? else T[j]? := by
    intro j
    rw [List.getElem?_toArray, splice_get _ _ _ (by rw [icells_len]; simp; omega), icells_len]
    by_cases h1 : j < 3
    · rw [if_pos h1, if_neg (by omega)]; simp
    · rw [if_neg h1]
      by_cases h2 : j < 3 + ls.length
      · rw [if_pos h2, if_pos (by omega)]
      · rw [if_neg h2, if_neg (by omega)]; simp
  have hn : ∀ j, ¬ (3 ≤ j ∧ j < 323) → (splice T.toList 3 (icells ls)).toArray[j]? = T[j]? := fun j hj => by rw [hg, if_neg (by omega)]
  refine ⟨?_, ?_, ?_, ?_, ?_, ?_, ?_, ?_, ?_, ?_⟩
  · simp [length_splice T.toList 3 (icells ls) (by rw [icells_len]; simp; omega), hs]
  · rw [hn _ (by omega)]; exact h.made
  · rw [hn _ (by omega)]; exact h.n
  · rw [hn _ (by omega)]; exact h.deep
  · intro i hi
    rw [hg]
    by_cases h1 : i < ls.length
    · rw [if_pos (by omega), show 3 + i - 3 = i from by omega, icells_get (List.getElem?_eq_getElem h1)]
      simp [List.getD_eq_getElem?_getD, h1]
    · rw [if_neg (by omega), h.len i hi]
      simp [List.getD_eq_getElem?_getD, h1]
  · intro i hi; rw [hn _ (by omega)]; exact h.code i hi
  · intro i hi; rw [hn _ (by omega)]; exact h.r0 i hi
  · intro i hi; rw [hn _ (by omega)]; exact h.r1 i hi
  · intro i hi; rw [hn _ (by omega)]; exact h.r2 i hi
  · intro i hi; rw [hn _ (by omega)]; exact h.sym i hi

section
variable {P : Program} {ops : Array Oper} {rest : List Oper} {o : Oper} {a : Act} {w : World} {Q : Exit → Act → World → Prop}

theorem build_to (hgd : o.guard = none) (t : TypeId) (parts : Array (Nat × Operand)) (ho : o.op = .build t parts) (cells : Array Value) (hf : P.built t (parts.map fun (i, x) => (i, a.eval x)).toList = some cells)
    (h : wpList P ops Q rest (a.put o.dst (.agg cells)) w) : wpList P ops Q (o :: rest) a w :=
  wpList_build hgd t parts ho (by rw [hf]; rfl) (by rw [hf]; exact h)

theorem box_big (hgd : o.guard = none) (ty : TypeId) (x : Operand) (ho : o.op = .box ty x) (Z : Array Value) (hx : a.eval x = .agg Z)
    (h : ∀ w' g, g = w.heap.size → Blk w' g ty Z → Chg NoS w w' → wpList P ops Q rest (a.put o.dst (.pointer (some ⟨g, 0, none⟩))) w') : wpList P ops Q (o :: rest) a w := by
  refine wpList_plain hgd fun K hK => ?_
  have h1 := hK _ _ (h (w.alloc (.cells Z ty)) _ rfl (Blk.new w ty Z) ((Chg.refl _ _).alloc _))
  unfold Oper.wp execOp
  simp [ho, hx, Instr.box, newVar, newRow, newObj, Value.cells, Sem.run_bind, Result.andThen]
  exact h1

/-- Cells are copied into a block that is known whole. -/
theorem copy_blk (hgd : o.guard = none) (d s : Operand) (dT sT : TypeId) (ho : o.op = .call { callee := .builtin .copy, args := #[d, s], argTypes := #[dT, sT] }) (elem : TypeId) (hu : P.underlying dT = some (.slice elem)) (hsz : (P.info? elem).map (·.size) = some 1)
    (g off dLen dCap : Nat) (hd : a.eval d = .slice (some ⟨g, off, none⟩) dLen dCap) (A : Option Addr) (sLen sCap : Nat) (hs : a.eval s = .slice A sLen sCap) (t : TypeId) (cur : Array Value) (hg : Blk w g t cur)
    (cs : List Value) (hS : Src w 1 A sLen sCap cs) (hle : sLen ≤ dLen) (hfit : off + sLen ≤ cur.size) (h1 : ∀ v ∈ cs, v.oneCell' = true)
    (h : ∀ w', Blk w' g t (splice cur.toList off cs).toArray → Chg (fun i => i = g) w w' → wpList P ops Q rest (a.put o.dst (goInt cs.length)) w') : wpList P ops Q (o :: rest) a w := by
  have hl := hS.1
  have hmin : Nat.min sLen dLen = sLen := Nat.min_eq_left hle
  rcases A with _ | ad
  · obtain ⟨rfl, rfl⟩ := hS.2.1 rfl
    obtain rfl : cs = [] := List.eq_nil_of_length_eq_zero (by simpa using hl)
    refine wpList_copy_nothing hgd d s dT sT ho elem hu hsz _ _ _ _ _ _ hd hs (by rw [hmin]) ?_
    exact h w (by simpa [splice] using hg) (Chg.refl _ _)
  · refine wpList_copy_own hgd d s dT sT ho elem hu hsz g off dLen dCap ad sLen sCap hd hs cur t hg cs (by rw [hmin]; simpa using hl) (hS.2.2 ad rfl) (by rw [hl]; simpa using hfit) h1 ?_
    exact h _ (blk_setRow hg _) (chg_setRow w g _)

/-- A cell of an array that is a value. -/
theorem index_big (hgd : o.guard = none) (ty e : TypeId) (n : Nat) (x y : Operand) (ho : o.op = .index ty x y) (cs : Array Value) (hx : a.eval x = .agg cs) (k : IntKind) (i : Nat) (hy : a.eval y = .int k (i : Nat)) (v : Value)
    (hu : P.underlying ty = some (.array n e)) (hi : i < n) (hv : cs[i]? = some v) (hz : (P.info? e).map (·.size) = some 1) (hr : (P.underlying e).map TypeDesc.isRow = some false)
    (h : wpList P ops Q rest (a.put o.dst v) w) : wpList P ops Q (o :: rest) a w := by
  refine wpList_plain hgd fun K hK => ?_
  have h1 := hK _ _ h
  unfold Oper.wp execOp
  have hrun : (Instr.index ty (.agg cs) (.int k (i : Nat))).run P w = .ok v w := by
    have hb : (0 : Int) ≤ (i : Int) ∧ (i : Int) < (n : Int) := ⟨by omega, by omega⟩
    cases hq : P.info? e with
    | none => simp [hq] at hz
    | some ie =>
      have hs : ie.size = 1 := by simpa [hq] using hz
      cases hue : P.underlying e with
      | none => simp [hue] at hr
      | some de =>
        have hde : de.isRow = false := by simpa [hue] using hr
        have hagg : (isAgg e).run P w = .ok false w := by
          unfold isAgg
          rw [Sem.run_bind, run_underlying hue w]
          cases de <;> simp_all [TypeDesc.isRow]
        simp [Instr.index, asIntOf, Sem.run_bind, run_underlying hu w, hb, sizeOf, typeInfo, hq, hs, part, hagg, hv, Result.andThen]
        intro h9
        omega
  simp [ho, hx, hy, hrun, Result.andThen]
  exact h1
end
end Go.Proofs.Ytbdnhhhagpgibaa
