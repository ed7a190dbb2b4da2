/- Merged by program: VDk. -/
import Derived.Test.YtaababegolfjeaaG15
import Derived.Test.YtaababegolfjeaaG17
/- DictOf of however many values, for a caller that says by a relation of its own what its values are (written by mkvdk.py). -/
namespace Go.Proofs.Ytaababegolfjeaa.KD
open Go.RowKit
set_option linter.unusedVariables false
set_option linter.unusedSimpArgs false

/-- What the caller knows of a value and its cells. -/
class LVI where
  VI : VT → VC → Prop
  nm : ∀ s : ByteArray, s.size ≤ maxLen → VI (nmT s) ⟨5, 0, s, none, 0, 0⟩
  eq : ∀ (t : VT) (e : VC), VI t e → e.k = t.kind ∧ e.n = t.num ∧ e.s = t.str

/-- A row of values of the call's own; its trees lie in the world from which the call began. -/
structure GV [LVI] (w wr : World) (es : List VC) (ts : List VT) (n : Nat) (A : Option Addr) (c : Nat) : Prop where
  own : wr.ownsRow 0 27 4 (.slice A n c) n (vcells es)
  chg : Chg NoS w wr
  new : ∀ a, A = some a → w.heap.size ≤ a.block
  len : es.length = n
  tlen : ts.length = n
  is : ∀ (j : Nat) (t : VT) (e : VC), ts[j]? = some t → es[j]? = some e → LVI.VI t e

theorem GV.start [LVI] {w wr : World} (h : Chg NoS w wr) : GV w wr [] [] 0 none 0 := ⟨own_nil wr 0 _ 4, h, fun _ h => (by cases h), rfl, rfl, fun j t e h => (by simp at h)⟩

theorem GV.call [LVI] {w wr w2 : World} {es : List VC} {ts : List VT} {n c : Nat} {A : Option Addr} (h : GV w wr es ts n A c) (hc : Chg NoS wr w2) : GV w w2 es ts n A c :=
  ⟨own_chg (S := NoS) h.own hc (fun _ _ e => e), h.chg.trans hc (fun _ _ e => e), h.new, h.len, h.tlen, h.is⟩

theorem GV.far [LVI] {w wr : World} {es : List VC} {ts : List VT} {n c g : Nat} {A : Option Addr} (h : GV w wr es ts n A c) (hne : (Value.slice A n c).ownBlock ≠ some g) (hg : w.heap.size ≤ g) (i : Nat) (u : Value) : GV w (wr.setCell ⟨g, i, none⟩ u) es ts n A c :=
  ⟨own_chg (S := fun x => x = g) h.own (Chg.setCell (S := fun x => x = g) (Chg.refl (fun x => x = g) wr) (p := ⟨g, i, none⟩) (fun _ => rfl) u) (fun g' hg' e => hne (by rw [hg', e])), h.chg.setCell (p := ⟨g, i, none⟩) (fun h2 => absurd h2 (Nat.not_lt.2 hg)) u, h.new, h.len, h.tlen, h.is⟩

theorem GV.good [LVI] {w wr : World} {es : List VC} {ts : List VT} {n c : Nat} {A : Option Addr} (h : GV w wr es ts n A c) (hn : n ≤ maxLen) : (A = none → n = 0 ∧ c = 0) ∧ n ≤ c := by
  rcases h.own.2 with ⟨h1, h0⟩ | ⟨g', cap, cur, h1, hb, hh, h2, h3, _⟩
  · simp only [Value.slice.injEq] at h1
    obtain ⟨rfl, _, rfl⟩ := h1
    exact ⟨fun _ => ⟨h0, rfl⟩, by omega⟩
  · simp only [Value.slice.injEq] at h1
    obtain ⟨rfl, _, rfl⟩ := h1
    exact ⟨fun e => (by cases e), h2⟩

/-- What holds behind Concat of the two boxes, and of the row that it tells. -/
structure Bx [LVI] (w W : World) (g go : Nat) (cv cz : Array Value) (es : List VC) (ts : List VT) (m : Nat) (A : Option Addr) (c : Nat) : Prop where
  b : PB w W g cv
  o : PB w W go cz
  row : GV w W es ts m A c
  nb : (Value.slice A m c).ownBlock ≠ some g
  no : (Value.slice A m c).ownBlock ≠ some go
  ne : g ≠ go

/-- The new row is stored in the value's box. -/
theorem Bx.put [LVI] {w W : World} {g go : Nat} {k n : Int} {s : ByteArray} {v : Value} {cz : Array Value} {es : List VC} {ts : List VT} {m c : Nat} {A : Option Addr} (h : Bx w W g go #[.int .i64 k, .int .i64 n, .string s, v] cz es ts m A c) :
    Bx w (W.setCell ⟨g, 3, none⟩ (.slice A m c)) g go #[.int .i64 k, .int .i64 n, .string s, .slice A m c] cz es ts m A c :=
  ⟨h.b.set 3 _, h.o.far (Ne.symm h.ne) 3 _, h.row.far h.nb h.b.new 3 _, h.nb, h.no, h.ne⟩

/-- The value is told: its four cells in the result's box. -/
theorem Bx.fin [LVI] {w W : World} {g go : Nat} {k n : Int} {s : ByteArray} {cv cz : Array Value} {es : List VC} {ts : List VT} {m c : Nat} {A : Option Addr} (h : Bx w W g go cv cz es ts m A c) (hz : cz.size = 4) (hm : m ≤ maxLen)
    (hk : -9223372036854775808 ≤ k ∧ k ≤ 9223372036854775807) (hn : -9223372036854775808 ≤ n ∧ n ≤ 9223372036854775807) (hs : s.size ≤ maxLen) (W' : World) (hW : W' = (((W.setCell ⟨go, 0, none⟩ (.int .i64 k)).setCell ⟨go, 1, none⟩ (.int .i64 n)).setCell ⟨go, 2, none⟩ (.string s)).setCell ⟨go, 3, none⟩ (.slice A m c)) :
    PB w W' go #[.int .i64 k, .int .i64 n, .string s, .slice A m c] ∧ GV w W' es ts m A c ∧ Chg NoS w W' := by
  subst hW
  obtain ⟨h1, h2⟩ := h.o.set4 (a := .int .i64 k) (b := .int .i64 n) (c := .string s) (d := .slice A m c) h.row.chg hz
  exact ⟨h1, ((((h.row.far h.no h.o.new 0 _).far h.no h.o.new 1 _).far h.no h.o.new 2 _).far h.no h.o.new 3 _), h2⟩

theorem is_two [LVI] {t u : VT} {e f : VC} (h : LVI.VI t e) (k : LVI.VI u f) : ∀ (j : Nat) (t' : VT) (e' : VC), [t, u][j]? = some t' → [e, f][j]? = some e' → LVI.VI t' e' := by
  intro j t' e' h1 h2
  match j with
  | 0 => simp at h1 h2; subst h1 h2; exact h
  | 1 => simp at h1 h2; subst h1 h2; exact k
  | j + 2 => simp at h1

theorem is_app [LVI] {es es' : List VC} {ts ts' : List VT} {m : Nat} (h1 : es.length = m) (h2 : ts.length = m) (hi : ∀ (j : Nat) (t : VT) (e : VC), ts[j]? = some t → es[j]? = some e → LVI.VI t e) (hi' : ∀ (j : Nat) (t : VT) (e : VC), ts'[j]? = some t → es'[j]? = some e → LVI.VI t e) :
    ∀ (j : Nat) (t : VT) (e : VC), (ts ++ ts')[j]? = some t → (es ++ es')[j]? = some e → LVI.VI t e := by
  intro j t e ht he
  by_cases hj : j < m
  · rw [List.getElem?_append_left (by omega)] at ht
    rw [List.getElem?_append_left (by omega)] at he
    exact hi j t e ht he
  · rw [List.getElem?_append_right (by omega), h2] at ht
    rw [List.getElem?_append_right (by omega), h1] at he
    exact hi' _ t e ht he

theorem src_two {W : World} {e f : VC} {B : Nat} (hb : Blk W B 27 #[.int .i64 e.k, .int .i64 e.n, .string e.s, .slice e.A e.len e.cap, .int .i64 f.k, .int .i64 f.n, .string f.s, .slice f.A f.len f.cap]) : Src W 4 (some ⟨B, 0, none⟩) 2 2 (vcells [e, f]) := by
  refine ⟨rfl, fun e => (by cases e), fun ad ha j x hj => ?_⟩
  cases ha
  have hadd : (⟨B, 0, none⟩ : Addr).add j = ⟨B, j, none⟩ := by unfold Addr.add; split <;> simp_all
  rw [hadd, hb.cell j]
  rw [show vcells [e, f] = [.int .i64 e.k, .int .i64 e.n, .string e.s, .slice e.A e.len e.cap, .int .i64 f.k, .int .i64 f.n, .string f.s, .slice f.A f.len f.cap] from rfl] at hj
  simpa using hj

/-- A row's cells, where they are known. -/
theorem src_nth [LVI] {w : World} {l : List VT} {es0 : List VC} {b off len cap j : Nat} {t : VT} (hl : l.length = len) (hel : es0.length = len) (hsr : Src w 4 (some ⟨b, off, none⟩) len cap (vcells es0)) (hvi : ∀ (j : Nat) (t : VT) (e : VC), l[j]? = some t → es0[j]? = some e → LVI.VI t e) (ht : l[j]? = some t) : ∃ (eA : Option Addr) (el ec : Nat),
    w.cell? ⟨b, off + j * 4, none⟩ = some (.int .i64 t.kind) ∧ w.cell? ⟨b, off + j * 4 + 1, none⟩ = some (.int .i64 t.num) ∧ w.cell? ⟨b, off + j * 4 + 2, none⟩ = some (.string t.str) ∧ w.cell? ⟨b, off + j * 4 + 3, none⟩ = some (.slice eA el ec) ∧ LVI.VI t ⟨t.kind, t.num, t.str, eA, el, ec⟩ := by
  have hj : j < l.length := (List.getElem?_eq_some_iff.1 ht).1
  obtain ⟨e, he⟩ : ∃ e, es0[j]? = some e := ⟨_, List.getElem?_eq_getElem (by omega)⟩
  have hv := hvi j t e ht he
  obtain ⟨e1, e2, e3⟩ := LVI.eq t e hv
  have hc : ∀ i u, i < 4 → e.cells[i]? = some u → w.cell? ⟨b, off + j * 4 + i, none⟩ = some u := by
    intro i u hi hu
    have h1 := vcells_at he hi
    rw [hu] at h1
    have h2 := hsr.2.2 _ rfl _ _ h1
    have hadd : (⟨b, off, none⟩ : Addr).add (j * 4 + i) = ⟨b, off + (j * 4 + i), none⟩ := by unfold Addr.add; split <;> simp_all
    rw [hadd] at h2
    rw [Nat.add_assoc]
    exact h2
  obtain ⟨k, n, s, A, el, ec⟩ := e
  simp only [] at e1 e2 e3
  subst e1 e2 e3
  exact ⟨A, el, ec, hc 0 _ (by decide) rfl, hc 1 _ (by decide) rfl, hc 2 _ (by decide) rfl, hc 3 _ (by decide) rfl, hv⟩

theorem step_appV [LVI] {w wr W : World} {ops : Array Oper} {o : Oper} {a : Act} {K : Act → World → Prop} {Q : Exit → Act → World → Prop} {E : Prop} {es new : List VC} {ts tn : List VT} {n c m cx : Nat} {A X : Option Addr} (hgd : o.guard = none) (s x : Operand)
    (ho : o.op = .call { callee := .builtin .append, args := #[s, x], argTypes := #[25, 25] }) (hs : a.eval s = .slice A n c) (hx : a.eval x = .slice X m cx)
    (h : GV w wr es ts n A c) (hc : Chg NoS wr W) (hn : n ≤ 2000000000) (hm : m ≤ 2000000000) (hsrc : Src W 4 X m cx (vcells new)) (hlen : new.length = m) (htl : tn.length = m) (his : ∀ (j : Nat) (t : VT) (e : VC), tn[j]? = some t → new[j]? = some e → LVI.VI t e)
    (k : ∀ A3 c3 w', GV w w' (es ++ new) (ts ++ tn) (n + m) A3 c3 → (∀ (g : Nat) (T : TypeId) (cs : Array Value), Blk W g T cs → (Value.slice A n c).ownBlock ≠ some g → Blk w' g T cs ∧ (Value.slice A3 (n + m) c3).ownBlock ≠ some g) → K (a.put o.dst (.slice A3 (n + m) c3)) w') :
    if Region.wanted o (yielded ops a.tmps) = true then Oper.wp Try.prog o a W K Q else E := by
  have hw : Region.wanted o (yielded ops a.tmps) = true := by simp [Region.wanted, hgd]
  rw [if_pos hw]
  obtain ⟨i0, hi, hz0, hz1, hz2⟩ := info_partsV info_VC
  have hown := own_chg (S := NoS) h.own hc (fun _ _ e => e)
  have hend : ∀ v' w', w'.ownsRow 0 27 4 v' (n + m) (vcells es ++ vcells new) → W.grownBy w' (Value.slice A n c).ownBlock → (v'.ownBlock = (Value.slice A n c).ownBlock ∨ v'.ownBlock = some W.heap.size) → K (a.put o.dst v') w' := by
    intro S2 w4 hown4 hgr4 hat4
    obtain ⟨A4, c4, rfl, hA4⟩ := own_slice hown4
    refine k A4 c4 w4 ⟨by rw [vcells_app]; exact hown4, ?_, ?_, by rw [List.length_append, h.len, hlen], by rw [List.length_append, h.tlen, htl], is_app h.len h.tlen h.is his⟩ (fun g T cs hb hne => ⟨hb.grown hgr4 (fun e => hne e.symm), fun e => ?_⟩)
    · refine (h.chg.trans hc (fun _ _ e => e)).grown hgr4 (fun kk e hk => ?_)
      rcases A with _ | b
      · simp [Value.ownBlock] at e
      · have e2 : b.block = kk := by simpa [Value.ownBlock] using e
        have := h.new b rfl
        omega
    · rintro b rfl
      have hsz := h.chg.size
      have hsz2 := hc.size
      rcases hat4 with e | e
      · rcases A with _ | d
        · simp [Value.ownBlock] at e
        · have e2 : b.block = d.block := by simpa [Value.ownBlock] using e
          rw [e2]
          exact h.new d rfl
      · have e2 : b.block = W.heap.size := by simpa [Value.ownBlock] using e
        omega
    · rcases hat4 with h2 | h2
      · exact hne (h2.symm.trans e)
      · have h3 := hb.lt
        have h4 : some W.heap.size = some g := h2.symm.trans e
        simp only [Option.some.injEq] at h4
        omega
  have hu : Try.prog.underlying 25 = some (.slice 27) := Try.underlying25
  rcases X with _ | ad
  · obtain ⟨h0, h1⟩ := hsrc.2.1 rfl
    subst h0 h1
    have hnn : new = [] := List.eq_nil_of_length_eq_zero hlen
    subst hnn
    have hrun := run_append_owned_none (P := Try.prog) (w := W) 0 25 o.type 27 i0 4 hu hi (.slice A n c) n (vcells es) hown
    unfold Oper.wp execOp
    simp only [ho, resolve, invoke, builtin, Sem.run_bind, Sem.run_pure, Result.andThen_ok, List.map_toArray, List.map_cons, List.map_nil, hs, hx, hrun]
    exact hend _ _ (by rw [show vcells [] = [] from rfl, List.append_nil]; exact hown) (World.grownBy.refl W _) (.inl rfl)
  · obtain ⟨v', w', hr, h2, h3, _, h5⟩ := run_append_own_at (P := Try.prog) W 0 25 o.type 27 i0 _ 4 56 hu hi hz0 hz1 hz2 rfl (by decide) (.slice A n c) n (vcells es) hown ad m cx (vcells new) hsrc.1 (hsrc.2.2 ad rfl) (vcells_cell _) (by unfold maxLen; omega) (by omega) (Nat.zero_le _)
    unfold Oper.wp execOp
    simp only [ho, resolve, invoke, builtin, Sem.run_bind, Sem.run_pure, Result.andThen_ok, List.map_toArray, List.map_cons, List.map_nil, hs, hx, hr]
    exact hend _ _ h2 h3 h5

/-- What holds while the dictionary is made: its box, the result's, its row, the pairs. -/
structure DX [LVI] (w W : World) (g go gs c1 b off : Nat) (Q : List Nat) (cv cz : Array Value) (es : List VC) (ts : List VT) (m : Nat) (A : Option Addr) (c : Nat) : Prop where
  bx : Bx w W g go cv cz es ts m A c
  pr : PRow W gs c1 b off Q
  ng : (Value.slice A m c).ownBlock ≠ some gs
  n1 : gs ≠ g
  n2 : w.heap.size ≤ gs

theorem DX.call [LVI] {w W W' : World} {g go gs c1 b off m c : Nat} {Q : List Nat} {cv cz : Array Value} {es : List VC} {ts : List VT} {A : Option Addr} (h : DX w W g go gs c1 b off Q cv cz es ts m A c) (hc : Chg NoS W W') : DX w W' g go gs c1 b off Q cv cz es ts m A c :=
  ⟨⟨h.bx.b.call hc, h.bx.o.call hc, h.bx.row.call hc, h.bx.nb, h.bx.no, h.bx.ne⟩, h.pr.chg hc (fun e => e), h.ng, h.n1, h.n2⟩

theorem DX.app [LVI] {w W W' : World} {g go gs c1 b off m c m' c' : Nat} {Q : List Nat} {cv cz : Array Value} {es es' : List VC} {ts ts' : List VT} {A A' : Option Addr} (h : DX w W g go gs c1 b off Q cv cz es ts m A c) (hg : GV w W' es' ts' m' A' c')
    (k : ∀ (g : Nat) (T : TypeId) (cs : Array Value), Blk W g T cs → (Value.slice A m c).ownBlock ≠ some g → Blk W' g T cs ∧ (Value.slice A' m' c').ownBlock ≠ some g) : DX w W' g go gs c1 b off Q cv cz es' ts' m' A' c' := by
  obtain ⟨cs, hb, hp⟩ := h.pr.blk
  have h1 := k _ _ _ hb h.ng
  have h2 := h.bx.b.kept k h.bx.nb
  have h3 := h.bx.o.kept k h.bx.no
  exact ⟨⟨h2.1, h3.1, hg, h2.2, h3.2, h.bx.ne⟩, hp _ h1.1, h1.2, h.n1, h.n2⟩

theorem DX.put [LVI] {w W : World} {g go gs c1 b off m c : Nat} {Q : List Nat} {k n : Int} {s : ByteArray} {v : Value} {cz : Array Value} {es : List VC} {ts : List VT} {A : Option Addr} (h : DX w W g go gs c1 b off Q #[.int .i64 k, .int .i64 n, .string s, v] cz es ts m A c) :
    DX w (W.setCell ⟨g, 3, none⟩ (.slice A m c)) g go gs c1 b off Q #[.int .i64 k, .int .i64 n, .string s, .slice A m c] cz es ts m A c := by
  refine ⟨h.bx.put, ?_, h.ng, h.n1, h.n2⟩
  exact h.pr.chg (K := fun i => i = g) ((Chg.refl (fun i => i = g) W).setCell (p := ⟨g, 3, none⟩) (fun _ => rfl) _) h.n1

/-- What is held in the region: the row in the box, the name's text, the value's cells. -/
theorem DX.held [LVI] {w W : World} {g go gs c1 b off p m c m0 c0 : Nat} {Q : List Nat} {k n : Int} {s t : ByteArray} {cz : Array Value} {es : List VC} {ts : List VT} {A A0 : Option Addr} {v0 v1 v2 v3 : Value} (h : DX w W g go gs c1 b off Q #[.int .i64 k, .int .i64 n, .string s, .slice A0 m0 c0] cz es ts m A c)
    (hc : ∀ W, Chg NoS w W → W.cell? ⟨b, off + 2 * p * 4 + 2, none⟩ = some (.string t) ∧ W.cell? ⟨b, off + 2 * p * 4 + 4, none⟩ = some v0 ∧ W.cell? ⟨b, off + 2 * p * 4 + 4 + 1, none⟩ = some v1 ∧ W.cell? ⟨b, off + 2 * p * 4 + 4 + 2, none⟩ = some v2 ∧ W.cell? ⟨b, off + 2 * p * 4 + 4 + 3, none⟩ = some v3) :
    W.cell? ⟨g, 3, none⟩ = some (.slice A0 m0 c0) ∧ W.cell? ⟨b, off + 2 * p * 4 + 2, none⟩ = some (.string t) ∧ W.cell? ⟨b, off + 2 * p * 4 + 4, none⟩ = some v0 ∧ W.cell? ⟨b, off + 2 * p * 4 + 4 + 1, none⟩ = some v1 ∧ W.cell? ⟨b, off + 2 * p * 4 + 4 + 2, none⟩ = some v2 ∧ W.cell? ⟨b, off + 2 * p * 4 + 4 + 3, none⟩ = some v3 := by
  have h3 := h.bx.b.blk.cell 3
  simp at h3
  exact ⟨h3, hc W h.bx.row.chg⟩

/-- What DictOf tells: a Dict with a row of its own. -/
def DictTo [LVI] (w : World) (ts : List VT) (e : Ending) (w' : World) : Prop := ∃ (es : List VC) (A : Option Addr) (n c : Nat), e = .returned (VC.val ⟨7, 0, ⟨#[]⟩, A, n, c⟩) ∧ GV w w' es ts n A c ∧ n ≤ 100000

set_option maxHeartbeats 8000000 in
set_option maxRecDepth 100000 in
theorem dictOf_some [LVI] (l : List VT) (b off len cap : Nat) (w : World) (hl : l.length = len) (es0 : List VC) (hel : es0.length = len) (hsr : Src w 4 (some ⟨b, off, none⟩) len cap (vcells es0)) (hvi : ∀ (j : Nat) (t : VT) (e : VC), l[j]? = some t → es0[j]? = some e → LVI.VI t e) (hcap : len ≤ cap) (h40 : len ≤ 100000) (h2 : 2 ≤ len) (hks : ∀ t ∈ l, t.str.size ≤ maxLen) :
    Calls Try.prog 26 #[.slice (some ⟨b, off, none⟩) len cap] w (DictTo w (dictT l)) := by
  obtain ⟨m, hm⟩ : ∃ m, m = len / 2 := ⟨_, rfl⟩
  obtain ⟨L2, hL2⟩ : ∃ L2, L2 = 2 * m := ⟨_, rfl⟩
  obtain ⟨S, hS⟩ : ∃ S, S = keyAt l := ⟨_, rfl⟩
  obtain ⟨V, hV⟩ : ∃ V, V = valAt l := ⟨_, rfl⟩
  obtain ⟨Q, hQ⟩ : ∃ Q, Q = (sortR S (List.range m)).reverse := ⟨_, rfl⟩
  have HDT := keepf (show dictT l = emF S V Q from by rw [hQ, hS, hV, hm, ← hl]; rfl)
  have HQM : Hid (∀ p ∈ Q, p < m) := fun p hp => by
    rw [hQ] at hp
    exact List.mem_range.1 (sortR_mem (List.mem_reverse.1 hp))
  have HQL : Hid (Q.length = m) := by show _ = _; rw [hQ, List.length_reverse, sortR_len, List.length_range]
  have HPC : Hid (∀ p, p < m → ∃ (x : VT) (xk xn : Int) (xs : ByteArray) (xA : Option Addr) (xl xc : Nat), V p = x ∧ LVI.VI x ⟨xk, xn, xs, xA, xl, xc⟩ ∧ (S p).size ≤ maxLen ∧ ∀ W, Chg NoS w W → W.cell? ⟨b, off + 2 * p * 4 + 2, none⟩ = some (.string (S p)) ∧ W.cell? ⟨b, off + 2 * p * 4 + 4, none⟩ = some (.int .i64 xk) ∧ W.cell? ⟨b, off + 2 * p * 4 + 4 + 1, none⟩ = some (.int .i64 xn) ∧ W.cell? ⟨b, off + 2 * p * 4 + 4 + 2, none⟩ = some (.string xs) ∧ W.cell? ⟨b, off + 2 * p * 4 + 4 + 3, none⟩ = some (.slice xA xl xc)) := by
    show ∀ p, _
    intro p hp
    obtain ⟨t, ht, _⟩ := drop_vt (l := l) (k := 2 * p) (by omega)
    obtain ⟨x, hx, _⟩ := drop_vt (l := l) (k := 2 * p + 1) (by omega)
    obtain ⟨eA, el, ec, c0, c1, c2, c3, hve⟩ := src_nth hl hel hsr hvi ht
    obtain ⟨xA, xl, xc, d0, d1, d2, d3, hvx⟩ := src_nth hl hel hsr hvi hx
    have e1 : S p = t.str := by rw [hS]; unfold keyAt; rw [ht]; rfl
    have e2 : V p = x := by rw [hV]; unfold valAt; rw [hx]; rfl
    refine ⟨x, x.kind, x.num, x.str, xA, xl, xc, e2, hvx, by rw [e1]; exact hks t (List.mem_of_getElem? ht), fun W hW => ⟨?_, ?_, ?_, ?_, ?_⟩⟩
    · rw [e1]; exact (hW.cell (p := ⟨b, _, none⟩) (cell_lt c2) (fun h => h)).trans c2
    · rw [show off + 2 * p * 4 + 4 = off + (2 * p + 1) * 4 by omega]; exact (hW.cell (p := ⟨b, _, none⟩) (cell_lt d0) (fun h => h)).trans d0
    · rw [show off + 2 * p * 4 + 4 + 1 = off + (2 * p + 1) * 4 + 1 by omega]; exact (hW.cell (p := ⟨b, _, none⟩) (cell_lt d1) (fun h => h)).trans d1
    · rw [show off + 2 * p * 4 + 4 + 2 = off + (2 * p + 1) * 4 + 2 by omega]; exact (hW.cell (p := ⟨b, _, none⟩) (cell_lt d2) (fun h => h)).trans d2
    · rw [show off + 2 * p * 4 + 4 + 3 = off + (2 * p + 1) * 4 + 3 by omega]; exact (hW.cell (p := ⟨b, _, none⟩) (cell_lt d3) (fun h => h)).trans d3
  have hm0 : 0 < m := by omega
  have hm20 : m ≤ 100000 := by omega
  have hbl : b < w.heap.size := by
    obtain ⟨x, xk, xn, xs, xA, xl, xc, _, _, _, hc⟩ := HPC.out 0 hm0
    exact cell_lt (hc w (Chg.refl _ _)).1
  have HBL := keepf hbl
  have t1 : (len : Int).tdiv 2 = (m : Int) := by rw [Int.tdiv_eq_ediv_of_nonneg (by omega)]; omega
  have t2 : (len : Int) / 2 = (m : Int) := by omega
  have t3 : (m : Int) * 2 = (L2 : Int) := by omega
  have i1 : (L2 : Int) ≤ cap := by omega
  have i2 : L2 ≤ cap := by omega
  have HCK := keepf (fun W => chunkV_any W (some ⟨b, off, none⟩) L2 cap)
  have HCO : Hid (∀ (W : World) (Bs Bn : Nat), W.cell? ⟨Bs, 0, none⟩ = some (.slice (some ⟨b, off, none⟩) L2 cap) → W.cell? ⟨Bn, 0, none⟩ = some (.int .i64 2) → Calls Try.prog 40 #[.func (.func 59) #[] #[.pointer (some ⟨Bs, 0, none⟩), .pointer (some ⟨Bn, 0, none⟩)]] W fun e w' =>
      ∃ v, e = .returned v ∧ w'.ownsRow W.heap.size 25 1 v m (pcells b off m) ∧ Below W.heap.size W w') := by
    show ∀ W : World, _
    intro W Bs Bn h1 h2
    exact collect_any m Bs Bn b off cap _ W (by omega) (fun _ => rfl) (by omega) (by rw [← hL2]; exact h1) h2
  have HO := keepf (⟨Blk.new w 27 #[.int .i64 0, .int .i64 0, .string ⟨#[]⟩, .slice none 0 0], Nat.le_refl _⟩ : PB w _ _ _)
  have HC1 := keepf ((Chg.refl NoS w).alloc (.cells #[.int .i64 0, .int .i64 0, .string ⟨#[]⟩, .slice none 0 0] 27))
  have hbs := (Blk.new (w.alloc (.cells #[.int .i64 0, .int .i64 0, .string ⟨#[]⟩, .slice none 0 0] 27)) 25 #[.slice (some ⟨b, off, none⟩) L2 cap]).alloc (.cells #[.int .i64 2] 3)
  have hbn := Blk.new ((w.alloc (.cells #[.int .i64 0, .int .i64 0, .string ⟨#[]⟩, .slice none 0 0] 27)).alloc (.cells #[.slice (some ⟨b, off, none⟩) L2 cap] 25)) 3 #[.int .i64 2]
  simp only [World.size_alloc] at hbs hbn
  have HCC := keepf (HCO.out _ _ _ (hbs.cell 0) (hbn.cell 0))
  have HQE := keepf hQ
  clear hbs hbn hm hL2 hS hV hQ hl hsr hvi hel HCO hbl
  go_enter Try.func26, Try.ntmps26
  go_upto_region 2 with (first
    | (go_at_call 41; refine (HCK.out _).mono ?_; rintro e w3 ⟨rfl, rfl⟩)
    | (go_at_call 40; refine HCC.out.mono ?_; rintro e w4 ⟨v, rfl, hrow, hb4⟩; obtain ⟨A1, c1, rfl, _⟩ := own_slice hrow; obtain ⟨gs, rfl, hgs, hpr⟩ := col_row hrow hm0; have HPR := keepf hpr; have HC4 := keepf (((HC1.out.alloc _).alloc _).trans (Chg.of_below (S := NoS) hb4) (fun _ _ e => e)); have HO4 := keepf (((HO.out.alloc _).alloc _).call (Chg.of_below (S := NoS) hb4)); have HGS := keepf hgs; clear hrow hb4 hpr hgs))
  have hgs1 : w.heap.size ≤ gs := by have h1 := HGS.out; simp only [World.size_alloc] at h1; omega
  have hbgs : b ≠ gs := by have h1 := HBL.out; omega
  obtain ⟨g0, hg0⟩ : ∃ g, g = w.heap.size := ⟨_, rfl⟩
  have hg04 : g0 ≠ gs := by have h1 := HGS.out; simp only [World.size_alloc] at h1; omega
  have hso := sortP_many 43 b off m gs c1 S w4 (fun args w => rfl) (dcmp_any b off gs m S w4 (fun x hx => by
    obtain ⟨_, _, _, _, _, _, _, _, _, _, hc⟩ := HPC.out x hx
    exact (hc w4 HC4.out).1) hbgs) w4 hm20 HPR.out (Chg.refl _ _)
  rw [← HQE.out] at hso
  have HSO := keepf hso
  rw [← hg0] at HO4 ⊢
  have HG0 := keepf hg0
  clear hso hg0 HGS HPR HCK HCC HO HC1
  go_upto_region 5 with (go_at_call 42; refine HSO.out.mono ?_; rintro e w5 ⟨rfl, hp5, hc5⟩; have HP5 := keepf hp5; have HC5 := keepf (HC4.out.trans hc5 (fun i hi e => by omega : ∀ i, i < w.heap.size → i = gs → NoS i)); have HO5 := keepf (⟨HO4.out.blk.chg hc5 hg04, HO4.out.new⟩ : PB w w5 g0 _); clear hp5 hc5)
  have HD0 : Hid (DX w (w5.alloc (.cells #[.int .i64 7, .int .i64 0, .string ⟨#[]⟩, .slice none 0 0] 27)) w5.heap.size g0 gs c1 b off Q #[.int .i64 7, .int .i64 0, .string ⟨#[]⟩, .slice none 0 0] #[.int .i64 0, .int .i64 0, .string ⟨#[]⟩, .slice none 0 0] [] [] 0 none 0) :=
    ⟨⟨⟨Blk.new _ _ _, HC5.out.size⟩, ⟨HO5.out.blk.alloc _, HO5.out.new⟩, GV.start (HC5.out.alloc _), fun e => (by cases e), fun e => (by cases e), fun e => by have := HO5.out.blk.lt; omega⟩, HP5.out.chg (K := NoS) ((Chg.refl _ _).alloc _) (fun e => e), fun e => (by cases e), fun e => by have := HP5.out.lt; omega, hgs1⟩
  obtain ⟨g4, hg4⟩ : ∃ g, g = w5.heap.size := ⟨_, rfl⟩
  rw [← hg4] at HD0 ⊢
  clear hg4
  go_loopw [20] (fun v wr => ∃ (q : Nat) (es : List VC) (ts : List VT) (N : Nat) (A3 : Option Addr) (c3 : Nat), q ≤ m ∧ v = .int .i64 q ∧ N ≤ 2 * q ∧ Hid (DX w wr g4 g0 gs c1 b off Q #[.int .i64 7, .int .i64 0, .string ⟨#[]⟩, .slice A3 N c3] #[.int .i64 0, .int .i64 0, .string ⟨#[]⟩, .slice none 0 0] es ts N A3 c3) ∧ Hid (ts ++ emF S V (Q.drop q) = emF S V Q)) (fun v _ => m - (intOf v).toNat)
  case atStart => exact ⟨0, [], [], 0, none, 0, by omega, by go_num, by omega, HD0, keepf (by rw [List.drop_zero]; rfl)⟩
  case round =>
    obtain ⟨q, es, ts, N, A3, c3, hq, rfl, hN2, HDX, HEM⟩ := hrel
    by_cases hlt : q < m
    · obtain ⟨p, hp⟩ : ∃ p, Q[q]? = some p := ⟨_, List.getElem?_eq_getElem (by rw [HQL.out]; exact hlt)⟩
      have hdr : Q.drop q = p :: Q.drop (q + 1) := by
        have h1 := (List.getElem?_eq_some_iff.1 hp)
        obtain ⟨h1, h3⟩ := h1
        rw [List.drop_eq_getElem_cons h1, h3]
      have hpm := HQM.out p (List.mem_of_getElem? hp)
      obtain ⟨x, xk, xn, xs, xA, xl, xc, hvx, hvi, hsz, hcl⟩ := HPC.out p hpm
      have HVX := keepf hvi
      have HNM := keepf (LVI.nm (S p) hsz)
      have HCL := keepf hcl
      have HVV := keepf hvx
      have KK := hcl wr HDX.out.bx.row.chg
      have k1 := HDX.out.pr.cell hp
      unfold pcell at k1
      obtain ⟨k2, _⟩ := KK
      have j1 : (q : Int) < m := by omega
      obtain ⟨u, hu⟩ : ∃ u, u = q + 1 := ⟨_, rfl⟩
      have e1 : (q : Int) + 1 = (u : Int) := by omega
      have k0 : IntKind.i64.wrap (u : Int) = (u : Int) := by rw [IntKind.wrap_i64]; omega
      have HU := keepf hu
      clear hvi hcl hvx hu hsz hpm
      by_cases hlast : u = m
      · have HEN : Hid ((ts ++ [nmT (S p), x]) ++ emF S V (Q.drop (q + 1)) = emF S V Q) := by
          show _ = _
          rw [← HEM.out, hdr, List.drop_of_length_le (l := Q) (by rw [HQL.out]; have := HU.out; omega), emF_last, HVV.out, List.append_assoc]
        have f1 : ((u : Int) == (m : Int)) = true := by simp; omega
        have f2 : (u == m) = true := by simp; omega
        clear hdr hp hlast
        go_upto_region 7 with fail
        go_quiet (fail)
        go_upto_region 8 with fail
        have HXD := keepf (HDX.out.call (((Chg.refl NoS wr).drewN nq).drew))
        have HDD := keepf (HDX.out.call ((Chg.refl NoS wr).drewN nq))
        clear k1
        generalize wr.drewN nq = wq at *
        refine startZ (fun w' => w'.cell? ⟨g4, 3, none⟩ = some (.slice A3 N c3) ∧ w'.cell? ⟨b, off + 2 * p * 4 + 2, none⟩ = some (.string (S p)) ∧ w'.cell? ⟨b, off + 2 * p * 4 + 4, none⟩ = some (.int .i64 xk) ∧ w'.cell? ⟨b, off + 2 * p * 4 + 4 + 1, none⟩ = some (.int .i64 xn) ∧ w'.cell? ⟨b, off + 2 * p * 4 + 4 + 2, none⟩ = some (.string xs) ∧ w'.cell? ⟨b, off + 2 * p * 4 + 4 + 3, none⟩ = some (.slice xA xl xc)) 13 (by kernel_rfl) (HXD.out.held HCL.out) (fun hHeld => ?_)
        refine takeZ (i := 0) (oi := { dst := some 45, op := Go.Op.fieldAddr 27 (Go.Operand.tmp 4) 3, type := 0, pos := _, after := _, guard := none }) (v := ?_) rfl (by kernel_rfl) (by kernel_rfl) (by kernel_rfl) (by kernel_rfl) (fun _ _ _ h => h) (Or.inl ⟨by rfl, ?_⟩) (by assumption) ?_
        rotate_left
        · intro w hSw; (try dsimp only at hSw); (try obtain ⟨s0, s1, s2, s3, s4, s5⟩ := hSw); (first | (go_simp; done) | (go_simp; with_reducible rfl))
        try simp only [Act.put, List.setIfInBounds_toArray, List.set_cons_zero, List.set_cons_succ]
        refine takeZ (i := 1) (oi := { dst := some 46, op := Go.Op.load 25 (Go.Operand.tmp 45), type := 25, pos := _, after := _, guard := none }) (v := ?_) rfl (by kernel_rfl) (by kernel_rfl) (by kernel_rfl) (by kernel_rfl) (fun _ _ _ h => h) (Or.inl ⟨by rfl, ?_⟩) (by assumption) ?_
        rotate_left
        · intro w hSw; (try dsimp only at hSw); (try obtain ⟨s0, s1, s2, s3, s4, s5⟩ := hSw); (first | (go_simp; done) | (go_simp; with_reducible rfl))
        try simp only [Act.put, List.setIfInBounds_toArray, List.set_cons_zero, List.set_cons_succ]
        refine takeZ (i := 2) (oi := { dst := some 47, op := Go.Op.move (Go.Operand.tmp 6), type := 25, pos := _, after := _, guard := none }) (v := ?_) rfl (by kernel_rfl) (by kernel_rfl) (by kernel_rfl) (by kernel_rfl) (fun _ _ _ h => h) (Or.inl ⟨by rfl, ?_⟩) (by assumption) ?_
        rotate_left
        · intro w hSw; (try dsimp only at hSw); (try obtain ⟨s0, s1, s2, s3, s4, s5⟩ := hSw); (first | (go_simp; done) | (go_simp; with_reducible rfl))
        try simp only [Act.put, List.setIfInBounds_toArray, List.set_cons_zero, List.set_cons_succ]
        refine takeZ (i := 3) (oi := { dst := some 48, op := Go.Op.indexAddr 25 (Go.Operand.tmp 47) (Go.Operand.const (Go.Value.int Go.IntKind.i64 0)), type := 0, pos := _, after := _, guard := none }) (v := ?_) rfl (by kernel_rfl) (by kernel_rfl) (by kernel_rfl) (by kernel_rfl) (fun _ _ _ h => h) (Or.inl ⟨by rfl, ?_⟩) (by assumption) ?_
        rotate_left
        · intro w hSw; (try dsimp only at hSw); (try obtain ⟨s0, s1, s2, s3, s4, s5⟩ := hSw); (first | (go_simp; done) | (go_simp; with_reducible rfl))
        try simp only [Act.put, List.setIfInBounds_toArray, List.set_cons_zero, List.set_cons_succ]
        refine takeZ (i := 4) (oi := { dst := some 49, op := Go.Op.fieldAddr 27 (Go.Operand.tmp 48) 2, type := 0, pos := _, after := _, guard := none }) (v := ?_) rfl (by kernel_rfl) (by kernel_rfl) (by kernel_rfl) (by kernel_rfl) (fun _ _ _ h => h) (Or.inl ⟨by rfl, ?_⟩) (by assumption) ?_
        rotate_left
        · intro w hSw; (try dsimp only at hSw); (try obtain ⟨s0, s1, s2, s3, s4, s5⟩ := hSw); (first | (go_simp; done) | (go_simp; with_reducible rfl))
        try simp only [Act.put, List.setIfInBounds_toArray, List.set_cons_zero, List.set_cons_succ]
        refine takeZ (i := 5) (oi := { dst := some 50, op := Go.Op.load 9 (Go.Operand.tmp 49), type := 9, pos := _, after := _, guard := none }) (v := ?_) rfl (by kernel_rfl) (by kernel_rfl) (by kernel_rfl) (by kernel_rfl) (fun _ _ _ h => h) (Or.inl ⟨by rfl, ?_⟩) (by assumption) ?_
        rotate_left
        · intro w hSw; (try dsimp only at hSw); (try obtain ⟨s0, s1, s2, s3, s4, s5⟩ := hSw); (first | (go_simp; done) | (go_simp; with_reducible rfl))
        try simp only [Act.put, List.setIfInBounds_toArray, List.set_cons_zero, List.set_cons_succ]
        refine takeZ (i := 7) (oi := { dst := some 52, op := Go.Op.move (Go.Operand.tmp 6), type := 25, pos := _, after := _, guard := none }) (v := ?_) rfl (by kernel_rfl) (by kernel_rfl) (by kernel_rfl) (by kernel_rfl) (fun _ _ _ h => h) (Or.inl ⟨by rfl, ?_⟩) (by assumption) ?_
        rotate_left
        · intro w hSw; (try dsimp only at hSw); (try obtain ⟨s0, s1, s2, s3, s4, s5⟩ := hSw); (first | (go_simp; done) | (go_simp; with_reducible rfl))
        try simp only [Act.put, List.setIfInBounds_toArray, List.set_cons_zero, List.set_cons_succ]
        refine takeZ (i := 8) (oi := { dst := some 53, op := Go.Op.indexAddr 25 (Go.Operand.tmp 52) (Go.Operand.const (Go.Value.int Go.IntKind.i64 1)), type := 0, pos := _, after := _, guard := none }) (v := ?_) rfl (by kernel_rfl) (by kernel_rfl) (by kernel_rfl) (by kernel_rfl) (fun _ _ _ h => h) (Or.inl ⟨by rfl, ?_⟩) (by assumption) ?_
        rotate_left
        · intro w hSw; (try dsimp only at hSw); (try obtain ⟨s0, s1, s2, s3, s4, s5⟩ := hSw); (first | (go_simp; done) | (go_simp; with_reducible rfl))
        try simp only [Act.put, List.setIfInBounds_toArray, List.set_cons_zero, List.set_cons_succ]
        refine takeZ (i := 9) (oi := { dst := some 54, op := Go.Op.load 27 (Go.Operand.tmp 53), type := 27, pos := _, after := _, guard := none }) (v := ?_) rfl (by kernel_rfl) (by kernel_rfl) (by kernel_rfl) (by kernel_rfl) (fun _ _ _ h => h) (Or.inl ⟨by rfl, ?_⟩) (by assumption) ?_
        rotate_left
        · intro w hSw; (try dsimp only at hSw); (try obtain ⟨s0, s1, s2, s3, s4, s5⟩ := hSw); (first | (go_simp; done) | (go_simp; with_reducible rfl))
        try simp only [Act.put, List.setIfInBounds_toArray, List.set_cons_zero, List.set_cons_succ]
        refine oneZ (i := 6) (o := { dst := some 51, op := Go.Op.call { callee := Go.Callee.value (Go.Operand.func 45), args := #[Go.Operand.tmp 50], argTypes := #[9] }, type := 27, pos := _, after := _, guard := none }) (by kernel_rfl) rfl (by decide) (fun K hK => ?_)
        go_simp
        (go_at_call 45; refine (nameOf_any (S p) _).mono ?_; rintro e w7 ⟨rfl, hc7⟩; have hx7 := HXD.out.call hc7)
        refine hK.out _ _ (hx7.held HCL.out) (fun hHeld => ?_)
        clear hK K
        try simp only [Act.put, List.setIfInBounds_toArray, List.set_cons_zero, List.set_cons_succ]
        refine oneZ (i := 10) (o := { dst := some 55, op := Go.Op.buildSlice 25 2 #[(0, Go.Operand.tmp 51), (1, Go.Operand.tmp 54)], type := 25, pos := _, after := _, guard := none }) (by kernel_rfl) rfl (by decide) (fun K hK => ?_)
        go_simp
        refine hK.out _ _ ((hx7.call ((Chg.refl NoS w7).alloc _)).held HCL.out) (fun hHeld => ?_)
        clear hK K
        try simp only [Act.put, List.setIfInBounds_toArray, List.set_cons_zero, List.set_cons_succ]
        refine oneZ (i := 11) (o := { dst := some 56, op := Go.Op.call { callee := Go.Callee.builtin Go.Builtin.append, args := #[Go.Operand.tmp 46, Go.Operand.tmp 55], argTypes := #[25, 25] }, type := 25, pos := _, after := _, guard := none }) (by kernel_rfl) rfl (by decide) (fun K hK => ?_)
        (refine step_appV (w := w) (wr := w7) (new := [⟨5, 0, S p, none, 0, 0⟩, ⟨xk, xn, xs, xA, xl, xc⟩]) (tn := [nmT (S p), x]) (m := 2) (cx := 2) (X := some ⟨w7.heap.size, 0, none⟩) (A := A3) (n := N) (c := c3) rfl (.tmp 46) (.tmp 55) rfl rfl rfl hx7.bx.row ((Chg.refl NoS w7).alloc _) (by omega) (by omega) (src_two (e := ⟨5, 0, S p, none, 0, 0⟩) (f := ⟨xk, xn, xs, xA, xl, xc⟩) (Blk.new w7 _ _)) rfl rfl (is_two HNM.out HVX.out) ?_; intro A4 c4 w8 hg8 hk8; have hx8 := (hx7.call ((Chg.refl NoS w7).alloc _)).app hg8 hk8)
        refine hK.out _ _ (hx8.held HCL.out) (fun hHeld => ?_)
        clear hK K
        try simp only [Act.put, List.setIfInBounds_toArray, List.set_cons_zero, List.set_cons_succ]
        refine takeZ (i := 12) (oi := { dst := some 57, op := Go.Op.fieldAddr 27 (Go.Operand.tmp 4) 3, type := 0, pos := _, after := _, guard := none }) (v := ?_) rfl (by kernel_rfl) (by kernel_rfl) (by kernel_rfl) (by kernel_rfl) (fun _ _ _ h => h) (Or.inl ⟨by rfl, ?_⟩) (by assumption) ?_
        rotate_left
        · intro w hSw; (try dsimp only at hSw); (try obtain ⟨s0, s1, s2, s3, s4, s5⟩ := hSw); (first | (go_simp; done) | (go_simp; with_reducible rfl))
        try simp only [Act.put, List.setIfInBounds_toArray, List.set_cons_zero, List.set_cons_succ]
        refine lastZ (o := { dst := none, op := Go.Op.store 25 (Go.Operand.tmp 57) (Go.Operand.tmp 56), type := 0, pos := _, after := _, guard := none }) (by kernel_rfl) rfl (by kernel_rfl) (fun K hK => ?_)
        have z3 := hx8.bx.b.blk.frozen 3
        have q3 := hx8.bx.b.blk.cell 3
        simp at q3
        go_simp
        refine hK.out _ _ ?_
        clear hK K
        try simp only [Act.put, List.setIfInBounds_toArray, List.set_cons_zero, List.set_cons_succ]
        have HDN := keepf hx8.put
        clear z3 q3 hx7 hk8 hg8
        go_wp2_with fail
        go_roundw
        case rel => exact ⟨q + 1, _, ts ++ [nmT (S p), x], N + 2, A4, c4, by omega, by go_num, by omega, HDN, HEN⟩
        case measure => simp [intOf]; omega

      · obtain ⟨p2, hp2⟩ : ∃ p2, Q[u]? = some p2 := ⟨_, List.getElem?_eq_getElem (by rw [HQL.out]; have := HU.out; omega)⟩
        have hdr2 : Q.drop (q + 1) = p2 :: Q.drop (u + 1) := by
          have h1 := (List.getElem?_eq_some_iff.1 hp2)
          obtain ⟨h1, h3⟩ := h1
          rw [← HU.out, List.drop_eq_getElem_cons h1, h3]
        obtain ⟨_, _, _, _, _, _, _, _, _, _, hcl2⟩ := HPC.out p2 (HQM.out p2 (List.mem_of_getElem? hp2))
        have k3 := (hcl2 wr HDX.out.bx.row.chg).1
        have k4 := HDX.out.pr.cell hp2
        unfold pcell at k4
        have f1 : ((u : Int) == (m : Int)) = false := by simp; omega
        have f2 : (u == m) = false := by simp; omega
        have j2 : (u : Int) < m := by have := HU.out; omega
        have j3 : (0 : Int) ≤ (u : Int) := by omega
        by_cases hss : S p2 = S p
        · have HEN : Hid (ts ++ emF S V (Q.drop (q + 1)) = emF S V Q) := by
            show _ = _
            rw [← HEM.out, hdr, hdr2, emF_eq hss]
          rw [hss] at k3
          clear hdr hdr2 hp hp2 hcl2 hss hlast
          go_upto_region 7 with fail
          go_quiet (fail)
          go_wp2_with fail
          go_roundw
          case rel => exact ⟨q + 1, es, ts, N, A3, c3, by omega, by go_num, by omega, HDX.out.call ((Chg.refl NoS _).drewN nq), HEN⟩
          case measure => simp [intOf]; omega
        · have HEN : Hid ((ts ++ [nmT (S p), x]) ++ emF S V (Q.drop (q + 1)) = emF S V Q) := by
            show _ = _
            rw [← HEM.out, hdr, hdr2, emF_ne hss, HVV.out, List.append_assoc]
          have hs3 : ¬ (S p2).toList = (S p).toList := str_ne11 hss
          have hs4 : ((S p2).toList == (S p).toList) = false := by simpa using hs3
          clear hdr hdr2 hp hp2 hcl2 hss hlast
          go_upto_region 7 with fail
          go_quiet (fail)
          clear k3 k4
          go_upto_region 8 with fail
          have HXD := keepf (HDX.out.call (((Chg.refl NoS wr).drewN nq).drew))
          have HDD := keepf (HDX.out.call ((Chg.refl NoS wr).drewN nq))
          clear k1
          generalize wr.drewN nq = wq at *
          refine startZ (fun w' => w'.cell? ⟨g4, 3, none⟩ = some (.slice A3 N c3) ∧ w'.cell? ⟨b, off + 2 * p * 4 + 2, none⟩ = some (.string (S p)) ∧ w'.cell? ⟨b, off + 2 * p * 4 + 4, none⟩ = some (.int .i64 xk) ∧ w'.cell? ⟨b, off + 2 * p * 4 + 4 + 1, none⟩ = some (.int .i64 xn) ∧ w'.cell? ⟨b, off + 2 * p * 4 + 4 + 2, none⟩ = some (.string xs) ∧ w'.cell? ⟨b, off + 2 * p * 4 + 4 + 3, none⟩ = some (.slice xA xl xc)) 13 (by kernel_rfl) (HXD.out.held HCL.out) (fun hHeld => ?_)
          refine takeZ (i := 0) (oi := { dst := some 45, op := Go.Op.fieldAddr 27 (Go.Operand.tmp 4) 3, type := 0, pos := _, after := _, guard := none }) (v := ?_) rfl (by kernel_rfl) (by kernel_rfl) (by kernel_rfl) (by kernel_rfl) (fun _ _ _ h => h) (Or.inl ⟨by rfl, ?_⟩) (by assumption) ?_
          rotate_left
          · intro w hSw; (try dsimp only at hSw); (try obtain ⟨s0, s1, s2, s3, s4, s5⟩ := hSw); (first | (go_simp; done) | (go_simp; with_reducible rfl))
          try simp only [Act.put, List.setIfInBounds_toArray, List.set_cons_zero, List.set_cons_succ]
          refine takeZ (i := 1) (oi := { dst := some 46, op := Go.Op.load 25 (Go.Operand.tmp 45), type := 25, pos := _, after := _, guard := none }) (v := ?_) rfl (by kernel_rfl) (by kernel_rfl) (by kernel_rfl) (by kernel_rfl) (fun _ _ _ h => h) (Or.inl ⟨by rfl, ?_⟩) (by assumption) ?_
          rotate_left
          · intro w hSw; (try dsimp only at hSw); (try obtain ⟨s0, s1, s2, s3, s4, s5⟩ := hSw); (first | (go_simp; done) | (go_simp; with_reducible rfl))
          try simp only [Act.put, List.setIfInBounds_toArray, List.set_cons_zero, List.set_cons_succ]
          refine takeZ (i := 2) (oi := { dst := some 47, op := Go.Op.move (Go.Operand.tmp 6), type := 25, pos := _, after := _, guard := none }) (v := ?_) rfl (by kernel_rfl) (by kernel_rfl) (by kernel_rfl) (by kernel_rfl) (fun _ _ _ h => h) (Or.inl ⟨by rfl, ?_⟩) (by assumption) ?_
          rotate_left
          · intro w hSw; (try dsimp only at hSw); (try obtain ⟨s0, s1, s2, s3, s4, s5⟩ := hSw); (first | (go_simp; done) | (go_simp; with_reducible rfl))
          try simp only [Act.put, List.setIfInBounds_toArray, List.set_cons_zero, List.set_cons_succ]
          refine takeZ (i := 3) (oi := { dst := some 48, op := Go.Op.indexAddr 25 (Go.Operand.tmp 47) (Go.Operand.const (Go.Value.int Go.IntKind.i64 0)), type := 0, pos := _, after := _, guard := none }) (v := ?_) rfl (by kernel_rfl) (by kernel_rfl) (by kernel_rfl) (by kernel_rfl) (fun _ _ _ h => h) (Or.inl ⟨by rfl, ?_⟩) (by assumption) ?_
          rotate_left
          · intro w hSw; (try dsimp only at hSw); (try obtain ⟨s0, s1, s2, s3, s4, s5⟩ := hSw); (first | (go_simp; done) | (go_simp; with_reducible rfl))
          try simp only [Act.put, List.setIfInBounds_toArray, List.set_cons_zero, List.set_cons_succ]
          refine takeZ (i := 4) (oi := { dst := some 49, op := Go.Op.fieldAddr 27 (Go.Operand.tmp 48) 2, type := 0, pos := _, after := _, guard := none }) (v := ?_) rfl (by kernel_rfl) (by kernel_rfl) (by kernel_rfl) (by kernel_rfl) (fun _ _ _ h => h) (Or.inl ⟨by rfl, ?_⟩) (by assumption) ?_
          rotate_left
          · intro w hSw; (try dsimp only at hSw); (try obtain ⟨s0, s1, s2, s3, s4, s5⟩ := hSw); (first | (go_simp; done) | (go_simp; with_reducible rfl))
          try simp only [Act.put, List.setIfInBounds_toArray, List.set_cons_zero, List.set_cons_succ]
          refine takeZ (i := 5) (oi := { dst := some 50, op := Go.Op.load 9 (Go.Operand.tmp 49), type := 9, pos := _, after := _, guard := none }) (v := ?_) rfl (by kernel_rfl) (by kernel_rfl) (by kernel_rfl) (by kernel_rfl) (fun _ _ _ h => h) (Or.inl ⟨by rfl, ?_⟩) (by assumption) ?_
          rotate_left
          · intro w hSw; (try dsimp only at hSw); (try obtain ⟨s0, s1, s2, s3, s4, s5⟩ := hSw); (first | (go_simp; done) | (go_simp; with_reducible rfl))
          try simp only [Act.put, List.setIfInBounds_toArray, List.set_cons_zero, List.set_cons_succ]
          refine takeZ (i := 7) (oi := { dst := some 52, op := Go.Op.move (Go.Operand.tmp 6), type := 25, pos := _, after := _, guard := none }) (v := ?_) rfl (by kernel_rfl) (by kernel_rfl) (by kernel_rfl) (by kernel_rfl) (fun _ _ _ h => h) (Or.inl ⟨by rfl, ?_⟩) (by assumption) ?_
          rotate_left
          · intro w hSw; (try dsimp only at hSw); (try obtain ⟨s0, s1, s2, s3, s4, s5⟩ := hSw); (first | (go_simp; done) | (go_simp; with_reducible rfl))
          try simp only [Act.put, List.setIfInBounds_toArray, List.set_cons_zero, List.set_cons_succ]
          refine takeZ (i := 8) (oi := { dst := some 53, op := Go.Op.indexAddr 25 (Go.Operand.tmp 52) (Go.Operand.const (Go.Value.int Go.IntKind.i64 1)), type := 0, pos := _, after := _, guard := none }) (v := ?_) rfl (by kernel_rfl) (by kernel_rfl) (by kernel_rfl) (by kernel_rfl) (fun _ _ _ h => h) (Or.inl ⟨by rfl, ?_⟩) (by assumption) ?_
          rotate_left
          · intro w hSw; (try dsimp only at hSw); (try obtain ⟨s0, s1, s2, s3, s4, s5⟩ := hSw); (first | (go_simp; done) | (go_simp; with_reducible rfl))
          try simp only [Act.put, List.setIfInBounds_toArray, List.set_cons_zero, List.set_cons_succ]
          refine takeZ (i := 9) (oi := { dst := some 54, op := Go.Op.load 27 (Go.Operand.tmp 53), type := 27, pos := _, after := _, guard := none }) (v := ?_) rfl (by kernel_rfl) (by kernel_rfl) (by kernel_rfl) (by kernel_rfl) (fun _ _ _ h => h) (Or.inl ⟨by rfl, ?_⟩) (by assumption) ?_
          rotate_left
          · intro w hSw; (try dsimp only at hSw); (try obtain ⟨s0, s1, s2, s3, s4, s5⟩ := hSw); (first | (go_simp; done) | (go_simp; with_reducible rfl))
          try simp only [Act.put, List.setIfInBounds_toArray, List.set_cons_zero, List.set_cons_succ]
          refine oneZ (i := 6) (o := { dst := some 51, op := Go.Op.call { callee := Go.Callee.value (Go.Operand.func 45), args := #[Go.Operand.tmp 50], argTypes := #[9] }, type := 27, pos := _, after := _, guard := none }) (by kernel_rfl) rfl (by decide) (fun K hK => ?_)
          go_simp
          (go_at_call 45; refine (nameOf_any (S p) _).mono ?_; rintro e w7 ⟨rfl, hc7⟩; have hx7 := HXD.out.call hc7)
          refine hK.out _ _ (hx7.held HCL.out) (fun hHeld => ?_)
          clear hK K
          try simp only [Act.put, List.setIfInBounds_toArray, List.set_cons_zero, List.set_cons_succ]
          refine oneZ (i := 10) (o := { dst := some 55, op := Go.Op.buildSlice 25 2 #[(0, Go.Operand.tmp 51), (1, Go.Operand.tmp 54)], type := 25, pos := _, after := _, guard := none }) (by kernel_rfl) rfl (by decide) (fun K hK => ?_)
          go_simp
          refine hK.out _ _ ((hx7.call ((Chg.refl NoS w7).alloc _)).held HCL.out) (fun hHeld => ?_)
          clear hK K
          try simp only [Act.put, List.setIfInBounds_toArray, List.set_cons_zero, List.set_cons_succ]
          refine oneZ (i := 11) (o := { dst := some 56, op := Go.Op.call { callee := Go.Callee.builtin Go.Builtin.append, args := #[Go.Operand.tmp 46, Go.Operand.tmp 55], argTypes := #[25, 25] }, type := 25, pos := _, after := _, guard := none }) (by kernel_rfl) rfl (by decide) (fun K hK => ?_)
          (refine step_appV (w := w) (wr := w7) (new := [⟨5, 0, S p, none, 0, 0⟩, ⟨xk, xn, xs, xA, xl, xc⟩]) (tn := [nmT (S p), x]) (m := 2) (cx := 2) (X := some ⟨w7.heap.size, 0, none⟩) (A := A3) (n := N) (c := c3) rfl (.tmp 46) (.tmp 55) rfl rfl rfl hx7.bx.row ((Chg.refl NoS w7).alloc _) (by omega) (by omega) (src_two (e := ⟨5, 0, S p, none, 0, 0⟩) (f := ⟨xk, xn, xs, xA, xl, xc⟩) (Blk.new w7 _ _)) rfl rfl (is_two HNM.out HVX.out) ?_; intro A4 c4 w8 hg8 hk8; have hx8 := (hx7.call ((Chg.refl NoS w7).alloc _)).app hg8 hk8)
          refine hK.out _ _ (hx8.held HCL.out) (fun hHeld => ?_)
          clear hK K
          try simp only [Act.put, List.setIfInBounds_toArray, List.set_cons_zero, List.set_cons_succ]
          refine takeZ (i := 12) (oi := { dst := some 57, op := Go.Op.fieldAddr 27 (Go.Operand.tmp 4) 3, type := 0, pos := _, after := _, guard := none }) (v := ?_) rfl (by kernel_rfl) (by kernel_rfl) (by kernel_rfl) (by kernel_rfl) (fun _ _ _ h => h) (Or.inl ⟨by rfl, ?_⟩) (by assumption) ?_
          rotate_left
          · intro w hSw; (try dsimp only at hSw); (try obtain ⟨s0, s1, s2, s3, s4, s5⟩ := hSw); (first | (go_simp; done) | (go_simp; with_reducible rfl))
          try simp only [Act.put, List.setIfInBounds_toArray, List.set_cons_zero, List.set_cons_succ]
          refine lastZ (o := { dst := none, op := Go.Op.store 25 (Go.Operand.tmp 57) (Go.Operand.tmp 56), type := 0, pos := _, after := _, guard := none }) (by kernel_rfl) rfl (by kernel_rfl) (fun K hK => ?_)
          have z3 := hx8.bx.b.blk.frozen 3
          have q3 := hx8.bx.b.blk.cell 3
          simp at q3
          go_simp
          refine hK.out _ _ ?_
          clear hK K
          try simp only [Act.put, List.setIfInBounds_toArray, List.set_cons_zero, List.set_cons_succ]
          have HDN := keepf hx8.put
          clear z3 q3 hx7 hk8 hg8
          go_wp2_with fail
          go_roundw
          case rel => exact ⟨q + 1, _, ts ++ [nmT (S p), x], N + 2, A4, c4, by omega, by go_num, by omega, HDN, HEN⟩
          case measure => simp [intOf]; omega

    · obtain rfl : q = m := by omega
      have HTS : Hid (ts = emF S V Q) := by
        have h := HEM.out
        rwa [List.drop_of_length_le (by rw [HQL.out]; exact Nat.le_refl _), emF, List.append_nil] at h
      have q0 := HDX.out.bx.b.blk.cell 0
      have q1 := HDX.out.bx.b.blk.cell 1
      have q2 := HDX.out.bx.b.blk.cell 2
      have q3 := HDX.out.bx.b.blk.cell 3
      have z0 := HDX.out.bx.o.blk.frozen 0
      have z1 := HDX.out.bx.o.blk.frozen 1
      have z2 := HDX.out.bx.o.blk.frozen 2
      have z3 := HDX.out.bx.o.blk.frozen 3
      have y0 := HDX.out.bx.o.blk.cell 0
      have y1 := HDX.out.bx.o.blk.cell 1
      have y2 := HDX.out.bx.o.blk.cell 2
      have y3 := HDX.out.bx.o.blk.cell 3
      simp at q0 q1 q2 q3 y0 y1 y2 y3
      go_wp2_with fail
      try simp only [Exit.noGoto_ret]
      clear y0 y1 y2 y3
      obtain ⟨hb, hvv, hcc⟩ := HDX.out.bx.fin (k := 7) (n := 0) (s := ⟨#[]⟩) rfl (by unfold maxLen; omega) (by decide) (by decide) (by decide) _ rfl
      have r0 := hb.blk.cell 0
      have r1 := hb.blk.cell 1
      have r2 := hb.blk.cell 2
      have r3 := hb.blk.cell 3
      simp at r0 r1 r2 r3
      refine bodyPost_ret (v := .agg #[.int .i64 7, .int .i64 0, .string ⟨#[]⟩, .slice A3 N c3]) (by simp [results, Try.results26, go_sem, r0, r1, r2, r3]) rfl ?_
      exact ⟨es, A3, N, c3, rfl, by rw [HDT.out, ← HTS.out]; exact hvv, by omega⟩

set_option maxHeartbeats 4000000 in
set_option maxRecDepth 100000 in
theorem dictOf_none [LVI] (A : Option Addr) (len cap : Nat) (w : World) (hA : A = none → len = 0 ∧ cap = 0) (h1 : len ≤ 1) :
    Calls Try.prog 26 #[.slice A len cap] w (DictTo w []) := by
  have t1 : (len : Int).tdiv 2 = 0 := by rw [Int.tdiv_eq_ediv_of_nonneg (by omega)]; omega
  have t2 : (len : Int) / 2 = 0 := by omega
  have j1 : (0 : Int) ≤ cap := by omega
  have HCK := keepf (fun W => chunkV_any W A 0 cap)
  have HSN := keepf (fun (A1 : Option Addr) (c1 : Nat) (W : World) => sortP_none A1 c1 (.func (.func 43) #[] #[]) W)
  have HC1 := keepf ((Chg.refl NoS w).alloc (.cells #[.int .i64 0, .int .i64 0, .string ⟨#[]⟩, .slice none 0 0] 27))
  have HO := keepf (⟨Blk.new w 27 #[.int .i64 0, .int .i64 0, .string ⟨#[]⟩, .slice none 0 0], Nat.le_refl _⟩ : PB w _ _ _)
  have hbs := (Blk.new (w.alloc (.cells #[.int .i64 0, .int .i64 0, .string ⟨#[]⟩, .slice none 0 0] 27)) 25 #[.slice A 0 cap]).alloc (.cells #[.int .i64 2] 3)
  have hbn := Blk.new ((w.alloc (.cells #[.int .i64 0, .int .i64 0, .string ⟨#[]⟩, .slice none 0 0] 27)).alloc (.cells #[.slice A 0 cap] 25)) 3 #[.int .i64 2]
  simp only [World.size_alloc] at hbs hbn
  have HCC := keepf (collect_any 0 _ _ 0 0 cap A _ (by omega) (fun h => absurd h (by omega)) (by omega) (hbs.cell 0) (hbn.cell 0))
  clear hbs hbn
  cases A with
  | none =>
    obtain ⟨rfl, rfl⟩ := hA rfl
    go_enter Try.func26, Try.ntmps26
    go_upto_region 5 with (first
      | (go_at_call 41; refine (HCK.out _).mono ?_; rintro e w3 ⟨rfl, rfl⟩)
      | (go_at_call 40; refine HCC.out.mono ?_; rintro e w4 ⟨v, rfl, hrow, hb4⟩; obtain ⟨A1, c1, rfl, _⟩ := own_slice hrow; have HC4 := keepf (((HC1.out.alloc _).alloc _).trans (Chg.of_below (S := NoS) hb4) (fun _ _ e => e)); have HO4 := keepf (((HO.out.alloc _).alloc _).call (Chg.of_below (S := NoS) hb4)); clear hrow hb4)
      | (go_at_call 42; refine (HSN.out _ _ _).mono ?_; rintro e w5 ⟨rfl, h5⟩; subst h5))
    have HX : Hid (Bx w (w5.alloc (.cells #[.int .i64 7, .int .i64 0, .string ⟨#[]⟩, .slice none 0 0] 27)) w5.heap.size w.heap.size #[.int .i64 7, .int .i64 0, .string ⟨#[]⟩, .slice none 0 0] #[.int .i64 0, .int .i64 0, .string ⟨#[]⟩, .slice none 0 0] [] [] 0 none 0) :=
      ⟨⟨Blk.new _ _ _, HC4.out.size⟩, ⟨HO4.out.blk.alloc _, HO4.out.new⟩, GV.start (HC4.out.alloc _), fun e => (by cases e), fun e => (by cases e), fun e => by have := HO4.out.blk.lt; omega⟩
    go_loopw [20] (fun v wr => v = .int .i64 0 ∧ wr = w5.alloc (.cells #[.int .i64 7, .int .i64 0, .string ⟨#[]⟩, .slice none 0 0] 27)) (fun _ _ => 0)
    case atStart => exact ⟨rfl, rfl⟩
    case round =>
      obtain ⟨rfl, hwr⟩ := hrel
      rw [← hwr] at HX
      obtain ⟨g4, hg4⟩ : ∃ g, g = w5.heap.size := ⟨_, rfl⟩
      rw [← hg4] at HX ⊢
      clear hwr hg4
      have q0 := HX.out.b.blk.cell 0
      have q1 := HX.out.b.blk.cell 1
      have q2 := HX.out.b.blk.cell 2
      have q3 := HX.out.b.blk.cell 3
      have z0 := HX.out.o.blk.frozen 0
      have z1 := HX.out.o.blk.frozen 1
      have z2 := HX.out.o.blk.frozen 2
      have z3 := HX.out.o.blk.frozen 3
      have y0 := HX.out.o.blk.cell 0
      have y1 := HX.out.o.blk.cell 1
      have y2 := HX.out.o.blk.cell 2
      have y3 := HX.out.o.blk.cell 3
      simp at q0 q1 q2 q3 y0 y1 y2 y3
      go_wp2_with fail
      try simp only [Exit.noGoto_ret]
      clear y0 y1 y2 y3
      obtain ⟨hb, hvv, hcc⟩ := HX.out.fin (k := 7) (n := 0) (s := ⟨#[]⟩) rfl (by unfold maxLen; omega) (by decide) (by decide) (by decide) _ rfl
      have r0 := hb.blk.cell 0
      have r1 := hb.blk.cell 1
      have r2 := hb.blk.cell 2
      have r3 := hb.blk.cell 3
      simp at r0 r1 r2 r3
      refine bodyPost_ret (v := .agg #[.int .i64 7, .int .i64 0, .string ⟨#[]⟩, .slice none 0 0]) (by simp [results, Try.results26, go_sem, r0, r1, r2, r3]) rfl ?_
      exact ⟨[], none, 0, 0, rfl, hvv, by omega⟩
  | some ad =>
    go_enter Try.func26, Try.ntmps26
    go_upto_region 5 with (first
      | (go_at_call 41; refine (HCK.out _).mono ?_; rintro e w3 ⟨rfl, rfl⟩)
      | (go_at_call 40; refine HCC.out.mono ?_; rintro e w4 ⟨v, rfl, hrow, hb4⟩; obtain ⟨A1, c1, rfl, _⟩ := own_slice hrow; have HC4 := keepf (((HC1.out.alloc _).alloc _).trans (Chg.of_below (S := NoS) hb4) (fun _ _ e => e)); have HO4 := keepf (((HO.out.alloc _).alloc _).call (Chg.of_below (S := NoS) hb4)); clear hrow hb4)
      | (go_at_call 42; refine (HSN.out _ _ _).mono ?_; rintro e w5 ⟨rfl, h5⟩; subst h5))
    have HX : Hid (Bx w (w5.alloc (.cells #[.int .i64 7, .int .i64 0, .string ⟨#[]⟩, .slice none 0 0] 27)) w5.heap.size w.heap.size #[.int .i64 7, .int .i64 0, .string ⟨#[]⟩, .slice none 0 0] #[.int .i64 0, .int .i64 0, .string ⟨#[]⟩, .slice none 0 0] [] [] 0 none 0) :=
      ⟨⟨Blk.new _ _ _, HC4.out.size⟩, ⟨HO4.out.blk.alloc _, HO4.out.new⟩, GV.start (HC4.out.alloc _), fun e => (by cases e), fun e => (by cases e), fun e => by have := HO4.out.blk.lt; omega⟩
    go_loopw [20] (fun v wr => v = .int .i64 0 ∧ wr = w5.alloc (.cells #[.int .i64 7, .int .i64 0, .string ⟨#[]⟩, .slice none 0 0] 27)) (fun _ _ => 0)
    case atStart => exact ⟨rfl, rfl⟩
    case round =>
      obtain ⟨rfl, hwr⟩ := hrel
      rw [← hwr] at HX
      obtain ⟨g4, hg4⟩ : ∃ g, g = w5.heap.size := ⟨_, rfl⟩
      rw [← hg4] at HX ⊢
      clear hwr hg4
      have q0 := HX.out.b.blk.cell 0
      have q1 := HX.out.b.blk.cell 1
      have q2 := HX.out.b.blk.cell 2
      have q3 := HX.out.b.blk.cell 3
      have z0 := HX.out.o.blk.frozen 0
      have z1 := HX.out.o.blk.frozen 1
      have z2 := HX.out.o.blk.frozen 2
      have z3 := HX.out.o.blk.frozen 3
      have y0 := HX.out.o.blk.cell 0
      have y1 := HX.out.o.blk.cell 1
      have y2 := HX.out.o.blk.cell 2
      have y3 := HX.out.o.blk.cell 3
      simp at q0 q1 q2 q3 y0 y1 y2 y3
      go_wp2_with fail
      try simp only [Exit.noGoto_ret]
      clear y0 y1 y2 y3
      obtain ⟨hb, hvv, hcc⟩ := HX.out.fin (k := 7) (n := 0) (s := ⟨#[]⟩) rfl (by unfold maxLen; omega) (by decide) (by decide) (by decide) _ rfl
      have r0 := hb.blk.cell 0
      have r1 := hb.blk.cell 1
      have r2 := hb.blk.cell 2
      have r3 := hb.blk.cell 3
      simp at r0 r1 r2 r3
      refine bodyPost_ret (v := .agg #[.int .i64 7, .int .i64 0, .string ⟨#[]⟩, .slice none 0 0]) (by simp [results, Try.results26, go_sem, r0, r1, r2, r3]) rfl ?_
      exact ⟨[], none, 0, 0, rfl, hvv, by omega⟩

theorem dictOf_k [LVI] (l : List VT) (es0 : List VC) (A : Option Addr) (len cap : Nat) (w : World) (hl : l.length = len) (hel : es0.length = len) (hsr : Src w 4 A len cap (vcells es0)) (hvi : ∀ (j : Nat) (t : VT) (e : VC), l[j]? = some t → es0[j]? = some e → LVI.VI t e) (hA : ∀ a, A = some a → a.spot = none) (hcap : len ≤ cap) (h40 : len ≤ 100000) (hks : ∀ t ∈ l, t.str.size ≤ maxLen) :
    Calls Try.prog 26 #[.slice A len cap] w (DictTo w (dictT l)) := by
  by_cases h : len ≤ 1
  · rw [dictT_short (l := l) (by rw [hl]; exact h)]
    exact dictOf_none A len cap w hsr.2.1 h
  · cases A with
    | none => have := hsr.2.1 rfl; omega
    | some a =>
      obtain ⟨b, off, k⟩ := a
      have := hA _ rfl
      simp only [] at this
      subst this
      exact dictOf_some l b off len cap w hl es0 hel hsr hvi hcap h40 (by omega) hks

end Go.Proofs.Ytaababegolfjeaa.KD

