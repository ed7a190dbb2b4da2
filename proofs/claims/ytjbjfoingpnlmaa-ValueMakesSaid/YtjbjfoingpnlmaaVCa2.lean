/- Concat of two and of three rows of values; a value's box whose row is another one. -/
import Derived.Test.YtjbjfoingpnlmaaVCat
import Derived.Test.YtjbjfoingpnlmaaVFnd
import Derived.Test.YtjbjfoingpnlmaaRVt10
namespace Go.Proofs.Ytjbjfoingpnlmaa
open Go.RowKit
set_option linter.unusedVariables false
set_option linter.unusedSimpArgs false

/-- A piece of values that lies in memory; its trees lie in an elder world. -/
structure PcV (w0 W : World) (A : Option Addr) (m c : Nat) (es : List VC) (ts : List VT) : Prop where
  src : Src W 4 A m c (vcells es)
  len : es.length = m
  tlen : ts.length = m
  is : ∀ (j : Nat) (t : VT) (e : VC), ts[j]? = some t → es[j]? = some e → ValIs w0 t e
theorem PcV.ok {w0 W : World} {A : Option Addr} {m c : Nat} {es : List VC} {ts : List VT} (h : PcV w0 W A m c es ts) (hc : Chg NoS w0 W) : SlV.Ok W W ⟨A, c, es, ts⟩ := by
  have h1 := h.len
  subst h1
  exact ⟨h.src, h.tlen, fun j t e a b => (h.is j t e a b).chg hc⟩
/-- What Concat tells. -/
def CatTo (w0 W : World) (N : Nat) (es : List VC) (ts : List VT) (e : Ending) (w' : World) : Prop :=
  ∃ A3 c3, e = .returned (.slice A3 N c3) ∧ GV w0 w' es ts N A3 c3 ∧ Chg NoS W w' ∧ ∀ g, g < W.heap.size → (Value.slice A3 N c3).ownBlock ≠ some g
theorem src_row1 {W : World} {G : Nat} {T : TypeId} {L : List Value} {n : Nat} (hb : Blk W G T L.toArray) (hn : L.length = n) : Src W 1 (some ⟨G, 0, none⟩) n n L := by
  refine ⟨by omega, fun e => (by cases e), fun ad ha j u hj => ?_⟩
  cases ha
  have hadd : (⟨G, 0, none⟩ : Addr).add j = ⟨G, j, none⟩ := by unfold Addr.add; split <;> simp_all
  rw [hadd, hb.cell j]
  simpa using hj
theorem is_app {w0 : World} {es es' : List VC} {ts ts' : List VT} {m : Nat} (h1 : es.length = m) (h2 : ts.length = m) (hi : ∀ (j : Nat) (t : VT) (e : VC), ts[j]? = some t → es[j]? = some e → ValIs w0 t e) (hi' : ∀ (j : Nat) (t : VT) (e : VC), ts'[j]? = some t → es'[j]? = some e → ValIs w0 t e) :
    ∀ (j : Nat) (t : VT) (e : VC), (ts ++ ts')[j]? = some t → (es ++ es')[j]? = some e → ValIs w0 t e := by
  intro j t e ht he
  by_cases hj : j < m
  · rw [List.getElem?_append_left (by omega)] at ht
    rw [List.getElem?_append_left (by omega)] at he
    exact hi j t e ht he
  · rw [List.getElem?_append_right (by omega), h2] at ht
    rw [List.getElem?_append_right (by omega), h1] at he
    exact hi' _ t e ht he
theorem cat2_any {w0 W : World} {A B : Option Addr} {m1 c1 m2 c2 N G : Nat} {es1 es2 : List VC} {ts1 ts2 : List VT} (hc : Chg NoS w0 W) (h1 : PcV w0 W A m1 c1 es1 ts1) (h2 : PcV w0 W B m2 c2 es2 ts2) (hN : m1 + m2 = N) (hn : N ≤ 1000000000) (hb : Blk W G 22 #[.slice A m1 c1, .slice B m2 c2]) :
    Calls Try.prog 43 #[.slice (some ⟨G, 0, none⟩) 2 2] W (CatTo w0 W N (es1 ++ es2) (ts1 ++ ts2)) := by
  have e1 := h1.len
  have e2 := h2.len
  have hl : (allC [⟨A, c1, es1, ts1⟩, ⟨B, c2, es2, ts2⟩]).length = N := by simp [allC, e1, e2]; omega
  have h := catV_any [⟨A, c1, es1, ts1⟩, ⟨B, c2, es2, ts2⟩] (some ⟨G, 0, none⟩) 2 W (by simp) (by simp) (by rw [hl]; exact hn) (src_row1 (T := 22) (by simpa [SlV.val, e1, e2] using hb) rfl) (by
    intro x hx
    simp only [List.mem_cons, List.not_mem_nil, or_false] at hx
    rcases hx with rfl | rfl
    · exact h1.ok hc
    · exact h2.ok hc)
  rw [hl] at h
  refine h.mono ?_
  rintro e w' ⟨A3, c3, rfl, hg⟩
  simp only [allC, allT, List.flatMap_cons, List.flatMap_nil, List.append_nil] at hg
  refine ⟨A3, c3, rfl, hg.base hc (is_app e1 h1.tlen h1.is h2.is), hg.chg, fun g hlt he => ?_⟩
  rcases A3 with _ | a
  · cases he
  · have := hg.new a rfl
    have h5 : a.block = g := Option.some.inj he
    omega
theorem cat3_any {w0 W : World} {A B D : Option Addr} {m1 c1 m2 c2 m3 c3 N G : Nat} {es1 es2 es3 : List VC} {ts1 ts2 ts3 : List VT} (hc : Chg NoS w0 W) (h1 : PcV w0 W A m1 c1 es1 ts1) (h2 : PcV w0 W B m2 c2 es2 ts2) (h3 : PcV w0 W D m3 c3 es3 ts3) (hN : m1 + m2 + m3 = N) (hn : N ≤ 1000000000) (hb : Blk W G 22 #[.slice A m1 c1, .slice B m2 c2, .slice D m3 c3]) :
    Calls Try.prog 43 #[.slice (some ⟨G, 0, none⟩) 3 3] W (CatTo w0 W N (es1 ++ (es2 ++ es3)) (ts1 ++ (ts2 ++ ts3))) := by
  have e1 := h1.len
  have e2 := h2.len
  have e3 := h3.len
  have hl : (allC [⟨A, c1, es1, ts1⟩, ⟨B, c2, es2, ts2⟩, ⟨D, c3, es3, ts3⟩]).length = N := by simp [allC, e1, e2, e3]; omega
  have h := catV_any [⟨A, c1, es1, ts1⟩, ⟨B, c2, es2, ts2⟩, ⟨D, c3, es3, ts3⟩] (some ⟨G, 0, none⟩) 3 W (by simp) (by simp) (by rw [hl]; exact hn) (src_row1 (T := 22) (by simpa [SlV.val, e1, e2, e3] using hb) rfl) (by
    intro x hx
    simp only [List.mem_cons, List.not_mem_nil, or_false] at hx
    rcases hx with rfl | rfl | rfl
    · exact h1.ok hc
    · exact h2.ok hc
    · exact h3.ok hc)
  rw [hl] at h
  refine h.mono ?_
  rintro e w' ⟨A3, c4, rfl, hg⟩
  simp only [allC, allT, List.flatMap_cons, List.flatMap_nil, List.append_nil] at hg
  refine ⟨A3, c4, rfl, hg.base hc (is_app e1 h1.tlen h1.is (is_app e2 h2.tlen h2.is h3.is)), hg.chg, fun g hlt he => ?_⟩
  rcases A3 with _ | a
  · cases he
  · have := hg.new a rfl
    have h5 : a.block = g := Option.some.inj he
    omega
theorem pc_nil {w0 W : World} {A : Option Addr} {c : Nat} (h : A = none → c = 0) : PcV w0 W A 0 c [] [] :=
  ⟨⟨rfl, fun e => ⟨rfl, h e⟩, fun ad ha j u hj => (by simp [vcells] at hj)⟩, rfl, rfl, fun j t e h => (by simp at h)⟩
/-- The pieces of a row that came in. -/
theorem pieces {w : World} {b off : Nat} {l : List VT} (hr : RowIs w (some ⟨b, off, none⟩) 0 l) : ∃ es : List VC, es.length = l.length ∧
    (∀ (W : World) (q cx : Nat), Chg NoS w W → q ≤ l.length → PcV w W (some ⟨b, off, none⟩) q cx (es.take q) (l.take q)) ∧
    (∀ (W : World) (r o m cx : Nat), Chg NoS w W → r + m = l.length → (0 < m → o = off + r * 4) → PcV w W (some ⟨b, o, none⟩) m cx (es.drop r) (l.drop r)) := by
  obtain ⟨es, hes, hec, hei⟩ := hr.list
  refine ⟨es, hes, fun W q cx hc hq => ⟨?_, by rw [List.length_take, hes]; omega, by rw [List.length_take]; omega, fun j t e h1 h2 => ?_⟩, fun W r o m cx hc hr2 ho => ?_⟩
  · have h := src_piece (p := 0) (m := q) (cx := cx) hec hc (by rw [hes]; omega)
    simpa using h
  · rw [List.getElem?_take] at h1 h2
    split at h1
    · next h => rw [if_pos h] at h2; exact hei j t e h1 h2
    · cases h1
  · by_cases hm : m = 0
    · subst hm
      rw [List.drop_of_length_le (by omega), List.drop_of_length_le (by omega)]
      exact pc_nil (fun e => (by cases e))
    · obtain rfl := ho (by omega)
      refine ⟨?_, by rw [List.length_drop, hes]; omega, by rw [List.length_drop]; omega, fun j t e h1 h2 => ?_⟩
      · have h := src_piece (p := r) (m := m) (cx := cx) hec hc (by rw [hes]; omega)
        rwa [List.take_of_length_le (by rw [List.length_drop, hes]; omega)] at h
      · rw [List.getElem?_drop] at h1 h2
        exact hei _ t e h1 h2
theorem pc_one {w W : World} {t : VT} {e : VC} {B : Nat} (hv : ValIs w t e) (hb : Blk W B 24 #[.int .i64 e.k, .int .i64 e.n, .string e.s, .slice e.A e.len e.cap]) : PcV w W (some ⟨B, 0, none⟩) 1 1 [e] [t] :=
  ⟨src_one (fun i hi => by
    rw [hb.cell i]
    match i, hi with
    | 0, _ => rfl
    | 1, _ => rfl
    | 2, _ => rfl
    | 3, _ => rfl), rfl, rfl, is_one hv⟩
theorem pc_two {w W : World} {t u : VT} {e f : VC} {B : Nat} (hv : ValIs w t e) (hu : ValIs w u f) (hb : Blk W B 24 #[.int .i64 e.k, .int .i64 e.n, .string e.s, .slice e.A e.len e.cap, .int .i64 f.k, .int .i64 f.n, .string f.s, .slice f.A f.len f.cap]) : PcV w W (some ⟨B, 0, none⟩) 2 2 [e, f] [t, u] := by
  refine ⟨⟨rfl, fun e => (by cases e), fun ad ha j x hj => ?_⟩, rfl, rfl, is_two hv hu⟩
  cases ha
  have hadd : (⟨B, 0, none⟩ : Addr).add j = ⟨B, j, none⟩ := by unfold Addr.add; split <;> simp_all
  rw [hadd, hb.cell j]
  rw [show vcells [e, f] = [.int .i64 e.k, .int .i64 e.n, .string e.s, .slice e.A e.len e.cap, .int .i64 f.k, .int .i64 f.n, .string f.s, .slice f.A f.len f.cap] from rfl] at hj
  simpa using hj
/-- What holds behind Concat of the two boxes, and of the row that it tells. -/
structure Bx (w W : World) (g go : Nat) (cv cz : Array Value) (es : List VC) (ts : List VT) (m : Nat) (A : Option Addr) (c : Nat) : Prop where
  b : PB w W g cv
  o : PB w W go cz
  row : GV w W es ts m A c
  nb : (Value.slice A m c).ownBlock ≠ some g
  no : (Value.slice A m c).ownBlock ≠ some go
  ne : g ≠ go
theorem Bx.drew {w W : World} {g go : Nat} {cv cz : Array Value} {es : List VC} {ts : List VT} {m c : Nat} {A : Option Addr} (h : Bx w W g go cv cz es ts m A c) : Bx w W.drew g go cv cz es ts m A c := ⟨h.b.drew, h.o.drew, h.row.call ((Chg.refl NoS W).drew), h.nb, h.no, h.ne⟩
/-- The new row is stored in the value's box. -/
theorem Bx.put {w W : World} {g go : Nat} {k n : Int} {s : ByteArray} {v : Value} {cz : Array Value} {es : List VC} {ts : List VT} {m c : Nat} {A : Option Addr} (h : Bx w W g go #[.int .i64 k, .int .i64 n, .string s, v] cz es ts m A c) :
    Bx w (W.setCell ⟨g, 3, none⟩ (.slice A m c)) g go #[.int .i64 k, .int .i64 n, .string s, .slice A m c] cz es ts m A c :=
  ⟨h.b.set 3 _, h.o.far (Ne.symm h.ne) 3 _, h.row.far h.nb h.b.new 3 _, h.nb, h.no, h.ne⟩
/-- The value is told: its four cells in the result's box. -/
theorem Bx.fin {w W : World} {g go : Nat} {k n : Int} {s : ByteArray} {cv cz : Array Value} {es : List VC} {ts : List VT} {m c : Nat} {A : Option Addr} (h : Bx w W g go cv cz es ts m A c) (hz : cz.size = 4) (hm : m ≤ maxLen)
    (hk : -9223372036854775808 ≤ k ∧ k ≤ 9223372036854775807) (hn : -9223372036854775808 ≤ n ∧ n ≤ 9223372036854775807) (hs : s.size ≤ maxLen) (W' : World) (hW : W' = (((W.setCell ⟨go, 0, none⟩ (.int .i64 k)).setCell ⟨go, 1, none⟩ (.int .i64 n)).setCell ⟨go, 2, none⟩ (.string s)).setCell ⟨go, 3, none⟩ (.slice A m c)) :
    PB w W' go #[.int .i64 k, .int .i64 n, .string s, .slice A m c] ∧ ValIs W' (.mk k n s ts) ⟨k, n, s, A, m, c⟩ ∧ Chg NoS w W' := by
  subst hW
  obtain ⟨h1, h2⟩ := h.o.set4 (a := .int .i64 k) (b := .int .i64 n) (c := .string s) (d := .slice A m c) h.row.chg hz
  exact ⟨h1, ((((h.row.far h.no h.o.new 0 _).far h.no h.o.new 1 _).far h.no h.o.new 2 _).far h.no h.o.new 3 _).val hm k n s hk hn hs, h2⟩
end Go.Proofs.Ytjbjfoingpnlmaa
