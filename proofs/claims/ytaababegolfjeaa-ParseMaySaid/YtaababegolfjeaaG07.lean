/- Merged by program: VDi2 VMkM. -/
import Derived.Test.YtaababegolfjeaaG05
import Derived.Test.YtaababegolfjeaaG06
/- The program's DictOf: the walk. -/
namespace Go.Proofs.Ytaababegolfjeaa
open Go.RowKit
set_option linter.unusedVariables false
set_option linter.unusedSimpArgs false

/-- What is left to be told of pairs in order: of those of one name the last one. -/
def emF (S : Nat → ByteArray) (V : Nat → VT) : List Nat → List VT
  | [] => []
  | [p] => [nmT (S p), V p]
  | p :: q :: r => (if S q = S p then [] else [nmT (S p), V p]) ++ emF S V (q :: r)

theorem emF_last {S : Nat → ByteArray} {V : Nat → VT} {p : Nat} : emF S V [p] = [nmT (S p), V p] ++ emF S V [] := rfl

theorem emF_eq {S : Nat → ByteArray} {V : Nat → VT} {p q : Nat} {r : List Nat} (h : S q = S p) : emF S V (p :: q :: r) = emF S V (q :: r) := by rw [emF, if_pos h]; rfl

theorem emF_ne {S : Nat → ByteArray} {V : Nat → VT} {p q : Nat} {r : List Nat} (h : S q ≠ S p) : emF S V (p :: q :: r) = [nmT (S p), V p] ++ emF S V (q :: r) := by rw [emF, if_neg h]

theorem PRow.blk {w : World} {g cap b off : Nat} {d : List Nat} (h : PRow w g cap b off d) : ∃ cs, Blk w g 25 cs ∧ ∀ w' : World, Blk w' g 25 cs → PRow w' g cap b off d := by
  rcases h.2 with ⟨h1, _⟩ | ⟨g', cap', cur, h1, h2, hh, h3⟩
  · cases h1
  · simp only [Value.slice.injEq, Option.some.injEq, Addr.mk.injEq] at h1
    obtain ⟨⟨rfl, _, _⟩, _, rfl⟩ := h1
    exact ⟨cur, hh, fun w' hb => ⟨h.1, .inr ⟨_, _, cur, rfl, h2, hb, h3⟩⟩⟩

/-- What holds while the dictionary is made: its box, the result's, its row, the pairs. -/
structure DX (w W : World) (g go gs c1 b off : Nat) (Q : List Nat) (cv cz : Array Value) (es : List VC) (ts : List VT) (m : Nat) (A : Option Addr) (c : Nat) : Prop where
  bx : Bx w W g go cv cz es ts m A c
  pr : PRow W gs c1 b off Q
  ng : (Value.slice A m c).ownBlock ≠ some gs
  n1 : gs ≠ g
  n2 : w.heap.size ≤ gs

theorem DX.call {w W W' : World} {g go gs c1 b off m c : Nat} {Q : List Nat} {cv cz : Array Value} {es : List VC} {ts : List VT} {A : Option Addr} (h : DX w W g go gs c1 b off Q cv cz es ts m A c) (hc : Chg NoS W W') : DX w W' g go gs c1 b off Q cv cz es ts m A c :=
  ⟨⟨h.bx.b.call hc, h.bx.o.call hc, h.bx.row.call hc, h.bx.nb, h.bx.no, h.bx.ne⟩, h.pr.chg hc (fun e => e), h.ng, h.n1, h.n2⟩

theorem DX.app {w W W' : World} {g go gs c1 b off m c m' c' : Nat} {Q : List Nat} {cv cz : Array Value} {es es' : List VC} {ts ts' : List VT} {A A' : Option Addr} (h : DX w W g go gs c1 b off Q cv cz es ts m A c) (hg : GV w W' es' ts' m' A' c')
    (k : ∀ (g : Nat) (T : TypeId) (cs : Array Value), Blk W g T cs → (Value.slice A m c).ownBlock ≠ some g → Blk W' g T cs ∧ (Value.slice A' m' c').ownBlock ≠ some g) : DX w W' g go gs c1 b off Q cv cz es' ts' m' A' c' := by
  obtain ⟨cs, hb, hp⟩ := h.pr.blk
  have h1 := k _ _ _ hb h.ng
  have h2 := h.bx.b.kept k h.bx.nb
  have h3 := h.bx.o.kept k h.bx.no
  exact ⟨⟨h2.1, h3.1, hg, h2.2, h3.2, h.bx.ne⟩, hp _ h1.1, h1.2, h.n1, h.n2⟩

theorem DX.put {w W : World} {g go gs c1 b off m c : Nat} {Q : List Nat} {k n : Int} {s : ByteArray} {v : Value} {cz : Array Value} {es : List VC} {ts : List VT} {A : Option Addr} (h : DX w W g go gs c1 b off Q #[.int .i64 k, .int .i64 n, .string s, v] cz es ts m A c) :
    DX w (W.setCell ⟨g, 3, none⟩ (.slice A m c)) g go gs c1 b off Q #[.int .i64 k, .int .i64 n, .string s, .slice A m c] cz es ts m A c := by
  refine ⟨h.bx.put, ?_, h.ng, h.n1, h.n2⟩
  exact h.pr.chg (K := fun i => i = g) ((Chg.refl (fun i => i = g) W).setCell (p := ⟨g, 3, none⟩) (fun _ => rfl) _) h.n1

/-- What is held in the region: the row in the box, the name's text, the value's cells. -/
theorem DX.held {w W : World} {g go gs c1 b off p m c m0 c0 : Nat} {Q : List Nat} {k n : Int} {s t : ByteArray} {cz : Array Value} {es : List VC} {ts : List VT} {A A0 : Option Addr} {v0 v1 v2 v3 : Value} (h : DX w W g go gs c1 b off Q #[.int .i64 k, .int .i64 n, .string s, .slice A0 m0 c0] cz es ts m A c)
    (hc : ∀ W, Chg NoS w W → W.cell? ⟨b, off + 2 * p * 4 + 2, none⟩ = some (.string t) ∧ W.cell? ⟨b, off + 2 * p * 4 + 4, none⟩ = some v0 ∧ W.cell? ⟨b, off + 2 * p * 4 + 4 + 1, none⟩ = some v1 ∧ W.cell? ⟨b, off + 2 * p * 4 + 4 + 2, none⟩ = some v2 ∧ W.cell? ⟨b, off + 2 * p * 4 + 4 + 3, none⟩ = some v3) :
    W.cell? ⟨g, 3, none⟩ = some (.slice A0 m0 c0) ∧ W.cell? ⟨b, off + 2 * p * 4 + 2, none⟩ = some (.string t) ∧ W.cell? ⟨b, off + 2 * p * 4 + 4, none⟩ = some v0 ∧ W.cell? ⟨b, off + 2 * p * 4 + 4 + 1, none⟩ = some v1 ∧ W.cell? ⟨b, off + 2 * p * 4 + 4 + 2, none⟩ = some v2 ∧ W.cell? ⟨b, off + 2 * p * 4 + 4 + 3, none⟩ = some v3 := by
  have h3 := h.bx.b.blk.cell 3
  simp at h3
  exact ⟨h3, hc W h.bx.row.chg⟩

theorem own_base {W : World} {B : Nat} {e : TypeId} {size : Nat} {v : Value} {n : Nat} {xs : List Value} (h : W.ownsRow B e size v n xs) : W.ownsRow 0 e size v n xs :=
  ⟨h.1, h.2.imp id (fun ⟨g, cap, cur, h1, _, h2⟩ => ⟨g, cap, cur, h1, Nat.zero_le _, h2⟩)⟩

/-- Collect's row, where something has come. -/
theorem col_row {W : World} {B b off m : Nat} {A1 : Option Addr} {c1 : Nat} (h : W.ownsRow B 25 1 (.slice A1 m c1) m (pcells b off m)) (h0 : 0 < m) : ∃ gs, A1 = some ⟨gs, 0, none⟩ ∧ B ≤ gs ∧ PRow W gs c1 b off (List.range m) := by
  rcases h.2 with ⟨_, h1⟩ | ⟨g, cap, cur, h1, h2, h3, h4⟩
  · omega
  · simp only [Value.slice.injEq] at h1
    obtain ⟨rfl, _, rfl⟩ := h1
    refine ⟨g, rfl, h2, ?_⟩
    unfold PRow
    rw [List.length_range]
    exact own_base h

def keyAt (l : List VT) (x : Nat) : ByteArray := ((l[2 * x]?).getD nilT).str

def valAt (l : List VT) (x : Nat) : VT := (l[2 * x + 1]?).getD nilT

/-- The tree of the dictionary that DictOf makes. -/
noncomputable def dictT (l : List VT) : List VT := emF (keyAt l) (valAt l) (sortR (keyAt l) (List.range (l.length / 2))).reverse

set_option maxHeartbeats 8000000 in
set_option maxRecDepth 100000 in
theorem dictOf_some (l : List VT) (b off len cap : Nat) (w : World) (hl : l.length = len) (hr : RowIs w (some ⟨b, off, none⟩) 0 l) (hcap : len ≤ cap) (h40 : len ≤ 40) (h2 : 2 ≤ len) (hks : ∀ t ∈ l, t.str.size ≤ maxLen) :
    Calls Try.prog 26 #[.slice (some ⟨b, off, none⟩) len cap] w (TreeTo w (.mk 7 0 ⟨#[]⟩ (dictT l))) := by
  obtain ⟨m, hm⟩ : ∃ m, m = len / 2 := ⟨_, rfl⟩
  obtain ⟨L2, hL2⟩ : ∃ L2, L2 = 2 * m := ⟨_, rfl⟩
  obtain ⟨S, hS⟩ : ∃ S, S = keyAt l := ⟨_, rfl⟩
  obtain ⟨V, hV⟩ : ∃ V, V = valAt l := ⟨_, rfl⟩
  obtain ⟨Q, hQ⟩ : ∃ Q, Q = (sortR S (List.range m)).reverse := ⟨_, rfl⟩
  have HDT := keepf (show dictT l = emF S V Q from by rw [hQ, hS, hV, hm, ← hl]; rfl)
  have HQM : Hid (∀ p ∈ Q, p < m) := fun p hp => by
    rw [hQ] at hp
    exact List.mem_range.1 (sortR_mem (List.mem_reverse.1 hp))
  have HQL : Hid (Q.length = m) := by show _ = _; rw [hQ, List.length_reverse, sortR_len, List.length_range]
  have HPC : Hid (∀ p, p < m → ∃ (x : VT) (xk xn : Int) (xs : ByteArray) (xA : Option Addr) (xl xc : Nat), V p = x ∧ ValIs w x ⟨xk, xn, xs, xA, xl, xc⟩ ∧ (S p).size ≤ maxLen ∧ ∀ W, Chg NoS w W → W.cell? ⟨b, off + 2 * p * 4 + 2, none⟩ = some (.string (S p)) ∧ W.cell? ⟨b, off + 2 * p * 4 + 4, none⟩ = some (.int .i64 xk) ∧ W.cell? ⟨b, off + 2 * p * 4 + 4 + 1, none⟩ = some (.int .i64 xn) ∧ W.cell? ⟨b, off + 2 * p * 4 + 4 + 2, none⟩ = some (.string xs) ∧ W.cell? ⟨b, off + 2 * p * 4 + 4 + 3, none⟩ = some (.slice xA xl xc)) := by
    show ∀ p, _
    intro p hp
    obtain ⟨t, ht, _⟩ := drop_vt (l := l) (k := 2 * p) (by omega)
    obtain ⟨x, hx, _⟩ := drop_vt (l := l) (k := 2 * p + 1) (by omega)
    obtain ⟨eA, el, ec, c0, c1, c2, c3, hve⟩ := hr.nth (Chg.refl NoS w) ht
    obtain ⟨xA, xl, xc, d0, d1, d2, d3, hvx⟩ := hr.nth (Chg.refl NoS w) hx
    have e1 : S p = t.str := by rw [hS]; unfold keyAt; rw [ht]; rfl
    have e2 : V p = x := by rw [hV]; unfold valAt; rw [hx]; rfl
    refine ⟨x, x.kind, x.num, x.str, xA, xl, xc, e2, hvx, by rw [e1]; exact hks t (List.mem_of_getElem? ht), fun W hW => ⟨?_, ?_, ?_, ?_, ?_⟩⟩
    · rw [e1]; exact (hW.cell (p := ⟨b, _, none⟩) (cell_lt c2) (fun h => h)).trans c2
    · rw [show off + 2 * p * 4 + 4 = off + (2 * p + 1) * 4 by omega]; exact (hW.cell (p := ⟨b, _, none⟩) (cell_lt d0) (fun h => h)).trans d0
    · rw [show off + 2 * p * 4 + 4 + 1 = off + (2 * p + 1) * 4 + 1 by omega]; exact (hW.cell (p := ⟨b, _, none⟩) (cell_lt d1) (fun h => h)).trans d1
    · rw [show off + 2 * p * 4 + 4 + 2 = off + (2 * p + 1) * 4 + 2 by omega]; exact (hW.cell (p := ⟨b, _, none⟩) (cell_lt d2) (fun h => h)).trans d2
    · rw [show off + 2 * p * 4 + 4 + 3 = off + (2 * p + 1) * 4 + 3 by omega]; exact (hW.cell (p := ⟨b, _, none⟩) (cell_lt d3) (fun h => h)).trans d3
  have hm0 : 0 < m := by omega
  have hm20 : m ≤ 20 := by omega
  have hbl : b < w.heap.size := by
    obtain ⟨x, xk, xn, xs, xA, xl, xc, _, _, _, hc⟩ := HPC.out 0 hm0
    exact cell_lt (hc w (Chg.refl _ _)).1
  have HBL := keepf hbl
  have t1 : (len : Int).tdiv 2 = (m : Int) := by rw [Int.tdiv_eq_ediv_of_nonneg (by omega)]; omega
  have t2 : (len : Int) / 2 = (m : Int) := by omega
  have t3 : (m : Int) * 2 = (L2 : Int) := by omega
  have i1 : (L2 : Int) ≤ cap := by omega
  have i2 : L2 ≤ cap := by omega
  have HCK := keepf (fun W => chunkV_any W (some ⟨b, off, none⟩) L2 cap)
  have HCO : Hid (∀ (W : World) (Bs Bn : Nat), W.cell? ⟨Bs, 0, none⟩ = some (.slice (some ⟨b, off, none⟩) L2 cap) → W.cell? ⟨Bn, 0, none⟩ = some (.int .i64 2) → Calls Try.prog 40 #[.func (.func 59) #[] #[.pointer (some ⟨Bs, 0, none⟩), .pointer (some ⟨Bn, 0, none⟩)]] W fun e w' =>
      ∃ v, e = .returned v ∧ w'.ownsRow W.heap.size 25 1 v m (pcells b off m) ∧ Below W.heap.size W w') := by
    show ∀ W : World, _
    intro W Bs Bn h1 h2
    exact collect_any m Bs Bn b off cap _ W (by omega) (fun _ => rfl) (by omega) (by rw [← hL2]; exact h1) h2
  have HO := keepf (⟨Blk.new w 27 #[.int .i64 0, .int .i64 0, .string ⟨#[]⟩, .slice none 0 0], Nat.le_refl _⟩ : PB w _ _ _)
  have HC1 := keepf ((Chg.refl NoS w).alloc (.cells #[.int .i64 0, .int .i64 0, .string ⟨#[]⟩, .slice none 0 0] 27))
  have hbs := (Blk.new (w.alloc (.cells #[.int .i64 0, .int .i64 0, .string ⟨#[]⟩, .slice none 0 0] 27)) 25 #[.slice (some ⟨b, off, none⟩) L2 cap]).alloc (.cells #[.int .i64 2] 3)
  have hbn := Blk.new ((w.alloc (.cells #[.int .i64 0, .int .i64 0, .string ⟨#[]⟩, .slice none 0 0] 27)).alloc (.cells #[.slice (some ⟨b, off, none⟩) L2 cap] 25)) 3 #[.int .i64 2]
  simp only [World.size_alloc] at hbs hbn
  have HCC := keepf (HCO.out _ _ _ (hbs.cell 0) (hbn.cell 0))
  have HQE := keepf hQ
  clear hbs hbn hm hL2 hS hV hQ hl hr HCO hbl
  go_enter Try.func26, Try.ntmps26
  go_upto_region 2 with (first
    | (go_at_call 41; refine (HCK.out _).mono ?_; rintro e w3 ⟨rfl, rfl⟩)
    | (go_at_call 40; refine HCC.out.mono ?_; rintro e w4 ⟨v, rfl, hrow, hb4⟩; obtain ⟨A1, c1, rfl, _⟩ := own_slice hrow; obtain ⟨gs, rfl, hgs, hpr⟩ := col_row hrow hm0; have HPR := keepf hpr; have HC4 := keepf (((HC1.out.alloc _).alloc _).trans (Chg.of_below (S := NoS) hb4) (fun _ _ e => e)); have HO4 := keepf (((HO.out.alloc _).alloc _).call (Chg.of_below (S := NoS) hb4)); have HGS := keepf hgs; clear hrow hb4 hpr hgs))
  have hgs1 : w.heap.size ≤ gs := by have h1 := HGS.out; simp only [World.size_alloc] at h1; omega
  have hbgs : b ≠ gs := by have h1 := HBL.out; omega
  obtain ⟨g0, hg0⟩ : ∃ g, g = w.heap.size := ⟨_, rfl⟩
  have hg04 : g0 ≠ gs := by have h1 := HGS.out; simp only [World.size_alloc] at h1; omega
  have hso := sortP_any 43 b off m gs c1 S w4 (fun args w => rfl) (dcmp_any b off gs m S w4 (fun x hx => by
    obtain ⟨_, _, _, _, _, _, _, _, _, _, hc⟩ := HPC.out x hx
    exact (hc w4 HC4.out).1) hbgs) (List.range m) w4 (by rw [List.length_range]; exact hm20) (fun x hx => List.mem_range.1 hx) HPR.out (Chg.refl _ _)
  rw [List.length_range, ← HQE.out] at hso
  have HSO := keepf hso
  rw [← hg0] at HO4 ⊢
  have HG0 := keepf hg0
  clear hso hg0 HGS HPR HCK HCC HO HC1
  go_upto_region 5 with (go_at_call 42; refine HSO.out.mono ?_; rintro e w5 ⟨rfl, hp5, hc5⟩; have HP5 := keepf hp5; have HC5 := keepf (HC4.out.trans hc5 (fun i hi e => by omega : ∀ i, i < w.heap.size → i = gs → NoS i)); have HO5 := keepf (⟨HO4.out.blk.chg hc5 hg04, HO4.out.new⟩ : PB w w5 g0 _); clear hp5 hc5)
  have HD0 : Hid (DX w (w5.alloc (.cells #[.int .i64 7, .int .i64 0, .string ⟨#[]⟩, .slice none 0 0] 27)) w5.heap.size g0 gs c1 b off Q #[.int .i64 7, .int .i64 0, .string ⟨#[]⟩, .slice none 0 0] #[.int .i64 0, .int .i64 0, .string ⟨#[]⟩, .slice none 0 0] [] [] 0 none 0) :=
    ⟨⟨⟨Blk.new _ _ _, HC5.out.size⟩, ⟨HO5.out.blk.alloc _, HO5.out.new⟩, GV.start (HC5.out.alloc _), fun e => (by cases e), fun e => (by cases e), fun e => by have := HO5.out.blk.lt; omega⟩, HP5.out.chg (K := NoS) ((Chg.refl _ _).alloc _) (fun e => e), fun e => (by cases e), fun e => by have := HP5.out.lt; omega, hgs1⟩
  obtain ⟨g4, hg4⟩ : ∃ g, g = w5.heap.size := ⟨_, rfl⟩
  rw [← hg4] at HD0 ⊢
  clear hg4
  go_loopw [20] (fun v wr => ∃ (q : Nat) (es : List VC) (ts : List VT) (N : Nat) (A3 : Option Addr) (c3 : Nat), q ≤ m ∧ v = .int .i64 q ∧ N ≤ 2 * q ∧ Hid (DX w wr g4 g0 gs c1 b off Q #[.int .i64 7, .int .i64 0, .string ⟨#[]⟩, .slice A3 N c3] #[.int .i64 0, .int .i64 0, .string ⟨#[]⟩, .slice none 0 0] es ts N A3 c3) ∧ Hid (ts ++ emF S V (Q.drop q) = emF S V Q)) (fun v _ => m - (intOf v).toNat)
  case atStart => exact ⟨0, [], [], 0, none, 0, by omega, by go_num, by omega, HD0, keepf (by rw [List.drop_zero]; rfl)⟩
  case round =>
    obtain ⟨q, es, ts, N, A3, c3, hq, rfl, hN2, HDX, HEM⟩ := hrel
    by_cases hlt : q < m
    · obtain ⟨p, hp⟩ : ∃ p, Q[q]? = some p := ⟨_, List.getElem?_eq_getElem (by rw [HQL.out]; exact hlt)⟩
      have hdr : Q.drop q = p :: Q.drop (q + 1) := by
        have h1 := (List.getElem?_eq_some_iff.1 hp)
        obtain ⟨h1, h3⟩ := h1
        rw [List.drop_eq_getElem_cons h1, h3]
      have hpm := HQM.out p (List.mem_of_getElem? hp)
      obtain ⟨x, xk, xn, xs, xA, xl, xc, hvx, hvi, hsz, hcl⟩ := HPC.out p hpm
      have HVX := keepf hvi
      have HNM := keepf (nm_is w (S p) hsz)
      have HCL := keepf hcl
      have HVV := keepf hvx
      have KK := hcl wr HDX.out.bx.row.chg
      have k1 := HDX.out.pr.cell hp
      unfold pcell at k1
      obtain ⟨k2, _⟩ := KK
      have j1 : (q : Int) < m := by omega
      obtain ⟨u, hu⟩ : ∃ u, u = q + 1 := ⟨_, rfl⟩
      have e1 : (q : Int) + 1 = (u : Int) := by omega
      have k0 : IntKind.i64.wrap (u : Int) = (u : Int) := by rw [IntKind.wrap_i64]; omega
      have HU := keepf hu
      clear hvi hcl hvx hu hsz hpm
      by_cases hlast : u = m
      · have HEN : Hid ((ts ++ [nmT (S p), x]) ++ emF S V (Q.drop (q + 1)) = emF S V Q) := by
          show _ = _
          rw [← HEM.out, hdr, List.drop_of_length_le (l := Q) (by rw [HQL.out]; have := HU.out; omega), emF_last, HVV.out, List.append_assoc]
        have f1 : ((u : Int) == (m : Int)) = true := by simp; omega
        have f2 : (u == m) = true := by simp; omega
        clear hdr hp hlast
        go_upto_region 7 with fail
        go_quiet (fail)
        go_upto_region 8 with fail
        have HXD := keepf (HDX.out.call (((Chg.refl NoS wr).drewN nq).drew))
        have HDD := keepf (HDX.out.call ((Chg.refl NoS wr).drewN nq))
        clear k1
        generalize wr.drewN nq = wq at *
        refine startZ (fun w' => w'.cell? ⟨g4, 3, none⟩ = some (.slice A3 N c3) ∧ w'.cell? ⟨b, off + 2 * p * 4 + 2, none⟩ = some (.string (S p)) ∧ w'.cell? ⟨b, off + 2 * p * 4 + 4, none⟩ = some (.int .i64 xk) ∧ w'.cell? ⟨b, off + 2 * p * 4 + 4 + 1, none⟩ = some (.int .i64 xn) ∧ w'.cell? ⟨b, off + 2 * p * 4 + 4 + 2, none⟩ = some (.string xs) ∧ w'.cell? ⟨b, off + 2 * p * 4 + 4 + 3, none⟩ = some (.slice xA xl xc)) 13 (by kernel_rfl) (HXD.out.held HCL.out) (fun hHeld => ?_)
        refine takeZ (i := 0) (oi := { dst := some 45, op := Go.Op.fieldAddr 27 (Go.Operand.tmp 4) 3, type := 0, pos := _, after := _, guard := none }) (v := ?_) rfl (by kernel_rfl) (by kernel_rfl) (by kernel_rfl) (by kernel_rfl) (fun _ _ _ h => h) (Or.inl ⟨by rfl, ?_⟩) (by assumption) ?_
        rotate_left
        · intro w hSw; (try dsimp only at hSw); (try obtain ⟨s0, s1, s2, s3, s4, s5⟩ := hSw); (first | (go_simp; done) | (go_simp; with_reducible rfl))
        try simp only [Act.put, List.setIfInBounds_toArray, List.set_cons_zero, List.set_cons_succ]
        refine takeZ (i := 1) (oi := { dst := some 46, op := Go.Op.load 25 (Go.Operand.tmp 45), type := 25, pos := _, after := _, guard := none }) (v := ?_) rfl (by kernel_rfl) (by kernel_rfl) (by kernel_rfl) (by kernel_rfl) (fun _ _ _ h => h) (Or.inl ⟨by rfl, ?_⟩) (by assumption) ?_
        rotate_left
        · intro w hSw; (try dsimp only at hSw); (try obtain ⟨s0, s1, s2, s3, s4, s5⟩ := hSw); (first | (go_simp; done) | (go_simp; with_reducible rfl))
        try simp only [Act.put, List.setIfInBounds_toArray, List.set_cons_zero, List.set_cons_succ]
        refine takeZ (i := 2) (oi := { dst := some 47, op := Go.Op.move (Go.Operand.tmp 6), type := 25, pos := _, after := _, guard := none }) (v := ?_) rfl (by kernel_rfl) (by kernel_rfl) (by kernel_rfl) (by kernel_rfl) (fun _ _ _ h => h) (Or.inl ⟨by rfl, ?_⟩) (by assumption) ?_
        rotate_left
        · intro w hSw; (try dsimp only at hSw); (try obtain ⟨s0, s1, s2, s3, s4, s5⟩ := hSw); (first | (go_simp; done) | (go_simp; with_reducible rfl))
        try simp only [Act.put, List.setIfInBounds_toArray, List.set_cons_zero, List.set_cons_succ]
        refine takeZ (i := 3) (oi := { dst := some 48, op := Go.Op.indexAddr 25 (Go.Operand.tmp 47) (Go.Operand.const (Go.Value.int Go.IntKind.i64 0)), type := 0, pos := _, after := _, guard := none }) (v := ?_) rfl (by kernel_rfl) (by kernel_rfl) (by kernel_rfl) (by kernel_rfl) (fun _ _ _ h => h) (Or.inl ⟨by rfl, ?_⟩) (by assumption) ?_
        rotate_left
        · intro w hSw; (try dsimp only at hSw); (try obtain ⟨s0, s1, s2, s3, s4, s5⟩ := hSw); (first | (go_simp; done) | (go_simp; with_reducible rfl))
        try simp only [Act.put, List.setIfInBounds_toArray, List.set_cons_zero, List.set_cons_succ]
        refine takeZ (i := 4) (oi := { dst := some 49, op := Go.Op.fieldAddr 27 (Go.Operand.tmp 48) 2, type := 0, pos := _, after := _, guard := none }) (v := ?_) rfl (by kernel_rfl) (by kernel_rfl) (by kernel_rfl) (by kernel_rfl) (fun _ _ _ h => h) (Or.inl ⟨by rfl, ?_⟩) (by assumption) ?_
        rotate_left
        · intro w hSw; (try dsimp only at hSw); (try obtain ⟨s0, s1, s2, s3, s4, s5⟩ := hSw); (first | (go_simp; done) | (go_simp; with_reducible rfl))
        try simp only [Act.put, List.setIfInBounds_toArray, List.set_cons_zero, List.set_cons_succ]
        refine takeZ (i := 5) (oi := { dst := some 50, op := Go.Op.load 9 (Go.Operand.tmp 49), type := 9, pos := _, after := _, guard := none }) (v := ?_) rfl (by kernel_rfl) (by kernel_rfl) (by kernel_rfl) (by kernel_rfl) (fun _ _ _ h => h) (Or.inl ⟨by rfl, ?_⟩) (by assumption) ?_
        rotate_left
        · intro w hSw; (try dsimp only at hSw); (try obtain ⟨s0, s1, s2, s3, s4, s5⟩ := hSw); (first | (go_simp; done) | (go_simp; with_reducible rfl))
        try simp only [Act.put, List.setIfInBounds_toArray, List.set_cons_zero, List.set_cons_succ]
        refine takeZ (i := 7) (oi := { dst := some 52, op := Go.Op.move (Go.Operand.tmp 6), type := 25, pos := _, after := _, guard := none }) (v := ?_) rfl (by kernel_rfl) (by kernel_rfl) (by kernel_rfl) (by kernel_rfl) (fun _ _ _ h => h) (Or.inl ⟨by rfl, ?_⟩) (by assumption) ?_
        rotate_left
        · intro w hSw; (try dsimp only at hSw); (try obtain ⟨s0, s1, s2, s3, s4, s5⟩ := hSw); (first | (go_simp; done) | (go_simp; with_reducible rfl))
        try simp only [Act.put, List.setIfInBounds_toArray, List.set_cons_zero, List.set_cons_succ]
        refine takeZ (i := 8) (oi := { dst := some 53, op := Go.Op.indexAddr 25 (Go.Operand.tmp 52) (Go.Operand.const (Go.Value.int Go.IntKind.i64 1)), type := 0, pos := _, after := _, guard := none }) (v := ?_) rfl (by kernel_rfl) (by kernel_rfl) (by kernel_rfl) (by kernel_rfl) (fun _ _ _ h => h) (Or.inl ⟨by rfl, ?_⟩) (by assumption) ?_
        rotate_left
        · intro w hSw; (try dsimp only at hSw); (try obtain ⟨s0, s1, s2, s3, s4, s5⟩ := hSw); (first | (go_simp; done) | (go_simp; with_reducible rfl))
        try simp only [Act.put, List.setIfInBounds_toArray, List.set_cons_zero, List.set_cons_succ]
        refine takeZ (i := 9) (oi := { dst := some 54, op := Go.Op.load 27 (Go.Operand.tmp 53), type := 27, pos := _, after := _, guard := none }) (v := ?_) rfl (by kernel_rfl) (by kernel_rfl) (by kernel_rfl) (by kernel_rfl) (fun _ _ _ h => h) (Or.inl ⟨by rfl, ?_⟩) (by assumption) ?_
        rotate_left
        · intro w hSw; (try dsimp only at hSw); (try obtain ⟨s0, s1, s2, s3, s4, s5⟩ := hSw); (first | (go_simp; done) | (go_simp; with_reducible rfl))
        try simp only [Act.put, List.setIfInBounds_toArray, List.set_cons_zero, List.set_cons_succ]
        refine oneZ (i := 6) (o := { dst := some 51, op := Go.Op.call { callee := Go.Callee.value (Go.Operand.func 45), args := #[Go.Operand.tmp 50], argTypes := #[9] }, type := 27, pos := _, after := _, guard := none }) (by kernel_rfl) rfl (by decide) (fun K hK => ?_)
        go_simp
        (go_at_call 45; refine (nameOf_any (S p) _).mono ?_; rintro e w7 ⟨rfl, hc7⟩; have hx7 := HXD.out.call hc7)
        refine hK.out _ _ (hx7.held HCL.out) (fun hHeld => ?_)
        clear hK K
        try simp only [Act.put, List.setIfInBounds_toArray, List.set_cons_zero, List.set_cons_succ]
        refine oneZ (i := 10) (o := { dst := some 55, op := Go.Op.buildSlice 25 2 #[(0, Go.Operand.tmp 51), (1, Go.Operand.tmp 54)], type := 25, pos := _, after := _, guard := none }) (by kernel_rfl) rfl (by decide) (fun K hK => ?_)
        go_simp
        refine hK.out _ _ ((hx7.call ((Chg.refl NoS w7).alloc _)).held HCL.out) (fun hHeld => ?_)
        clear hK K
        try simp only [Act.put, List.setIfInBounds_toArray, List.set_cons_zero, List.set_cons_succ]
        refine oneZ (i := 11) (o := { dst := some 56, op := Go.Op.call { callee := Go.Callee.builtin Go.Builtin.append, args := #[Go.Operand.tmp 46, Go.Operand.tmp 55], argTypes := #[25, 25] }, type := 25, pos := _, after := _, guard := none }) (by kernel_rfl) rfl (by decide) (fun K hK => ?_)
        (refine step_appV (w := w) (wr := w7) (new := [⟨5, 0, S p, none, 0, 0⟩, ⟨xk, xn, xs, xA, xl, xc⟩]) (tn := [nmT (S p), x]) (m := 2) (cx := 2) (X := some ⟨w7.heap.size, 0, none⟩) (A := A3) (n := N) (c := c3) rfl (.tmp 46) (.tmp 55) rfl rfl rfl hx7.bx.row ((Chg.refl NoS w7).alloc _) (by omega) (by omega) (pc_two HNM.out HVX.out (Blk.new w7 _ _)).src rfl rfl (is_two HNM.out HVX.out) ?_; intro A4 c4 w8 hg8 hk8; have hx8 := (hx7.call ((Chg.refl NoS w7).alloc _)).app hg8 hk8)
        refine hK.out _ _ (hx8.held HCL.out) (fun hHeld => ?_)
        clear hK K
        try simp only [Act.put, List.setIfInBounds_toArray, List.set_cons_zero, List.set_cons_succ]
        refine takeZ (i := 12) (oi := { dst := some 57, op := Go.Op.fieldAddr 27 (Go.Operand.tmp 4) 3, type := 0, pos := _, after := _, guard := none }) (v := ?_) rfl (by kernel_rfl) (by kernel_rfl) (by kernel_rfl) (by kernel_rfl) (fun _ _ _ h => h) (Or.inl ⟨by rfl, ?_⟩) (by assumption) ?_
        rotate_left
        · intro w hSw; (try dsimp only at hSw); (try obtain ⟨s0, s1, s2, s3, s4, s5⟩ := hSw); (first | (go_simp; done) | (go_simp; with_reducible rfl))
        try simp only [Act.put, List.setIfInBounds_toArray, List.set_cons_zero, List.set_cons_succ]
        refine lastZ (o := { dst := none, op := Go.Op.store 25 (Go.Operand.tmp 57) (Go.Operand.tmp 56), type := 0, pos := _, after := _, guard := none }) (by kernel_rfl) rfl (by kernel_rfl) (fun K hK => ?_)
        have z3 := hx8.bx.b.blk.frozen 3
        have q3 := hx8.bx.b.blk.cell 3
        simp at q3
        go_simp
        refine hK.out _ _ ?_
        clear hK K
        try simp only [Act.put, List.setIfInBounds_toArray, List.set_cons_zero, List.set_cons_succ]
        have HDN := keepf hx8.put
        clear z3 q3 hx7 hk8 hg8
        go_wp2_with fail
        go_roundw
        case rel => exact ⟨q + 1, _, ts ++ [nmT (S p), x], N + 2, A4, c4, by omega, by go_num, by omega, HDN, HEN⟩
        case measure => simp [intOf]; omega

      · obtain ⟨p2, hp2⟩ : ∃ p2, Q[u]? = some p2 := ⟨_, List.getElem?_eq_getElem (by rw [HQL.out]; have := HU.out; omega)⟩
        have hdr2 : Q.drop (q + 1) = p2 :: Q.drop (u + 1) := by
          have h1 := (List.getElem?_eq_some_iff.1 hp2)
          obtain ⟨h1, h3⟩ := h1
          rw [← HU.out, List.drop_eq_getElem_cons h1, h3]
        obtain ⟨_, _, _, _, _, _, _, _, _, _, hcl2⟩ := HPC.out p2 (HQM.out p2 (List.mem_of_getElem? hp2))
        have k3 := (hcl2 wr HDX.out.bx.row.chg).1
        have k4 := HDX.out.pr.cell hp2
        unfold pcell at k4
        have f1 : ((u : Int) == (m : Int)) = false := by simp; omega
        have f2 : (u == m) = false := by simp; omega
        have j2 : (u : Int) < m := by have := HU.out; omega
        have j3 : (0 : Int) ≤ (u : Int) := by omega
        by_cases hss : S p2 = S p
        · have HEN : Hid (ts ++ emF S V (Q.drop (q + 1)) = emF S V Q) := by
            show _ = _
            rw [← HEM.out, hdr, hdr2, emF_eq hss]
          rw [hss] at k3
          clear hdr hdr2 hp hp2 hcl2 hss hlast
          go_upto_region 7 with fail
          go_quiet (fail)
          go_wp2_with fail
          go_roundw
          case rel => exact ⟨q + 1, es, ts, N, A3, c3, by omega, by go_num, by omega, HDX.out.call ((Chg.refl NoS _).drewN nq), HEN⟩
          case measure => simp [intOf]; omega
        · have HEN : Hid ((ts ++ [nmT (S p), x]) ++ emF S V (Q.drop (q + 1)) = emF S V Q) := by
            show _ = _
            rw [← HEM.out, hdr, hdr2, emF_ne hss, HVV.out, List.append_assoc]
          have hs3 : ¬ (S p2).toList = (S p).toList := str_ne11 hss
          have hs4 : ((S p2).toList == (S p).toList) = false := by simpa using hs3
          clear hdr hdr2 hp hp2 hcl2 hss hlast
          go_upto_region 7 with fail
          go_quiet (fail)
          clear k3 k4
          go_upto_region 8 with fail
          have HXD := keepf (HDX.out.call (((Chg.refl NoS wr).drewN nq).drew))
          have HDD := keepf (HDX.out.call ((Chg.refl NoS wr).drewN nq))
          clear k1
          generalize wr.drewN nq = wq at *
          refine startZ (fun w' => w'.cell? ⟨g4, 3, none⟩ = some (.slice A3 N c3) ∧ w'.cell? ⟨b, off + 2 * p * 4 + 2, none⟩ = some (.string (S p)) ∧ w'.cell? ⟨b, off + 2 * p * 4 + 4, none⟩ = some (.int .i64 xk) ∧ w'.cell? ⟨b, off + 2 * p * 4 + 4 + 1, none⟩ = some (.int .i64 xn) ∧ w'.cell? ⟨b, off + 2 * p * 4 + 4 + 2, none⟩ = some (.string xs) ∧ w'.cell? ⟨b, off + 2 * p * 4 + 4 + 3, none⟩ = some (.slice xA xl xc)) 13 (by kernel_rfl) (HXD.out.held HCL.out) (fun hHeld => ?_)
          refine takeZ (i := 0) (oi := { dst := some 45, op := Go.Op.fieldAddr 27 (Go.Operand.tmp 4) 3, type := 0, pos := _, after := _, guard := none }) (v := ?_) rfl (by kernel_rfl) (by kernel_rfl) (by kernel_rfl) (by kernel_rfl) (fun _ _ _ h => h) (Or.inl ⟨by rfl, ?_⟩) (by assumption) ?_
          rotate_left
          · intro w hSw; (try dsimp only at hSw); (try obtain ⟨s0, s1, s2, s3, s4, s5⟩ := hSw); (first | (go_simp; done) | (go_simp; with_reducible rfl))
          try simp only [Act.put, List.setIfInBounds_toArray, List.set_cons_zero, List.set_cons_succ]
          refine takeZ (i := 1) (oi := { dst := some 46, op := Go.Op.load 25 (Go.Operand.tmp 45), type := 25, pos := _, after := _, guard := none }) (v := ?_) rfl (by kernel_rfl) (by kernel_rfl) (by kernel_rfl) (by kernel_rfl) (fun _ _ _ h => h) (Or.inl ⟨by rfl, ?_⟩) (by assumption) ?_
          rotate_left
          · intro w hSw; (try dsimp only at hSw); (try obtain ⟨s0, s1, s2, s3, s4, s5⟩ := hSw); (first | (go_simp; done) | (go_simp; with_reducible rfl))
          try simp only [Act.put, List.setIfInBounds_toArray, List.set_cons_zero, List.set_cons_succ]
          refine takeZ (i := 2) (oi := { dst := some 47, op := Go.Op.move (Go.Operand.tmp 6), type := 25, pos := _, after := _, guard := none }) (v := ?_) rfl (by kernel_rfl) (by kernel_rfl) (by kernel_rfl) (by kernel_rfl) (fun _ _ _ h => h) (Or.inl ⟨by rfl, ?_⟩) (by assumption) ?_
          rotate_left
          · intro w hSw; (try dsimp only at hSw); (try obtain ⟨s0, s1, s2, s3, s4, s5⟩ := hSw); (first | (go_simp; done) | (go_simp; with_reducible rfl))
          try simp only [Act.put, List.setIfInBounds_toArray, List.set_cons_zero, List.set_cons_succ]
          refine takeZ (i := 3) (oi := { dst := some 48, op := Go.Op.indexAddr 25 (Go.Operand.tmp 47) (Go.Operand.const (Go.Value.int Go.IntKind.i64 0)), type := 0, pos := _, after := _, guard := none }) (v := ?_) rfl (by kernel_rfl) (by kernel_rfl) (by kernel_rfl) (by kernel_rfl) (fun _ _ _ h => h) (Or.inl ⟨by rfl, ?_⟩) (by assumption) ?_
          rotate_left
          · intro w hSw; (try dsimp only at hSw); (try obtain ⟨s0, s1, s2, s3, s4, s5⟩ := hSw); (first | (go_simp; done) | (go_simp; with_reducible rfl))
          try simp only [Act.put, List.setIfInBounds_toArray, List.set_cons_zero, List.set_cons_succ]
          refine takeZ (i := 4) (oi := { dst := some 49, op := Go.Op.fieldAddr 27 (Go.Operand.tmp 48) 2, type := 0, pos := _, after := _, guard := none }) (v := ?_) rfl (by kernel_rfl) (by kernel_rfl) (by kernel_rfl) (by kernel_rfl) (fun _ _ _ h => h) (Or.inl ⟨by rfl, ?_⟩) (by assumption) ?_
          rotate_left
          · intro w hSw; (try dsimp only at hSw); (try obtain ⟨s0, s1, s2, s3, s4, s5⟩ := hSw); (first | (go_simp; done) | (go_simp; with_reducible rfl))
          try simp only [Act.put, List.setIfInBounds_toArray, List.set_cons_zero, List.set_cons_succ]
          refine takeZ (i := 5) (oi := { dst := some 50, op := Go.Op.load 9 (Go.Operand.tmp 49), type := 9, pos := _, after := _, guard := none }) (v := ?_) rfl (by kernel_rfl) (by kernel_rfl) (by kernel_rfl) (by kernel_rfl) (fun _ _ _ h => h) (Or.inl ⟨by rfl, ?_⟩) (by assumption) ?_
          rotate_left
          · intro w hSw; (try dsimp only at hSw); (try obtain ⟨s0, s1, s2, s3, s4, s5⟩ := hSw); (first | (go_simp; done) | (go_simp; with_reducible rfl))
          try simp only [Act.put, List.setIfInBounds_toArray, List.set_cons_zero, List.set_cons_succ]
          refine takeZ (i := 7) (oi := { dst := some 52, op := Go.Op.move (Go.Operand.tmp 6), type := 25, pos := _, after := _, guard := none }) (v := ?_) rfl (by kernel_rfl) (by kernel_rfl) (by kernel_rfl) (by kernel_rfl) (fun _ _ _ h => h) (Or.inl ⟨by rfl, ?_⟩) (by assumption) ?_
          rotate_left
          · intro w hSw; (try dsimp only at hSw); (try obtain ⟨s0, s1, s2, s3, s4, s5⟩ := hSw); (first | (go_simp; done) | (go_simp; with_reducible rfl))
          try simp only [Act.put, List.setIfInBounds_toArray, List.set_cons_zero, List.set_cons_succ]
          refine takeZ (i := 8) (oi := { dst := some 53, op := Go.Op.indexAddr 25 (Go.Operand.tmp 52) (Go.Operand.const (Go.Value.int Go.IntKind.i64 1)), type := 0, pos := _, after := _, guard := none }) (v := ?_) rfl (by kernel_rfl) (by kernel_rfl) (by kernel_rfl) (by kernel_rfl) (fun _ _ _ h => h) (Or.inl ⟨by rfl, ?_⟩) (by assumption) ?_
          rotate_left
          · intro w hSw; (try dsimp only at hSw); (try obtain ⟨s0, s1, s2, s3, s4, s5⟩ := hSw); (first | (go_simp; done) | (go_simp; with_reducible rfl))
          try simp only [Act.put, List.setIfInBounds_toArray, List.set_cons_zero, List.set_cons_succ]
          refine takeZ (i := 9) (oi := { dst := some 54, op := Go.Op.load 27 (Go.Operand.tmp 53), type := 27, pos := _, after := _, guard := none }) (v := ?_) rfl (by kernel_rfl) (by kernel_rfl) (by kernel_rfl) (by kernel_rfl) (fun _ _ _ h => h) (Or.inl ⟨by rfl, ?_⟩) (by assumption) ?_
          rotate_left
          · intro w hSw; (try dsimp only at hSw); (try obtain ⟨s0, s1, s2, s3, s4, s5⟩ := hSw); (first | (go_simp; done) | (go_simp; with_reducible rfl))
          try simp only [Act.put, List.setIfInBounds_toArray, List.set_cons_zero, List.set_cons_succ]
          refine oneZ (i := 6) (o := { dst := some 51, op := Go.Op.call { callee := Go.Callee.value (Go.Operand.func 45), args := #[Go.Operand.tmp 50], argTypes := #[9] }, type := 27, pos := _, after := _, guard := none }) (by kernel_rfl) rfl (by decide) (fun K hK => ?_)
          go_simp
          (go_at_call 45; refine (nameOf_any (S p) _).mono ?_; rintro e w7 ⟨rfl, hc7⟩; have hx7 := HXD.out.call hc7)
          refine hK.out _ _ (hx7.held HCL.out) (fun hHeld => ?_)
          clear hK K
          try simp only [Act.put, List.setIfInBounds_toArray, List.set_cons_zero, List.set_cons_succ]
          refine oneZ (i := 10) (o := { dst := some 55, op := Go.Op.buildSlice 25 2 #[(0, Go.Operand.tmp 51), (1, Go.Operand.tmp 54)], type := 25, pos := _, after := _, guard := none }) (by kernel_rfl) rfl (by decide) (fun K hK => ?_)
          go_simp
          refine hK.out _ _ ((hx7.call ((Chg.refl NoS w7).alloc _)).held HCL.out) (fun hHeld => ?_)
          clear hK K
          try simp only [Act.put, List.setIfInBounds_toArray, List.set_cons_zero, List.set_cons_succ]
          refine oneZ (i := 11) (o := { dst := some 56, op := Go.Op.call { callee := Go.Callee.builtin Go.Builtin.append, args := #[Go.Operand.tmp 46, Go.Operand.tmp 55], argTypes := #[25, 25] }, type := 25, pos := _, after := _, guard := none }) (by kernel_rfl) rfl (by decide) (fun K hK => ?_)
          (refine step_appV (w := w) (wr := w7) (new := [⟨5, 0, S p, none, 0, 0⟩, ⟨xk, xn, xs, xA, xl, xc⟩]) (tn := [nmT (S p), x]) (m := 2) (cx := 2) (X := some ⟨w7.heap.size, 0, none⟩) (A := A3) (n := N) (c := c3) rfl (.tmp 46) (.tmp 55) rfl rfl rfl hx7.bx.row ((Chg.refl NoS w7).alloc _) (by omega) (by omega) (pc_two HNM.out HVX.out (Blk.new w7 _ _)).src rfl rfl (is_two HNM.out HVX.out) ?_; intro A4 c4 w8 hg8 hk8; have hx8 := (hx7.call ((Chg.refl NoS w7).alloc _)).app hg8 hk8)
          refine hK.out _ _ (hx8.held HCL.out) (fun hHeld => ?_)
          clear hK K
          try simp only [Act.put, List.setIfInBounds_toArray, List.set_cons_zero, List.set_cons_succ]
          refine takeZ (i := 12) (oi := { dst := some 57, op := Go.Op.fieldAddr 27 (Go.Operand.tmp 4) 3, type := 0, pos := _, after := _, guard := none }) (v := ?_) rfl (by kernel_rfl) (by kernel_rfl) (by kernel_rfl) (by kernel_rfl) (fun _ _ _ h => h) (Or.inl ⟨by rfl, ?_⟩) (by assumption) ?_
          rotate_left
          · intro w hSw; (try dsimp only at hSw); (try obtain ⟨s0, s1, s2, s3, s4, s5⟩ := hSw); (first | (go_simp; done) | (go_simp; with_reducible rfl))
          try simp only [Act.put, List.setIfInBounds_toArray, List.set_cons_zero, List.set_cons_succ]
          refine lastZ (o := { dst := none, op := Go.Op.store 25 (Go.Operand.tmp 57) (Go.Operand.tmp 56), type := 0, pos := _, after := _, guard := none }) (by kernel_rfl) rfl (by kernel_rfl) (fun K hK => ?_)
          have z3 := hx8.bx.b.blk.frozen 3
          have q3 := hx8.bx.b.blk.cell 3
          simp at q3
          go_simp
          refine hK.out _ _ ?_
          clear hK K
          try simp only [Act.put, List.setIfInBounds_toArray, List.set_cons_zero, List.set_cons_succ]
          have HDN := keepf hx8.put
          clear z3 q3 hx7 hk8 hg8
          go_wp2_with fail
          go_roundw
          case rel => exact ⟨q + 1, _, ts ++ [nmT (S p), x], N + 2, A4, c4, by omega, by go_num, by omega, HDN, HEN⟩
          case measure => simp [intOf]; omega

    · obtain rfl : q = m := by omega
      have HTS : Hid (ts = emF S V Q) := by
        have h := HEM.out
        rwa [List.drop_of_length_le (by rw [HQL.out]; exact Nat.le_refl _), emF, List.append_nil] at h
      have q0 := HDX.out.bx.b.blk.cell 0
      have q1 := HDX.out.bx.b.blk.cell 1
      have q2 := HDX.out.bx.b.blk.cell 2
      have q3 := HDX.out.bx.b.blk.cell 3
      have z0 := HDX.out.bx.o.blk.frozen 0
      have z1 := HDX.out.bx.o.blk.frozen 1
      have z2 := HDX.out.bx.o.blk.frozen 2
      have z3 := HDX.out.bx.o.blk.frozen 3
      have y0 := HDX.out.bx.o.blk.cell 0
      have y1 := HDX.out.bx.o.blk.cell 1
      have y2 := HDX.out.bx.o.blk.cell 2
      have y3 := HDX.out.bx.o.blk.cell 3
      simp at q0 q1 q2 q3 y0 y1 y2 y3
      go_wp2_with fail
      try simp only [Exit.noGoto_ret]
      clear y0 y1 y2 y3
      obtain ⟨hb, hvv, hcc⟩ := HDX.out.bx.fin (k := 7) (n := 0) (s := ⟨#[]⟩) rfl (by unfold maxLen; omega) (by decide) (by decide) (by decide) _ rfl
      have r0 := hb.blk.cell 0
      have r1 := hb.blk.cell 1
      have r2 := hb.blk.cell 2
      have r3 := hb.blk.cell 3
      simp at r0 r1 r2 r3
      refine bodyPost_ret (v := .agg #[.int .i64 7, .int .i64 0, .string ⟨#[]⟩, .slice A3 N c3]) (by simp [results, Try.results26, go_sem, r0, r1, r2, r3]) rfl ?_
      exact ⟨⟨7, 0, ⟨#[]⟩, A3, N, c3⟩, rfl, by rw [HDT.out, ← HTS.out]; exact hvv, hcc⟩

end Go.Proofs.Ytaababegolfjeaa

/- A dictionary that is made by putting one name behind another in is one whose names were put in order, the last of equal ones kept: plain mathematics. -/
namespace Go.Proofs.Ytaababegolfjeaa
set_option linter.unusedVariables false
set_option linter.unusedSimpArgs false

/-- What is told of a row of numbers from its end. -/
def emR (S : Nat → ByteArray) (V : Nat → VT) : Option ByteArray → List Nat → List VT
  | _, [] => []
  | prev, p :: R => emR S V (some (S p)) R ++ (if prev = some (S p) then [] else [nmT (S p), V p])

theorem emF_rev {S : Nat → ByteArray} {V : Nat → VT} : ∀ (R : List Nat) (p : Nat) (t : List Nat), emF S V (R.reverse ++ p :: t) = emR S V (some (S p)) R ++ emF S V (p :: t)
  | [], p, t => by rw [emR]; rfl
  | q :: R, p, t => by
    rw [List.reverse_cons, List.append_assoc, List.singleton_append, emF_rev R q (p :: t), emF, emR]
    by_cases h : S p = S q
    · rw [if_pos h, if_pos (by rw [h])]; simp
    · rw [if_neg h, if_neg (fun e => h (Option.some.inj e))]; simp

theorem emF_none {S : Nat → ByteArray} {V : Nat → VT} : ∀ R : List Nat, emF S V R.reverse = emR S V none R
  | [] => by rw [emR]; rfl
  | p :: R => by
    rw [List.reverse_cons, emF_rev R p [], emR, if_neg (by simp)]
    rfl

/-- A row of names that are all less. -/
def lowL (key : ByteArray) : List VT → Prop
  | [] => True
  | [_] => False
  | t :: _ :: l => Op.bytesLess t.str.toList key.toList = true ∧ lowL key l

theorem low_two {P : List VT → Prop} {key : ByteArray} (h0 : P []) (h2 : ∀ t u l, Op.bytesLess t.str.toList key.toList = true → lowL key l → P l → P (t :: u :: l)) : ∀ l : List VT, lowL key l → P l
  | [], _ => h0
  | [t], h => h.elim
  | t :: u :: l, h => h2 t u l h.1 h.2 (low_two h0 h2 l h.2)

theorem no_hit {key : ByteArray} {t : VT} (h : Op.bytesLess t.str.toList key.toList = true) : ¬ hitT key t := fun e => by
  rw [e.2, less_self] at h
  cases h

theorem no_gt {key : ByteArray} {t : VT} (h : Op.bytesLess t.str.toList key.toList = true) : ¬ gtT key t := fun e => by
  have := less_tr h e.2
  rw [less_self] at this
  cases this

theorem low_mono {a b : ByteArray} (hab : Op.bytesLess a.toList b.toList = true) : ∀ l : List VT, lowL a l → lowL b l := low_two trivial (fun t u l h _ ih => ⟨less_tr h hab, ih⟩)

theorem low_app {key s : ByteArray} {v : VT} (hs : Op.bytesLess s.toList key.toList = true) : ∀ l : List VT, lowL key l → lowL key (l ++ [nmT s, v]) := low_two ⟨hs, trivial⟩ (fun t u l h _ ih => ⟨h, ih⟩)

theorem low_find {key : ByteArray} : ∀ l : List VT, lowL key l → findL key l = none := low_two (findL_nil key) (fun t u l h _ ih => by rw [find_two (no_hit h), ih]; rfl)

theorem low_ins {key : ByteArray} {x : VT} : ∀ l : List VT, lowL key l → insL key x l = l ++ [nmT key, x] := low_two (by rw [insL]; rfl) (fun t u l h _ ih => by rw [ins_le (no_gt h), ih]; rfl)

theorem low_put {key : ByteArray} {x : VT} {l : List VT} (h : lowL key l) : putL key x l = l ++ [nmT key, x] := by
  unfold putL
  rw [low_find l h, low_ins l h]

theorem low_last {key : ByteArray} {x v : VT} : ∀ l : List VT, lowL key l → ∃ j, findL key (l ++ [nmT key, v]) = some j ∧ replL j x (l ++ [nmT key, v]) = l ++ [nmT key, x] :=
  low_two ⟨0, findL_hit (hit_nm key), rfl⟩ (fun t u l h _ ih => by
    obtain ⟨j, h1, h2⟩ := ih
    refine ⟨j + 1, ?_, ?_⟩
    · show findL key (t :: u :: (l ++ [nmT key, v])) = _
      rw [find_two (no_hit h), h1]
      rfl
    · show replL (j + 1) x (t :: u :: (l ++ [nmT key, v])) = _
      rw [repl_succ, h2]
      rfl)

theorem low_eq {key : ByteArray} {x v : VT} {l : List VT} (h : lowL key l) : putL key x (l ++ [nmT key, v]) = l ++ [nmT key, x] := by
  obtain ⟨j, h1, h2⟩ := low_last (x := x) (v := v) l h
  unfold putL
  rw [h1]
  exact h2

/-- What is greater stands behind what is put in. -/
theorem find_app {key s : ByteArray} {v : VT} (hs : Op.bytesLess key.toList s.toList = true) : ∀ l : List VT, l.length % 2 = 0 → findL key (l ++ [nmT s, v]) = findL key l := by
  have hno : ¬ hitT key (nmT s) := fun e => by
    have h2 : s = key := e.2
    rw [h2, less_self] at hs
    cases hs
  refine two_ind ?_ (fun t u l hl ih => ?_)
  · show findL key [nmT s, v] = _
    rw [find_two hno, findL_nil]
    rfl
  · show findL key (t :: u :: (l ++ [nmT s, v])) = _
    by_cases ht : hitT key t
    · rw [findL_hit ht, findL_hit ht]
    · rw [find_two ht, find_two ht, ih]

theorem ins_app {key s : ByteArray} {x v : VT} (hs : Op.bytesLess key.toList s.toList = true) : ∀ l : List VT, l.length % 2 = 0 → insL key x (l ++ [nmT s, v]) = insL key x l ++ [nmT s, v] := by
  refine two_ind ?_ (fun t u l hl ih => ?_)
  · show insL key x [nmT s, v] = _
    rw [ins_gt ⟨rfl, hs⟩, insL]
    rfl
  · show insL key x (t :: u :: (l ++ [nmT s, v])) = _
    by_cases hg : gtT key t
    · rw [ins_gt hg, ins_gt hg]; rfl
    · rw [ins_le hg, ins_le hg, ih]; rfl

theorem repl_app {x : VT} {T : List VT} {j : Nat} {l : List VT} (h : 2 * j + 2 ≤ l.length) : replL j x (l ++ T) = replL j x l ++ T := by
  unfold replL
  rw [List.take_append_of_le_length (by omega), List.drop_append_of_le_length (by omega), List.append_assoc, List.cons_append]

theorem put_app {key s : ByteArray} {x v : VT} {l : List VT} (hs : Op.bytesLess key.toList s.toList = true) (hl : l.length % 2 = 0) : putL key x (l ++ [nmT s, v]) = putL key x l ++ [nmT s, v] := by
  unfold putL
  rw [find_app hs l hl]
  cases hf : findL key l with
  | none => exact ins_app hs l hl
  | some j =>
    have := findL_lt key _ l (Nat.le_refl _) j hf
    exact repl_app (by omega)

/-- The numbers' names fall. -/
def fallR (S : Nat → ByteArray) : List Nat → Prop
  | [] => True
  | [_] => True
  | p :: q :: R => Op.bytesLess (S p).toList (S q).toList ≠ true ∧ fallR S (q :: R)

theorem fall_tail {S : Nat → ByteArray} {p : Nat} : ∀ {R : List Nat}, fallR S (p :: R) → fallR S R
  | [], _ => trivial
  | q :: R, h => h.2

theorem less_as {a b : ByteArray} (h : Op.bytesLess a.toList b.toList = true) : Op.bytesLess b.toList a.toList ≠ true := fun e => by
  have := less_tr h e
  rw [less_self] at this
  cases this

theorem fall_cons {S : Nat → ByteArray} {k : Nat} : ∀ (R : List Nat) (p : Nat), Op.bytesLess (S k).toList (S p).toList = true → fallR S (p :: R) → fallR S (p :: insR S k R)
  | [], p, h, _ => ⟨less_as h, trivial⟩
  | q :: R, p, h, hf => by
    rw [insR]
    by_cases hq : Op.bytesLess (S k).toList (S q).toList = true
    · rw [if_pos hq]
      exact ⟨hf.1, fall_cons R q hq hf.2⟩
    · rw [if_neg hq]
      exact ⟨less_as h, hq, hf.2⟩

theorem fall_ins {S : Nat → ByteArray} {k : Nat} : ∀ {R : List Nat}, fallR S R → fallR S (insR S k R)
  | [], _ => trivial
  | p :: R, h => by
    rw [insR]
    by_cases hp : Op.bytesLess (S k).toList (S p).toList = true
    · rw [if_pos hp]
      exact fall_cons R p hp h
    · rw [if_neg hp]
      exact ⟨hp, h⟩

theorem emR_even {S : Nat → ByteArray} {V : Nat → VT} : ∀ (R : List Nat) (prev : Option ByteArray), (emR S V prev R).length % 2 = 0
  | [], _ => by rw [emR]; rfl
  | p :: R, prev => by
    rw [emR, List.length_append]
    have := emR_even (S := S) (V := V) R (some (S p))
    split
    · simp only [List.length_nil]; omega
    · simp only [List.length_cons, List.length_nil]; omega

theorem emR_low {S : Nat → ByteArray} {V : Nat → VT} : ∀ (R : List Nat) (p : Nat), fallR S (p :: R) → lowL (S p) (emR S V (some (S p)) R)
  | [], _, _ => by rw [emR]; trivial
  | q :: R, p, h => by
    rw [emR]
    have ih := emR_low (V := V) R q h.2
    by_cases hq : S p = S q
    · rw [if_pos (by rw [hq]), List.append_nil, hq]
      exact ih
    · rw [if_neg (fun e => hq (Option.some.inj e))]
      have hl := less_tot h.1 hq
      exact low_app hl _ (low_mono hl _ ih)

theorem put_em {S : Nat → ByteArray} {V : Nat → VT} {k : Nat} : ∀ (R : List Nat) (prev : Option ByteArray), (∀ s, prev = some s → Op.bytesLess (S k).toList s.toList = true) → fallR S R → putL (S k) (V k) (emR S V prev R) = emR S V prev (insR S k R)
  | [], prev, hp, _ => by
    have hne : prev ≠ some (S k) := fun e => by
      have := hp _ e
      rw [less_self] at this
      cases this
    rw [insR, emR, emR, emR, if_neg hne]
    exact low_put (l := []) trivial
  | p :: R, prev, hp, hf => by
    have hne : prev ≠ some (S k) := fun e => by
      have := hp _ e
      rw [less_self] at this
      cases this
    rw [insR]
    by_cases h : Op.bytesLess (S k).toList (S p).toList = true
    · rw [if_pos h, emR, emR, ← put_em R (some (S p)) (fun s e => by cases e; exact h) (fall_tail hf)]
      by_cases h2 : prev = some (S p)
      · rw [if_pos h2, List.append_nil, List.append_nil]
      · rw [if_neg h2]
        exact put_app h (emR_even R _)
    · have h2 : prev ≠ some (S p) := fun e => h (hp _ e)
      have hlow := emR_low (V := V) R p hf
      rw [if_neg h, emR, if_neg h2, emR, if_neg hne, emR]
      by_cases hk : S k = S p
      · rw [if_pos (by rw [hk]), List.append_nil, hk]
        exact low_eq hlow
      · rw [if_neg (fun e => hk (Option.some.inj e))]
        have hl := less_tot h hk
        exact low_put (low_app hl _ (low_mono hl _ hlow))

/-- One put in behind another. -/
noncomputable def dictF (S : Nat → ByteArray) (V : Nat → VT) (d : List Nat) : List VT := d.foldl (fun D k => putL (S k) (V k) D) []

theorem dictF_snoc (S : Nat → ByteArray) (V : Nat → VT) (d : List Nat) (k : Nat) : dictF S V (d ++ [k]) = putL (S k) (V k) (dictF S V d) := by simp [dictF]

theorem dictF_em {S : Nat → ByteArray} {V : Nat → VT} : ∀ m : Nat, fallR S (sortR S (List.range m)) ∧ dictF S V (List.range m) = emR S V none (sortR S (List.range m))
  | 0 => by
    refine ⟨trivial, ?_⟩
    show [] = emR S V none []
    rw [emR]
  | m + 1 => by
    obtain ⟨h1, h2⟩ := dictF_em (S := S) (V := V) m
    rw [List.range_succ, sortR_snoc, dictF_snoc, h2]
    exact ⟨fall_ins h1, put_em _ none (fun s e => by cases e) h1⟩

/-- The names and values of a row, put in one behind another. -/
theorem dictF_T (l : List VT) : dictF (keyAt l) (valAt l) (List.range (l.length / 2)) = dictT l := by
  unfold dictT
  rw [emF_none, (dictF_em _).2]

end Go.Proofs.Ytaababegolfjeaa

