/- The document's own Drop. -/
import Derived.Test.YtjbjfoingpnlmaaRVt6
import Derived.Test.YtjbjfoingpnlmaaRowV
import Derived.Deep.CutRange
import Derived.Deep.Cut
namespace Go.Proofs.Ytjbjfoingpnlmaa
open Go.RowKit
set_option linter.unusedVariables false
set_option linter.unusedSimpArgs false

/-- A row's elements as they lie. -/
theorem RowIs.list {w : World} {b off : Nat} : ∀ {l : List VT} {j : Nat}, RowIs w (some ⟨b, off, none⟩) j l → ∃ es : List VC, es.length = l.length ∧ (∀ (i : Nat) (e : VC), es[i]? = some e → ∀ m, m < 4 → w.cell? ⟨b, off + (j + i) * 4 + m, none⟩ = e.cells[m]?) ∧ ∀ (i : Nat) (t : VT) (e : VC), l[i]? = some t → es[i]? = some e → ValIs w t e := by
  intro l
  induction l with
  | nil => intro j _; exact ⟨[], rfl, fun i e h => (by simp at h), fun i t e h => (by simp at h)⟩
  | cons t l ih =>
    intro j h
    obtain ⟨e, c0, c1, c2, c3, hv, hr⟩ := h.plain
    obtain ⟨es, hl, hc, hi⟩ := ih hr
    refine ⟨e :: es, by rw [List.length_cons, List.length_cons, hl], fun i x hx m hm => ?_, fun i u x hu hx => ?_⟩
    · cases i with
      | zero =>
        simp at hx
        subst hx
        rw [Nat.add_zero]
        match m, hm with
        | 0, _ => exact c0
        | 1, _ => exact c1
        | 2, _ => exact c2
        | 3, _ => exact c3
      | succ i =>
        have := hc i x (by simpa using hx) m hm
        rw [show j + 1 + i = j + (i + 1) from by omega] at this
        exact this
    · cases i with
      | zero => simp at hu hx; subst hu; subst hx; exact hv
      | succ i => exact hi i u x (by simpa using hu) (by simpa using hx)
/-- A piece of a row that lies. -/
theorem src_piece {w W : World} {b off p m cx : Nat} {es : List VC} (hc : ∀ (i : Nat) (e : VC), es[i]? = some e → ∀ m, m < 4 → w.cell? ⟨b, off + (0 + i) * 4 + m, none⟩ = e.cells[m]?) (hw : Chg NoS w W) (hp : p + m ≤ es.length) :
    Src W 4 (some ⟨b, off + p * 4, none⟩) m cx (vcells ((es.drop p).take m)) := by
  have hlen : ((es.drop p).take m).length = m := by rw [List.length_take, List.length_drop]; omega
  refine ⟨by rw [vcells_len, hlen], fun e => (by cases e), fun ad ha j u hj => ?_⟩
  cases ha
  have hj4 : j < m * 4 := by
    have := (List.getElem?_eq_some_iff.1 hj).1
    rw [vcells_len, hlen] at this
    exact this
  have hi : j / 4 < m := by omega
  have he : ((es.drop p).take m)[j / 4]? = es[p + j / 4]? := by rw [List.getElem?_take_of_lt hi, List.getElem?_drop]
  have hes : es[p + j / 4]? = some (es[p + j / 4]'(by omega)) := List.getElem?_eq_getElem (by omega)
  have h1 := vcells_at (he.trans hes) (show j % 4 < 4 from Nat.mod_lt _ (by decide))
  rw [show j / 4 * 4 + j % 4 = j from by omega, hj] at h1
  have h2 := hc _ _ hes (j % 4) (Nat.mod_lt _ (by decide))
  rw [← h1] at h2
  have hadd : (⟨b, off + p * 4, none⟩ : Addr).add j = ⟨b, off + (0 + (p + j / 4)) * 4 + j % 4, none⟩ := by
    unfold Addr.add
    split
    · next h => subst h; simp
    · simp; omega
  rw [hadd]
  exact (hw.cell (p := ⟨b, _, none⟩) (cell_lt h2) (fun h => h)).trans h2
/-- A value without a name. -/
noncomputable def dropT : VT → ByteArray → VT
  | .mk k n s l, key => if findI k l key < 0 then .mk k n s l else .mk k n s (l.take (findI k l key).toNat ++ l.drop ((findI k l key).toNat + 2))
theorem drop_no {k n : Int} {s : ByteArray} {l : List VT} {key : ByteArray} (h : findI k l key < 0) : dropT (.mk k n s l) key = .mk k n s l := by rw [dropT, if_pos h]
theorem drop_at {k n : Int} {s : ByteArray} {l : List VT} {key : ByteArray} {q : Nat} (h : findI k l key = (q : Int)) : dropT (.mk k n s l) key = .mk k n s (l.take q ++ l.drop (q + 2)) := by
  rw [dropT, if_neg (by omega), h, Int.toNat_natCast]
/-- A tree that is told. -/
def TreeTo (w : World) (t : VT) (e : Ending) (w' : World) : Prop := ∃ c' : VC, e = .returned c'.val ∧ ValIs w' t c' ∧ Chg NoS w w'

set_option maxHeartbeats 4000000 in
set_option maxRecDepth 100000 in
theorem rdrop_any (c : VC) (l : List VT) (key : ByteArray) (w : World) (hv : ValIs w (.mk c.k c.n c.s l) c) (hsz : sizL l ≤ 1000000000) :
    Calls Try.prog 24 #[c.val, .string key] w (TreeTo w (dropT (.mk c.k c.n c.s l) key)) := by
  obtain ⟨_, _, _, hg, hl, hr⟩ := hv.inv
  have HF := keepf (fun W (h : ValIs W (.mk c.k c.n c.s l) c) => rfind_any c l key W h hsz)
  have HV := keepf hv
  have HGD := keepf hg
  obtain ⟨k, n, s, A, len, cap⟩ := c
  simp only [] at hl hr
  have hcap := hg.cap
  simp only [] at hcap
  have hl9 : len ≤ 1000000000 := by have := sizL_len l; omega
  have HL := keepf hl
  have HR := keepf hr
  unfold VC.val at HF
  simp only [] at HF HV ⊢
  obtain ⟨z, hz⟩ : ∃ z, findI k l key = z := ⟨_, rfl⟩
  rw [hz] at HF
  show Calls Try.prog 24 #[.agg #[.int .i64 k, .int .i64 n, .string s, .slice A len cap], .string key] w _
  have HB := keepf (⟨(Blk.new w 24 #[.int .i64 k, .int .i64 n, .string s, .slice A len cap]).alloc (.cells #[.int .i64 0, .int .i64 0, .string ⟨#[]⟩, .slice none 0 0] 24), Nat.le_refl _⟩ : PB w _ w.heap.size _)
  have HO := keepf (⟨Blk.new (w.alloc (.cells #[.int .i64 k, .int .i64 n, .string s, .slice A len cap] 24)) 24 #[.int .i64 0, .int .i64 0, .string ⟨#[]⟩, .slice none 0 0], by simp⟩ : PB w _ _ _)
  have hs1 : (w.alloc (.cells #[.int .i64 k, .int .i64 n, .string s, .slice A len cap] 24)).heap.size = w.heap.size + 1 := by simp
  rw [hs1] at HO
  have HC0 := keepf (((Chg.refl NoS w).alloc (.cells #[.int .i64 k, .int .i64 n, .string s, .slice A len cap] 24)).alloc (.cells #[.int .i64 0, .int .i64 0, .string ⟨#[]⟩, .slice none 0 0] 24))
  have HG := keepf (fun (h : z < 0) => drop_no (k := k) (n := n) (s := s) (l := l) (key := key) (by rw [hz]; exact h))
  have HGA := keepf (fun (h : ¬ z < 0) => get_at (k := k) (l := l) (key := key) (by rw [hz]; exact h))
  have HDA := keepf (fun (q : Nat) (h : z = (q : Int)) => drop_at (k := k) (n := n) (s := s) (l := l) (key := key) (q := q) (by rw [hz]; exact h))
  rw [hz] at HGA
  go_enter Try.func24, Try.ntmps24
  go_upto_region 1 with fail
  obtain ⟨W0, hW⟩ : ∃ W, W = ((w.alloc (.cells #[.int .i64 k, .int .i64 n, .string s, .slice A len cap] 24)).alloc (.cells #[.int .i64 0, .int .i64 0, .string ⟨#[]⟩, .slice none 0 0] 24)) := ⟨_, rfl⟩
  rw [← hW] at HB HO HC0 ⊢
  obtain ⟨g2, hg2⟩ : ∃ g, g = w.heap.size + 1 := ⟨_, rfl⟩
  rw [← hg2] at HO ⊢
  obtain ⟨g, hg1⟩ : ∃ g, g = w.heap.size := ⟨_, rfl⟩
  rw [← hg1] at HB ⊢
  have HNE : Hid (g ≠ g2) := by show _ ≠ _; omega
  clear hW hs1 hg1 hg2 hz hv hg hl hr hsz
  have p0 := HB.out.blk.cell 0
  have p1 := HB.out.blk.cell 1
  have p2 := HB.out.blk.cell 2
  have p3 := HB.out.blk.cell 3
  simp at p0 p1 p2 p3
  go_upto_region 2 with (go_at_call 42; refine (HF.out _ (HV.out.chg HC0.out)).mono ?_; rintro e w2 ⟨rfl, hc2⟩; have HB2 := keepf (HB.out.call hc2); have HO2 := keepf (HO.out.call hc2); have HC2 := keepf (HC0.out.trans hc2 (fun _ _ e => e)); clear hc2)
  clear p0 p1 p2 p3
  have p0 := HB2.out.blk.cell 0
  have p1 := HB2.out.blk.cell 1
  have p2 := HB2.out.blk.cell 2
  have p3 := HB2.out.blk.cell 3
  simp at p0 p1 p2 p3
  by_cases hz0 : z < 0
  · have HE := keepf (HG.out hz0)
    have d1 : decide (z < 0) = true := by simpa using hz0
    clear hz0
    have z0 := HO2.out.blk.frozen 0
    have z1 := HO2.out.blk.frozen 1
    have z2 := HO2.out.blk.frozen 2
    have z3 := HO2.out.blk.frozen 3
    have y0 := HO2.out.blk.cell 0
    have y1 := HO2.out.blk.cell 1
    have y2 := HO2.out.blk.cell 2
    have y3 := HO2.out.blk.cell 3
    simp at y0 y1 y2 y3
    go_wp2_with fail
    try simp only [Exit.noGoto_ret]
    clear y0 y1 y2 y3
    obtain ⟨hb, hcc⟩ := HO2.out.set4 (a := .int .i64 k) (b := .int .i64 n) (c := .string s) (d := .slice A len cap) HC2.out rfl
    have r0 := hb.blk.cell 0
    have r1 := hb.blk.cell 1
    have r2 := hb.blk.cell 2
    have r3 := hb.blk.cell 3
    simp at r0 r1 r2 r3
    refine bodyPost_ret (v := .agg #[.int .i64 k, .int .i64 n, .string s, .slice A len cap]) (by simp [results, Try.results24, go_sem, r0, r1, r2, r3]) rfl ?_
    exact ⟨⟨k, n, s, A, len, cap⟩, rfl, by rw [HE.out]; exact HV.out.chg hcc, hcc⟩
  · obtain ⟨j, rfl, hj, he⟩ := HGA.out (by omega)
    obtain ⟨q, hq⟩ : ∃ q, q = 2 * j := ⟨_, rfl⟩
    rw [← hq] at hj he hz0 ⊢
    have hq9 : q < len := by rw [← HL.out]; exact hj
    have HE := keepf (HDA.out q (by rw [hq]))
    have d1 : decide ((q : Int) < 0) = false := by simp
    clear hz0 hq HG HGA HDA he hj
    obtain ⟨b, off, rfl⟩ : ∃ b off, A = some ⟨b, off, none⟩ := by
      have h := HR.out
      have h2 := HL.out
      cases hll : l with
      | nil => rw [hll] at h2; simp at h2; omega
      | cons t0 l0 => rw [hll] at h; exact h.start
    obtain ⟨es, hes, hec, hei⟩ := HR.out.list
    have HS0 : Hid (∀ W cx, Chg NoS w W → Src W 4 (some ⟨b, off, none⟩) q cx (vcells (es.take q))) := fun W cx hc => by
      have h := src_piece (p := 0) (m := q) (cx := cx) hec hc (by rw [hes, HL.out]; omega)
      simpa using h
    have HES := keepf hes
    have HEC := keepf hec
    have HEI := keepf hei
    have hl1 : Hid ((es.take q).length = q) := by show _ = _; rw [List.length_take, hes, HL.out]; omega
    have hl2 : Hid ((l.take q).length = q) := by show _ = _; rw [List.length_take, HL.out]; omega
    have hi1 : Hid (∀ (j : Nat) (t : VT) (e : VC), (l.take q)[j]? = some t → (es.take q)[j]? = some e → ValIs w t e) := fun j t e h1 h2 => by
      rw [List.getElem?_take] at h1 h2
      split at h1
      · next h => rw [if_pos h] at h2; exact hei j t e h1 h2
      · cases h1
    have hgl : g < w2.heap.size := HB2.out.blk.lt
    have hgl2 : g2 < w2.heap.size := HO2.out.blk.lt
    have i1 : (q : Int) ≤ cap := by omega
    have i2 : q ≤ cap := by omega
    clear hes hec hei
    have HNG : Hid ((Value.slice (some ⟨w2.heap.size, 0, none⟩) 0 0).ownBlock ≠ some g) := fun e => Nat.ne_of_gt hgl (Option.some.inj e)
    have HNG2 : Hid ((Value.slice (some ⟨w2.heap.size, 0, none⟩) 0 0).ownBlock ≠ some g2) := fun e => Nat.ne_of_gt hgl2 (Option.some.inj e)
    go_upto_region 5 with (at_builtin; refine appV (w := w) (es := []) (ts := []) (new := es.take q) (tn := l.take q) rfl (.tmp 13) (.tmp 17) rfl rfl rfl (GV.start0 HC2.out) (Chg.refl _ _) (by omega) (by omega) (HS0.out _ _ (HC2.out.alloc _)) hl1.out hl2.out hi1.out ?_; intro A3 c3 w3 hg3 hk3; have HG3 := keepf hg3; have HB3 := keepf ((HB2.out.alloc _).kept hk3 HNG.out); have HO3 := keepf ((HO2.out.alloc _).kept hk3 HNG2.out); clear hg3 hk3)
    have HG4 := keepf (show GV w w3 (es.take q) (l.take q) q A3 c3 from by simpa using HG3.out)
    have HB4 := keepf HB3.out.1
    have HO4 := keepf HO3.out.1
    have HN4 := keepf (show (Value.slice A3 q c3).ownBlock ≠ some g from by have h := HB3.out.2; rwa [Nat.zero_add] at h)
    have HN42 := keepf (show (Value.slice A3 q c3).ownBlock ≠ some g2 from by have h := HO3.out.2; rwa [Nat.zero_add] at h)
    clear p0 p1 p2 p3 hgl hgl2 HG3 HB3 HO3 HNG HNG2 hl1 hl2 hi1 HS0 HB2 HO2
    have p3 := HB4.out.blk.cell 3
    simp at p3
    obtain ⟨u, hu⟩ : ∃ u, u = q + 2 := ⟨_, rfl⟩
    rw [← hu] at HE
    have e1 : (q : Int) + 2 = (u : Int) := by omega
    have k1 : IntKind.i64.wrap (u : Int) = (u : Int) := by rw [IntKind.wrap_i64]; omega
    clear hu
    by_cases hul : u < len
    · have d2 : decide ((u : Int) < len) = true := by simp; omega
      have d2' : decide (u < len) = true := by simp; omega
      have hi1 : Hid (∀ (j : Nat) (t : VT) (e : VC), (l.drop u)[j]? = some t → (es.drop u)[j]? = some e → ValIs w t e) := fun j t e h1 h2 => by
        rw [List.getElem?_drop] at h1 h2
        exact HEI.out _ t e h1 h2
      have hl1 : Hid ((es.drop u).length = len - u) := by show _ = _; rw [List.length_drop, HES.out, HL.out]
      have hl2 : Hid ((l.drop u).length = len - u) := by show _ = _; rw [List.length_drop, HL.out]
      have HS0 : Hid (∀ W cx, Chg NoS w W → Src W 4 (some ⟨b, off + u * 4, none⟩) (len - u) cx (vcells (es.drop u))) := fun W cx hc => by
        have h := src_piece (p := u) (m := len - u) (cx := cx) HEC.out hc (by rw [HES.out, HL.out]; omega)
        rw [List.take_of_length_le (by rw [hl1.out]; exact Nat.le_refl _)] at h
        exact h
      have i3 : (u : Int) ≤ len := by omega
      have i4 : (u : Int) ≤ cap := by omega
      have i5 : u ≤ cap := by omega
      have i6 : u ≤ len := by omega
      have i7 : ¬ cap = u := by omega
      go_upto_region 7 with (at_builtin; refine appV (w := w) (es := es.take q) (ts := l.take q) (new := es.drop u) (tn := l.drop u) rfl (.tmp 25) (.tmp 30) rfl rfl rfl HG4.out (Chg.refl _ _) (by omega) (by omega) (HS0.out _ _ HG4.out.chg) hl1.out hl2.out hi1.out ?_; intro A5 c5 w5 hg5 hk5; have HG5 := keepf hg5; have HB6 := keepf (HB4.out.kept hk5 HN4.out); have HO6 := keepf (HO4.out.kept hk5 HN42.out); clear hg5 hk5)
      have HB5 := keepf HB6.out.1
      have HO5 := keepf HO6.out.1
      have HN5 := keepf HB6.out.2
      have HN52 := keepf HO6.out.2
      clear p3 HB6 HO6 HB4 HO4 HG4 HN4 HN42 hl1 hl2 hi1 HS0
      have gz3 := HB5.out.blk.frozen 3
      have q0 := HB5.out.blk.cell 0
      have q1 := HB5.out.blk.cell 1
      have q2 := HB5.out.blk.cell 2
      have q3 := HB5.out.blk.cell 3
      simp at q0 q1 q2 q3
      go_upto_region 8 with fail
      clear q0 q1 q2 q3 gz3
      have HB9 : Hid (PB w (w5.setCell ⟨g, 3, none⟩ (.slice A5 (q + (len - u)) c5)) g #[.int .i64 k, .int .i64 n, .string s, .slice A5 (q + (len - u)) c5]) := HB5.out.set 3 _
      have HO9 := keepf (HO5.out.far (Ne.symm HNE.out) 3 (.slice A5 (q + (len - u)) c5))
      have HG9 := keepf (HG5.out.far HN5.out HB5.out.new 3 (.slice A5 (q + (len - u)) c5))
      have HC9 := keepf HG9.out.chg
      obtain ⟨w9, hw9⟩ : ∃ W, W = w5.setCell ⟨g, 3, none⟩ (.slice A5 (q + (len - u)) c5) := ⟨_, rfl⟩
      rw [← hw9] at HB9 HO9 HG9 HC9 ⊢
      clear hw9
      have q0 := HB9.out.blk.cell 0
      have q1 := HB9.out.blk.cell 1
      have q2 := HB9.out.blk.cell 2
      have q3 := HB9.out.blk.cell 3
      have z0 := HO9.out.blk.frozen 0
      have z1 := HO9.out.blk.frozen 1
      have z2 := HO9.out.blk.frozen 2
      have z3 := HO9.out.blk.frozen 3
      have y0 := HO9.out.blk.cell 0
      have y1 := HO9.out.blk.cell 1
      have y2 := HO9.out.blk.cell 2
      have y3 := HO9.out.blk.cell 3
      simp at q0 q1 q2 q3 y0 y1 y2 y3
      go_wp2_with fail
      try simp only [Exit.noGoto_ret]
      clear y0 y1 y2 y3
      obtain ⟨hb, hcc⟩ := HO9.out.set4 (a := .int .i64 k) (b := .int .i64 n) (c := .string s) (d := .slice A5 (q + (len - u)) c5) HC9.out rfl
      have hgv := (((HG9.out.far HN52.out HO9.out.new 0 (.int .i64 k)).far HN52.out HO9.out.new 1 (.int .i64 n)).far HN52.out HO9.out.new 2 (.string s)).far HN52.out HO9.out.new 3 (.slice A5 (q + (len - u)) c5)
      have r0 := hb.blk.cell 0
      have r1 := hb.blk.cell 1
      have r2 := hb.blk.cell 2
      have r3 := hb.blk.cell 3
      simp at r0 r1 r2 r3
      refine bodyPost_ret (v := .agg #[.int .i64 k, .int .i64 n, .string s, .slice A5 (q + (len - u)) c5]) (by simp [results, Try.results24, go_sem, r0, r1, r2, r3]) rfl ?_
      exact ⟨⟨k, n, s, A5, q + (len - u), c5⟩, rfl, by rw [HE.out]; exact hgv.val (by unfold maxLen; omega) k n s HGD.out.k HGD.out.n HGD.out.s, hcc⟩
    · have d2 : decide ((u : Int) < len) = false := by simp; omega
      have d2' : decide (u < len) = false := by simp; omega
      have HEE : Hid (dropT (.mk k n s l) key = .mk k n s (l.take q)) := by
        show _ = _
        rw [HE.out, List.drop_of_length_le (l := l) (by rw [HL.out]; omega), List.append_nil]
      go_upto_region 7 with fail
      have gz3 := HB4.out.blk.frozen 3
      have q0 := HB4.out.blk.cell 0
      have q1 := HB4.out.blk.cell 1
      have q2 := HB4.out.blk.cell 2
      have q3 := HB4.out.blk.cell 3
      simp at q0 q1 q2 q3
      go_upto_region 8 with fail
      clear q0 q1 q2 q3 gz3
      have HB9 : Hid (PB w (w3.setCell ⟨g, 3, none⟩ (.slice A3 q c3)) g #[.int .i64 k, .int .i64 n, .string s, .slice A3 q c3]) := HB4.out.set 3 _
      have HO9 := keepf (HO4.out.far (Ne.symm HNE.out) 3 (.slice A3 q c3))
      have HG9 := keepf (HG4.out.far HN4.out HB4.out.new 3 (.slice A3 q c3))
      have HC9 := keepf HG9.out.chg
      obtain ⟨w9, hw9⟩ : ∃ W, W = w3.setCell ⟨g, 3, none⟩ (.slice A3 q c3) := ⟨_, rfl⟩
      rw [← hw9] at HB9 HO9 HG9 HC9 ⊢
      clear hw9
      have q0 := HB9.out.blk.cell 0
      have q1 := HB9.out.blk.cell 1
      have q2 := HB9.out.blk.cell 2
      have q3 := HB9.out.blk.cell 3
      have z0 := HO9.out.blk.frozen 0
      have z1 := HO9.out.blk.frozen 1
      have z2 := HO9.out.blk.frozen 2
      have z3 := HO9.out.blk.frozen 3
      have y0 := HO9.out.blk.cell 0
      have y1 := HO9.out.blk.cell 1
      have y2 := HO9.out.blk.cell 2
      have y3 := HO9.out.blk.cell 3
      simp at q0 q1 q2 q3 y0 y1 y2 y3
      go_wp2_with fail
      try simp only [Exit.noGoto_ret]
      clear y0 y1 y2 y3
      obtain ⟨hb, hcc⟩ := HO9.out.set4 (a := .int .i64 k) (b := .int .i64 n) (c := .string s) (d := .slice A3 q c3) HC9.out rfl
      have hgv := (((HG9.out.far HN42.out HO9.out.new 0 (.int .i64 k)).far HN42.out HO9.out.new 1 (.int .i64 n)).far HN42.out HO9.out.new 2 (.string s)).far HN42.out HO9.out.new 3 (.slice A3 q c3)
      have r0 := hb.blk.cell 0
      have r1 := hb.blk.cell 1
      have r2 := hb.blk.cell 2
      have r3 := hb.blk.cell 3
      simp at r0 r1 r2 r3
      refine bodyPost_ret (v := .agg #[.int .i64 k, .int .i64 n, .string s, .slice A3 q c3]) (by simp [results, Try.results24, go_sem, r0, r1, r2, r3]) rfl ?_
      exact ⟨⟨k, n, s, A3, q, c3⟩, rfl, by rw [HEE.out]; exact hgv.val (by unfold maxLen; omega) k n s HGD.out.k HGD.out.n HGD.out.s, hcc⟩
end Go.Proofs.Ytjbjfoingpnlmaa
