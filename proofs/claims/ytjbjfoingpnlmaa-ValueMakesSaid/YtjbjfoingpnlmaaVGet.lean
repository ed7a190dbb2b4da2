/- The program's Get. -/
import Derived.Test.YtjbjfoingpnlmaaVFnd
import Derived.Test.YtjbjfoingpnlmaaRVt6
namespace Go.Proofs.Ytjbjfoingpnlmaa
open Go.RowKit
set_option linter.unusedVariables false
set_option linter.unusedSimpArgs false

theorem get_none {k : Int} {l : List VT} {key : ByteArray} (h : k ≠ 7 ∨ k = 7 ∧ findL key l = none) : getT k l key = (nilT, false) := by
  unfold getT
  rcases h with h | ⟨h, h2⟩
  · rw [if_neg h]
  · rw [if_pos h, h2]
theorem get_some {l : List VT} {key : ByteArray} {j : Nat} (h : findL key l = some j) : getT 7 l key = ((l[2 * j + 1]?).getD nilT, true) := by
  unfold getT
  rw [if_pos rfl, h]

set_option maxHeartbeats 4000000 in
set_option maxRecDepth 100000 in
theorem get_any (c : VC) (l : List VT) (key : ByteArray) (w : World) (hv : ValIs w (.mk c.k c.n c.s l) c) (hsz : sizL l ≤ 1000000000) :
    Calls Try.prog 19 #[c.val, .string key] w (GetTo w (getT c.k l key)) := by
  obtain ⟨_, _, _, hg, hl, hr⟩ := hv.inv
  have HF := keepf (fun W (h : ValIs W (.mk c.k c.n c.s l) c) => place_any c l key W h hsz)
  have HV := keepf hv
  obtain ⟨k, n, s, A, len, cap⟩ := c
  simp only [] at hl hr
  have hcap := hg.cap
  simp only [] at hcap
  have hl9 : len ≤ 1000000000 := by have := sizL_len l; omega
  have HL := keepf hl
  have HR := keepf hr
  unfold VC.val at HF
  simp only [] at HF HV ⊢
  show Calls Try.prog 19 #[.agg #[.int .i64 k, .int .i64 n, .string s, .slice A len cap], .string key] w _
  have HB := keepf (⟨(Blk.new w 24 #[.int .i64 k, .int .i64 n, .string s, .slice A len cap]).alloc (.cells #[.int .i64 0, .int .i64 0, .string ⟨#[]⟩, .slice none 0 0] 24), Nat.le_refl _⟩ : PB w _ w.heap.size _)
  have HO := keepf (⟨Blk.new (w.alloc (.cells #[.int .i64 k, .int .i64 n, .string s, .slice A len cap] 24)) 24 #[.int .i64 0, .int .i64 0, .string ⟨#[]⟩, .slice none 0 0], by simp⟩ : PB w _ _ _)
  have hs1 : (w.alloc (.cells #[.int .i64 k, .int .i64 n, .string s, .slice A len cap] 24)).heap.size = w.heap.size + 1 := by simp
  rw [hs1] at HO
  have HC0 := keepf (((Chg.refl NoS w).alloc (.cells #[.int .i64 k, .int .i64 n, .string s, .slice A len cap] 24)).alloc (.cells #[.int .i64 0, .int .i64 0, .string ⟨#[]⟩, .slice none 0 0] 24))
  have HZ := keepf hs1
  clear hs1 hv hg hl hr hsz
  go_enter Try.func19, Try.ntmps19
  go_upto_region 2 with (go_at_call 41; refine (HF.out _ (HV.out.chg HC0.out)).mono ?_; rintro e w2 ⟨q, b, rfl, hc2, hq2⟩; have HB2 := keepf (HB.out.call hc2); have HO2 := keepf (HO.out.call hc2); have HC2 := keepf (HC0.out.trans hc2 (fun _ _ e => e)); have HQ := keepf hq2; clear hc2 hq2)
  obtain ⟨g2, hg2⟩ : ∃ g, g = w.heap.size + 1 := ⟨_, rfl⟩
  rw [← hg2] at HO2 ⊢
  obtain ⟨g, hg1⟩ : ∃ g, g = w.heap.size := ⟨_, rfl⟩
  rw [← hg1] at HB2 ⊢
  clear hg1 hg2 HB HO HZ HF HC0
  have p3 := HB2.out.blk.cell 3
  simp at p3
  rcases HQ.out with ⟨rfl, hq⟩ | ⟨rfl, rfl, j, hj, rfl, hlt⟩
  · have HE := keepf (get_none hq)
    clear hq
    have z0 := HO2.out.blk.frozen 0
    have z1 := HO2.out.blk.frozen 1
    have z2 := HO2.out.blk.frozen 2
    have z3 := HO2.out.blk.frozen 3
    have y0 := HO2.out.blk.cell 0
    have y1 := HO2.out.blk.cell 1
    have y2 := HO2.out.blk.cell 2
    have y3 := HO2.out.blk.cell 3
    simp at y0 y1 y2 y3
    go_wp2_with fail
    try simp only [Exit.noGoto_ret]
    clear y0 y1 y2 y3
    obtain ⟨hb, hcc⟩ := HO2.out.set4 (a := .int .i64 0) (b := .int .i64 0) (c := .string ⟨#[]⟩) (d := .slice none 0 0) HC2.out rfl
    have r0 := hb.blk.cell 0
    have r1 := hb.blk.cell 1
    have r2 := hb.blk.cell 2
    have r3 := hb.blk.cell 3
    simp at r0 r1 r2 r3
    refine bodyPost_ret (v := .tuple #[.agg #[.int .i64 0, .int .i64 0, .string ⟨#[]⟩, .slice none 0 0], .bool false]) (by simp [results, Try.results19, go_sem, r0, r1, r2, r3]) rfl ?_
    exact GetTo.of HE.out ⟨0, 0, ⟨#[]⟩, none, 0, 0⟩ (nil_is _) hcc

  · have hg := get_some hj
    have hl3 : 2 * j < len := by rw [← HL.out]; exact hlt
    obtain ⟨q, hq⟩ : ∃ q, q = 2 * j := ⟨_, rfl⟩
    rw [← hq] at hg hl3 ⊢
    clear hq HQ hlt hj
    by_cases hlast : q + 1 = len
    · have HE : Hid (getT 7 l key = (nilT, true)) := by
        show _ = _
        rw [hg, List.getElem?_eq_none (by rw [HL.out]; omega)]
        rfl
      have k1 : IntKind.i64.wrap ((q : Int) + 1) = (len : Int) := by rw [IntKind.wrap_i64]; omega
      have f1 : ((q : Int) + 1 == (len : Int)) = true := by simp; omega
      have f2 : (q + 1 == len) = true := by simp; omega
      clear hg
      have z0 := HO2.out.blk.frozen 0
      have z1 := HO2.out.blk.frozen 1
      have z2 := HO2.out.blk.frozen 2
      have z3 := HO2.out.blk.frozen 3
      have y0 := HO2.out.blk.cell 0
      have y1 := HO2.out.blk.cell 1
      have y2 := HO2.out.blk.cell 2
      have y3 := HO2.out.blk.cell 3
      simp at y0 y1 y2 y3
      go_wp2_with fail
      try simp only [Exit.noGoto_ret]
      clear y0 y1 y2 y3
      obtain ⟨hb, hcc⟩ := HO2.out.set4 (a := .int .i64 0) (b := .int .i64 0) (c := .string ⟨#[]⟩) (d := .slice none 0 0) HC2.out rfl
      have r0 := hb.blk.cell 0
      have r1 := hb.blk.cell 1
      have r2 := hb.blk.cell 2
      have r3 := hb.blk.cell 3
      simp at r0 r1 r2 r3
      refine bodyPost_ret (v := .tuple #[.agg #[.int .i64 0, .int .i64 0, .string ⟨#[]⟩, .slice none 0 0], .bool true]) (by simp [results, Try.results19, go_sem, r0, r1, r2, r3]) rfl ?_
      exact GetTo.of HE.out ⟨0, 0, ⟨#[]⟩, none, 0, 0⟩ (nil_is _) hcc

    · obtain ⟨u, hu⟩ : ∃ u, u = q + 1 := ⟨_, rfl⟩
      have hul : u < len := by omega
      have e1 : (q : Int) + 1 = (u : Int) := by omega
      have k1 : IntKind.i64.wrap (u : Int) = (u : Int) := by rw [IntKind.wrap_i64]; omega
      have f1 : ((u : Int) == (len : Int)) = false := by simp; omega
      have f2 : (u == len) = false := by simp; omega
      obtain ⟨x, hx, _⟩ := drop_vt (l := l) (k := u) (by rw [HL.out]; exact hul)
      have HE : Hid (getT 7 l key = (x, true)) := by
        show _ = _
        rw [hg, ← hu, hx]
        rfl
      obtain ⟨b, off, rfl⟩ : ∃ b off, A = some ⟨b, off, none⟩ := by
        have h := HR.out
        cases hll : l with
        | nil => rw [hll] at hx; simp at hx
        | cons t0 l0 => rw [hll] at h; exact h.start
      obtain ⟨eA, el, ec, c0, c1, c2, c3, hvx⟩ := HR.out.nth HC2.out hx
      have i1 : (u : Int) < len := by omega
      have HXN : Hid (∀ w', Chg NoS w w' → ValIs w' x ⟨x.kind, x.num, x.str, eA, el, ec⟩) := fun w' hc' => by
        obtain ⟨eA', el', ec', d0, d1, d2, d3, hv0⟩ := HR.out.nth (Chg.refl NoS w) hx
        have h3 := (HC2.out.cell (p := ⟨b, off + u * 4 + 3, none⟩) (cell_lt d3) (fun h => h)).trans d3
        rw [c3] at h3
        cases h3
        exact hv0.chg hc'
      obtain ⟨xk, hxk⟩ : ∃ y, x.kind = y := ⟨_, rfl⟩
      obtain ⟨xn, hxn⟩ : ∃ y, x.num = y := ⟨_, rfl⟩
      obtain ⟨xs, hxs⟩ : ∃ y, x.str = y := ⟨_, rfl⟩
      rw [hxk] at c0 HXN
      rw [hxn] at c1 HXN
      rw [hxs] at c2 HXN
      clear hx hg hlast hu hvx hxk hxn hxs hl3
      have z0 := HO2.out.blk.frozen 0
      have z1 := HO2.out.blk.frozen 1
      have z2 := HO2.out.blk.frozen 2
      have z3 := HO2.out.blk.frozen 3
      have y0 := HO2.out.blk.cell 0
      have y1 := HO2.out.blk.cell 1
      have y2 := HO2.out.blk.cell 2
      have y3 := HO2.out.blk.cell 3
      simp at y0 y1 y2 y3
      go_wp2_with fail
      try simp only [Exit.noGoto_ret]
      clear y0 y1 y2 y3
      obtain ⟨hb, hcc⟩ := HO2.out.set4 (a := .int .i64 xk) (b := .int .i64 xn) (c := .string xs) (d := .slice eA el ec) HC2.out rfl
      have r0 := hb.blk.cell 0
      have r1 := hb.blk.cell 1
      have r2 := hb.blk.cell 2
      have r3 := hb.blk.cell 3
      simp at r0 r1 r2 r3
      refine bodyPost_ret (v := .tuple #[.agg #[.int .i64 xk, .int .i64 xn, .string xs, .slice eA el ec], .bool true]) (by simp [results, Try.results19, go_sem, r0, r1, r2, r3]) rfl ?_
      exact GetTo.of HE.out ⟨xk, xn, xs, eA, el, ec⟩ (HXN.out _ hcc) hcc

end Go.Proofs.Ytjbjfoingpnlmaa
