/- The document's own Get. -/
import Derived.Test.YtjbjfoingpnlmaaRVt5
import Derived.Test.YtjbjfoingpnlmaaPB
namespace Go.Proofs.Ytjbjfoingpnlmaa
open Go.RowKit
set_option linter.unusedVariables false
set_option linter.unusedSimpArgs false

/-- Nothing. -/
def nilT : VT := .mk 0 0 ⟨#[]⟩ []
theorem nil_is (w : World) : ValIs w nilT ⟨0, 0, ⟨#[]⟩, none, 0, 0⟩ := .mk ⟨0, 0, ⟨#[]⟩, none, 0, 0⟩ [] ⟨by decide, by decide, by decide, fun _ => ⟨rfl, rfl⟩, Nat.le_refl _, Nat.zero_le _⟩ rfl (.nil _ _)
/-- What a value has of a name, and whether it has it. -/
noncomputable def getT (k : Int) (l : List VT) (key : ByteArray) : VT × Bool := if k = 7 then (match findL key l with | some j => ((l[2 * j + 1]?).getD nilT, true) | none => (nilT, false)) else (nilT, false)
theorem get_no {k : Int} {l : List VT} {key : ByteArray} (h : findI k l key < 0) : getT k l key = (nilT, false) := by
  unfold findI at h
  unfold getT
  by_cases h7 : k = 7
  · rw [if_pos h7] at h ⊢
    cases hf : findL key l with
    | none => rfl
    | some j => rw [hf] at h; simp only [] at h; omega
  · rw [if_neg h7]
theorem get_at {k : Int} {l : List VT} {key : ByteArray} (h : ¬ findI k l key < 0) : ∃ j : Nat, findI k l key = ((2 * j : Nat) : Int) ∧ 2 * j < l.length ∧ getT k l key = ((l[2 * j + 1]?).getD nilT, true) := by
  unfold findI at h ⊢
  unfold getT
  by_cases h7 : k = 7
  · rw [if_pos h7] at h ⊢
    rw [if_pos h7]
    cases hf : findL key l with
    | none => rw [hf] at h; simp at h
    | some j => exact ⟨j, rfl, findL_lt key _ l (Nat.le_refl _) j hf, rfl⟩
  · rw [if_neg h7] at h
    exact absurd (by decide) h

/-- A tree that is told, and whether it is one. -/
def GetTo (w : World) (t : VT × Bool) (e : Ending) (w' : World) : Prop := ∃ c' : VC, e = .returned (.tuple #[c'.val, .bool t.2]) ∧ ValIs w' t.1 c' ∧ Chg NoS w w'
theorem GetTo.of {w w' : World} {t : VT × Bool} {u : VT} {b : Bool} (h : t = (u, b)) (c : VC) (hv : ValIs w' u c) (hc : Chg NoS w w') : GetTo w t (.returned (.tuple #[c.val, .bool b])) w' := by
  subst h
  exact ⟨c, rfl, hv, hc⟩

set_option maxHeartbeats 4000000 in
set_option maxRecDepth 100000 in
theorem rget_any (c : VC) (l : List VT) (key : ByteArray) (w : World) (hv : ValIs w (.mk c.k c.n c.s l) c) (hsz : sizL l ≤ 1000000000) :
    Calls Try.prog 20 #[c.val, .string key] w (GetTo w (getT c.k l key)) := by
  obtain ⟨_, _, _, hg, hl, hr⟩ := hv.inv
  have HF := keepf (fun W (h : ValIs W (.mk c.k c.n c.s l) c) => rfind_any c l key W h hsz)
  have HV := keepf hv
  obtain ⟨k, n, s, A, len, cap⟩ := c
  simp only [] at hl hr
  have hcap := hg.cap
  simp only [] at hcap
  have hl9 : len ≤ 1000000000 := by have := sizL_len l; omega
  have HL := keepf hl
  have HR := keepf hr
  unfold VC.val at HF
  simp only [] at HF HV ⊢
  obtain ⟨z, hz⟩ : ∃ z, findI k l key = z := ⟨_, rfl⟩
  rw [hz] at HF
  show Calls Try.prog 20 #[.agg #[.int .i64 k, .int .i64 n, .string s, .slice A len cap], .string key] w _
  have HB := keepf (⟨(Blk.new w 24 #[.int .i64 k, .int .i64 n, .string s, .slice A len cap]).alloc (.cells #[.int .i64 0, .int .i64 0, .string ⟨#[]⟩, .slice none 0 0] 24), Nat.le_refl _⟩ : PB w _ w.heap.size _)
  have HO := keepf (⟨Blk.new (w.alloc (.cells #[.int .i64 k, .int .i64 n, .string s, .slice A len cap] 24)) 24 #[.int .i64 0, .int .i64 0, .string ⟨#[]⟩, .slice none 0 0], by simp⟩ : PB w _ _ _)
  have hs1 : (w.alloc (.cells #[.int .i64 k, .int .i64 n, .string s, .slice A len cap] 24)).heap.size = w.heap.size + 1 := by simp
  rw [hs1] at HO
  have HC0 := keepf (((Chg.refl NoS w).alloc (.cells #[.int .i64 k, .int .i64 n, .string s, .slice A len cap] 24)).alloc (.cells #[.int .i64 0, .int .i64 0, .string ⟨#[]⟩, .slice none 0 0] 24))
  have HG := keepf (fun (h : z < 0) => get_no (k := k) (l := l) (key := key) (by rw [hz]; exact h))
  have HGA := keepf (fun (h : ¬ z < 0) => get_at (k := k) (l := l) (key := key) (by rw [hz]; exact h))
  rw [hz] at HGA
  go_enter Try.func20, Try.ntmps20
  go_upto_region 1 with fail
  obtain ⟨W0, hW⟩ : ∃ W, W = ((w.alloc (.cells #[.int .i64 k, .int .i64 n, .string s, .slice A len cap] 24)).alloc (.cells #[.int .i64 0, .int .i64 0, .string ⟨#[]⟩, .slice none 0 0] 24)) := ⟨_, rfl⟩
  rw [← hW] at HB HO HC0 ⊢
  obtain ⟨g2, hg2⟩ : ∃ g, g = w.heap.size + 1 := ⟨_, rfl⟩
  rw [← hg2] at HO ⊢
  obtain ⟨g, hg1⟩ : ∃ g, g = w.heap.size := ⟨_, rfl⟩
  rw [← hg1] at HB ⊢
  clear hW hs1 hg1 hg2 hz hv hg hl hr hsz
  have p0 := HB.out.blk.cell 0
  have p1 := HB.out.blk.cell 1
  have p2 := HB.out.blk.cell 2
  have p3 := HB.out.blk.cell 3
  simp at p0 p1 p2 p3
  go_upto_region 2 with (go_at_call 42; refine (HF.out _ (HV.out.chg HC0.out)).mono ?_; rintro e w2 ⟨rfl, hc2⟩; have HB2 := keepf (HB.out.call hc2); have HO2 := keepf (HO.out.call hc2); have HC2 := keepf (HC0.out.trans hc2 (fun _ _ e => e)); clear hc2)
  clear p0 p1 p2 p3
  have p3 := HB2.out.blk.cell 3
  simp at p3
  by_cases hz0 : z < 0
  · have HE := keepf (HG.out hz0)
    have d1 : decide (z < 0) = true := by simpa using hz0
    clear hz0
    have z0 := HO2.out.blk.frozen 0
    have z1 := HO2.out.blk.frozen 1
    have z2 := HO2.out.blk.frozen 2
    have z3 := HO2.out.blk.frozen 3
    have y0 := HO2.out.blk.cell 0
    have y1 := HO2.out.blk.cell 1
    have y2 := HO2.out.blk.cell 2
    have y3 := HO2.out.blk.cell 3
    simp at y0 y1 y2 y3
    go_wp2_with fail
    try simp only [Exit.noGoto_ret]
    clear y0 y1 y2 y3
    obtain ⟨hb, hcc⟩ := HO2.out.set4 (a := .int .i64 0) (b := .int .i64 0) (c := .string ⟨#[]⟩) (d := .slice none 0 0) HC2.out rfl
    have r0 := hb.blk.cell 0
    have r1 := hb.blk.cell 1
    have r2 := hb.blk.cell 2
    have r3 := hb.blk.cell 3
    simp at r0 r1 r2 r3
    refine bodyPost_ret (v := .tuple #[.agg #[.int .i64 0, .int .i64 0, .string ⟨#[]⟩, .slice none 0 0], .bool false]) (by simp [results, Try.results20, go_sem, r0, r1, r2, r3]) rfl ?_
    exact GetTo.of HE.out ⟨0, 0, ⟨#[]⟩, none, 0, 0⟩ (nil_is _) hcc
  · obtain ⟨j, rfl, hj, he⟩ := HGA.out (by omega)
    obtain ⟨q, hq⟩ : ∃ q, q = 2 * j := ⟨_, rfl⟩
    rw [← hq] at hj he hz0 ⊢
    have hq9 : q < len := by rw [← HL.out]; exact hj
    have d1 : decide ((q : Int) < 0) = false := by simp
    clear hz0 hq HG HGA
    by_cases hlast : q + 1 = len
    · have HE : Hid (getT k l key = (nilT, true)) := by
        show _ = _
        rw [he, List.getElem?_eq_none (by rw [HL.out]; omega)]
        rfl
      have e1 : (len : Int) - 1 = (q : Int) := by omega
      have k1 : IntKind.i64.wrap ((len : Int) - 1) = (q : Int) := by rw [IntKind.wrap_i64]; omega
      have k2 : IntKind.i64.wrap (q : Int) = (q : Int) := by rw [IntKind.wrap_i64]; omega
      have f1 : ((q : Int) == (len : Int) - 1) = true := by rw [e1]; simp
      clear hlast he hj
      have z0 := HO2.out.blk.frozen 0
      have z1 := HO2.out.blk.frozen 1
      have z2 := HO2.out.blk.frozen 2
      have z3 := HO2.out.blk.frozen 3
      have y0 := HO2.out.blk.cell 0
      have y1 := HO2.out.blk.cell 1
      have y2 := HO2.out.blk.cell 2
      have y3 := HO2.out.blk.cell 3
      simp at y0 y1 y2 y3
      go_wp2_with fail
      try simp only [Exit.noGoto_ret]
      clear y0 y1 y2 y3
      obtain ⟨hb, hcc⟩ := HO2.out.set4 (a := .int .i64 0) (b := .int .i64 0) (c := .string ⟨#[]⟩) (d := .slice none 0 0) HC2.out rfl
      have r0 := hb.blk.cell 0
      have r1 := hb.blk.cell 1
      have r2 := hb.blk.cell 2
      have r3 := hb.blk.cell 3
      simp at r0 r1 r2 r3
      refine bodyPost_ret (v := .tuple #[.agg #[.int .i64 0, .int .i64 0, .string ⟨#[]⟩, .slice none 0 0], .bool true]) (by simp [results, Try.results20, go_sem, r0, r1, r2, r3]) rfl ?_
      exact GetTo.of HE.out ⟨0, 0, ⟨#[]⟩, none, 0, 0⟩ (nil_is _) hcc
    · obtain ⟨u, hu⟩ : ∃ u, u = q + 1 := ⟨_, rfl⟩
      have hul : u < len := by omega
      have e1 : (q : Int) + 1 = (u : Int) := by omega
      have k1 : IntKind.i64.wrap (u : Int) = (u : Int) := by rw [IntKind.wrap_i64]; omega
      have k3 : IntKind.i64.wrap ((len : Int) - 1) = (len : Int) - 1 := by rw [IntKind.wrap_i64]; omega
      have f1 : ((q : Int) == (len : Int) - 1) = false := by simp; omega
      obtain ⟨x, hx, _⟩ := drop_vt (l := l) (k := u) (by rw [HL.out]; exact hul)
      have HE : Hid (getT k l key = (x, true)) := by
        show _ = _
        rw [he, ← hu, hx]
        rfl
      obtain ⟨b, off, rfl⟩ : ∃ b off, A = some ⟨b, off, none⟩ := by
        have h := HR.out
        cases hll : l with
        | nil => rw [hll] at hx; simp at hx
        | cons t0 l0 => rw [hll] at h; exact h.start
      obtain ⟨eA, el, ec, c0, c1, c2, c3, hvx⟩ := HR.out.nth HC2.out hx
      obtain ⟨_, _, _, _, _, _, _, hvw⟩ := HR.out.nth (Chg.refl NoS w) hx
      have HX : Hid (ValIs w2 x ⟨x.kind, x.num, x.str, eA, el, ec⟩) := hvx
      have HXW : Hid (∃ eA el ec, ValIs w x ⟨x.kind, x.num, x.str, eA, el, ec⟩) := ⟨_, _, _, hvw⟩
      have i1 : (u : Int) < len := by omega
      have HXN : Hid (∀ w', Chg NoS w w' → ValIs w' x ⟨x.kind, x.num, x.str, eA, el, ec⟩) := fun w' hc' => by
        obtain ⟨eA', el', ec', d0, d1, d2, d3, hv0⟩ := HR.out.nth (Chg.refl NoS w) hx
        have h3 := (HC2.out.cell (p := ⟨b, off + u * 4 + 3, none⟩) (cell_lt d3) (fun h => h)).trans d3
        rw [c3] at h3
        cases h3
        exact hv0.chg hc'
      obtain ⟨xk, hxk⟩ : ∃ y, x.kind = y := ⟨_, rfl⟩
      obtain ⟨xn, hxn⟩ : ∃ y, x.num = y := ⟨_, rfl⟩
      obtain ⟨xs, hxs⟩ : ∃ y, x.str = y := ⟨_, rfl⟩
      rw [hxk] at c0 HXN
      rw [hxn] at c1 HXN
      rw [hxs] at c2 HXN
      clear hx he hj hlast hu hvx hvw HX HXW hxk hxn hxs
      have z0 := HO2.out.blk.frozen 0
      have z1 := HO2.out.blk.frozen 1
      have z2 := HO2.out.blk.frozen 2
      have z3 := HO2.out.blk.frozen 3
      have y0 := HO2.out.blk.cell 0
      have y1 := HO2.out.blk.cell 1
      have y2 := HO2.out.blk.cell 2
      have y3 := HO2.out.blk.cell 3
      simp at y0 y1 y2 y3
      go_wp2_with fail
      try simp only [Exit.noGoto_ret]
      clear y0 y1 y2 y3
      obtain ⟨hb, hcc⟩ := HO2.out.set4 (a := .int .i64 xk) (b := .int .i64 xn) (c := .string xs) (d := .slice eA el ec) HC2.out rfl
      have r0 := hb.blk.cell 0
      have r1 := hb.blk.cell 1
      have r2 := hb.blk.cell 2
      have r3 := hb.blk.cell 3
      simp at r0 r1 r2 r3
      refine bodyPost_ret (v := .tuple #[.agg #[.int .i64 xk, .int .i64 xn, .string xs, .slice eA el ec], .bool true]) (by simp [results, Try.results20, go_sem, r0, r1, r2, r3]) rfl ?_
      exact GetTo.of HE.out ⟨xk, xn, xs, eA, el, ec⟩ (HXN.out _ hcc) hcc
end Go.Proofs.Ytjbjfoingpnlmaa
