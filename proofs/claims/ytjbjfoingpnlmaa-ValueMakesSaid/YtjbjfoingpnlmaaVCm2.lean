/- The program's Compare and Same. -/
import Derived.Test.YtjbjfoingpnlmaaVCmp
import Derived.Test.YtjbjfoingpnlmaaRVt8
namespace Go.Proofs.Ytjbjfoingpnlmaa
open Go.RowKit
set_option linter.unusedVariables false
set_option linter.unusedSimpArgs false

set_option maxHeartbeats 4000000 in
set_option maxRecDepth 100000 in
theorem cmp_in : ∀ (N : Nat) (t : VT), sizT t ≤ N → ∀ (t' : VT) (c c' : VC) (w : World), ValIs w t c → ValIs w t' c' →
    Calls Try.prog 15 #[c.val, c'.val] w fun e w' => e = .returned (.int .i64 (cmpT t t')) ∧ Chg NoS w w' := by
  intro N
  induction N with
  | zero =>
    intro t ht
    obtain ⟨k, n, s, l⟩ := t
    rw [sizT_mk] at ht
    omega
  | succ N ih =>
    intro t ht t' c c' w hv hv'
    obtain ⟨tk, tn, ts, l⟩ := t
    obtain ⟨tk', tn', ts', l'⟩ := t'
    obtain ⟨h1, h2, h3, hg, hl, hr⟩ := hv.inv
    obtain ⟨h1', h2', h3', hg', hl', hr'⟩ := hv'.inv
    obtain ⟨k, n, s, A, len, cap⟩ := c
    obtain ⟨k', n', s', A', len', cap'⟩ := c'
    simp only [] at h1 h2 h3 hl hr h1' h2' h3' hl' hr'
    subst h1 h2 h3 h1' h2' h3'
    rw [sizT_mk] at ht
    have hlm := hg.len
    have hlm' := hg'.len
    simp only [] at hlm hlm'
    unfold VC.val
    simp only []
    have HF := keepf (fun (W : World) (h : Chg NoS w W) => cmpf_any l l' A A' len cap len' cap' w W hl hl' hlm hlm' hr hr' h (fun t ht' => ih t (by omega)))
    have HI := keepf (fun (x y : Int) (W : World) => (Go.Proofs.Try.cmp_Compare_int x y W).mono (fun e w' h => (⟨h.1.trans (ret_v64 (cmpInt_eq x y)), h.2⟩ : e = .returned (.int .i64 (cmpI x y)) ∧ w' = W)))
    have HS := keepf (fun (W : World) => (Go.Proofs.Try.strings_Compare s s' W).mono (fun e w' h => (⟨h.1.trans (ret_v64 (cmpBytes_eq s s')), h.2⟩ : e = .returned (.int .i64 (cmpS s s')) ∧ w' = W)))
    have hb := ((Blk.new w 24 #[.int .i64 k, .int .i64 n, .string s, .slice A len cap]).alloc (.cells #[.int .i64 k', .int .i64 n', .string s', .slice A' len' cap'] 24))
    have hb2 := Blk.new (w.alloc (.cells #[.int .i64 k, .int .i64 n, .string s, .slice A len cap] 24)) 24 #[.int .i64 k', .int .i64 n', .string s', .slice A' len' cap']
    rw [World.size_alloc] at hb2
    have HC0 := keepf (((Chg.refl NoS w).alloc (.cells #[.int .i64 k, .int .i64 n, .string s, .slice A len cap] 24)).alloc (.cells #[.int .i64 k', .int .i64 n', .string s', .slice A' len' cap'] 24))
    obtain ⟨W0, hW⟩ : ∃ W0, W0 = (w.alloc (.cells #[.int .i64 k, .int .i64 n, .string s, .slice A len cap] 24)).alloc (.cells #[.int .i64 k', .int .i64 n', .string s', .slice A' len' cap'] 24) := ⟨_, rfl⟩
    obtain ⟨g, hgg⟩ : ∃ g, g = w.heap.size := ⟨_, rfl⟩
    rw [← hW] at hb hb2 HC0
    rw [← hgg] at hb hb2
    have p0 := hb.cell 0
    have p1 := hb.cell 1
    have p2 := hb.cell 2
    have q0 := hb2.cell 0
    have q1 := hb2.cell 1
    have q2 := hb2.cell 2
    simp at p0 p1 p2 q0 q1 q2
    obtain ⟨x, hx⟩ : ∃ x, x = cmpI k k' := ⟨_, rfl⟩
    obtain ⟨y, hy⟩ : ∃ y, y = cmpI n n' := ⟨_, rfl⟩
    obtain ⟨z, hz⟩ : ∃ z, z = cmpS s s' := ⟨_, rfl⟩
    obtain ⟨r, hr9⟩ : ∃ r, r = or3 x y z := ⟨_, rfl⟩
    have hh : cmpH k n s k' n' s' = r := by rw [hr9, hx, hy, hz, cmpH_or]
    have HIx := keepf (fun W => HI.out k k' W)
    have HIy := keepf (fun W => HI.out n n' W)
    rw [← hx] at HIx
    rw [← hy] at HIy
    rw [← hz] at HS
    have HO := keepf (fun (gg : Nat) (W : World) (h : Blk W gg 3 #[.int .i64 x, .int .i64 y, .int .i64 z]) => or3_any gg x y z W h)
    rw [← hr9] at HO
    have HBV := keepf hb
    have HBV' := keepf hb2
    clear hv hv' hg hg' hl hl' hr hr' ih ht HI hx hy hz hr9 hb hb2
    go_enter Try.func15, Try.ntmps15
    go_upto_region 1 with fail
    rw [← hgg, ← hW]
    clear hgg hW
    refine wp_region_still_tail 15 (by kernel_rfl) (by kernel_rfl) ?_
    simp only [List.take_succ_cons, List.take_zero, List.drop_succ_cons, List.drop_zero]
    change wpStill _ _ W0.drew _ _ _
    repeat still_step
    still_call (HIx.out _)
    repeat still_step
    still_call (HIy.out _)
    repeat still_step
    still_call (HS.out _)
    repeat still_step
    refine wpStill_nil ?_
    change wpList _ _ _ _ _ W0.drew
    by_cases hr0 : r = 0
    · subst hr0
      have HE := keepf (show cmpT (.mk k n s l) (.mk k' n' s' l') = cmpL l l' from by rw [cmpT_mk, hh, if_neg (by simp)])
      have c3 := (HBV.out.alloc (.cells #[.int .i64 x, .int .i64 y, .int .i64 z] 3)).drew.cell 3
      have d3 := (HBV'.out.alloc (.cells #[.int .i64 x, .int .i64 y, .int .i64 z] 3)).drew.cell 3
      simp at c3 d3
      clear hh
      go_wp2_with (first
        | (go_at_call 37; refine (HO.out _ _ (Blk.new W0.drew 3 #[.int .i64 x, .int .i64 y, .int .i64 z])).mono ?_; rintro e w3 ⟨rfl, rfl⟩)
        | (go_at_call 40; refine (HF.out _ (HC0.out.drew.alloc _)).mono ?_; rintro e w4 ⟨rfl, hc4⟩; have HC4 := keepf ((HC0.out.drew.alloc _).trans hc4 (fun _ _ e => e)); clear hc4))
      go_ret
      exact ⟨ret_v64 HE.out.symm, HC4.out⟩
    · have HE := keepf (show cmpT (.mk k n s l) (.mk k' n' s' l') = r from by rw [cmpT_mk, hh, if_pos hr0])
      have e1 : (r == 0) = false := by simpa using hr0
      have e2 : (r != 0) = true := by simpa using hr0
      clear hh hr0
      go_wp2_with (go_at_call 37; refine (HO.out _ _ (Blk.new W0.drew 3 #[.int .i64 x, .int .i64 y, .int .i64 z])).mono ?_; rintro e w3 ⟨rfl, rfl⟩)
      go_ret
      exact ⟨ret_v64 HE.out.symm, HC0.out.drew.alloc _⟩
theorem cmp_any (t t' : VT) (c c' : VC) (w : World) (hv : ValIs w t c) (hv' : ValIs w t' c') :
    Calls Try.prog 15 #[c.val, c'.val] w fun e w' => e = .returned (.int .i64 (cmpT t t')) ∧ Chg NoS w w' := cmp_in _ t (Nat.le_refl _) t' c c' w hv hv'
set_option maxHeartbeats 2000000 in
theorem same_any (t t' : VT) (c c' : VC) (w : World) (hv : ValIs w t c) (hv' : ValIs w t' c') :
    Calls Try.prog 17 #[c.val, c'.val] w fun e w' => e = .returned (.bool (decide (cmpT t t' = 0))) ∧ Chg NoS w w' := by
  have HX := keepf (fun W (h : Chg NoS w W) => cmp_any t t' c c' W (hv.chg h) (hv'.chg h))
  obtain ⟨k, n, s, A, len, cap⟩ := c
  obtain ⟨k', n', s', A', len', cap'⟩ := c'
  unfold VC.val at HX ⊢
  simp only [] at HX ⊢
  have hb := ((Blk.new w 24 #[.int .i64 k, .int .i64 n, .string s, .slice A len cap]).alloc (.cells #[.int .i64 k', .int .i64 n', .string s', .slice A' len' cap'] 24))
  have p0 := hb.cell 0
  have p1 := hb.cell 1
  have p2 := hb.cell 2
  have p3 := hb.cell 3
  simp at p0 p1 p2 p3
  clear hb hv hv'
  obtain ⟨r, hr9⟩ : ∃ r, r = cmpT t t' := ⟨_, rfl⟩
  rw [← hr9] at HX ⊢
  clear hr9
  have HC0 := keepf (((Chg.refl NoS w).alloc (.cells #[.int .i64 k, .int .i64 n, .string s, .slice A len cap] 24)).alloc (.cells #[.int .i64 k', .int .i64 n', .string s', .slice A' len' cap'] 24))
  by_cases h0 : r = 0
  · subst h0
    go_enter Try.func17, Try.ntmps17
    go_wp2_with (go_at_call 15; refine (HX.out _ HC0.out).mono ?_; rintro e w3 ⟨rfl, hc3⟩; have HC3 := keepf (HC0.out.trans hc3 (fun _ _ e => e)); clear hc3)
    go_ret
    exact ⟨rfl, HC3.out⟩
  · have e1 : (r == 0) = false := by simpa using h0
    have HZ := keepf h0
    clear h0
    go_enter Try.func17, Try.ntmps17
    go_wp2_with (go_at_call 15; refine (HX.out _ HC0.out).mono ?_; rintro e w3 ⟨rfl, hc3⟩; have HC3 := keepf (HC0.out.trans hc3 (fun _ _ e => e)); clear hc3)
    go_ret
    exact ⟨ret_vb (by simp [HZ.out]), HC3.out⟩
end Go.Proofs.Ytjbjfoingpnlmaa
