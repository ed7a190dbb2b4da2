/- The program's Depth, and depthUpto. -/
import Derived.Test.YtjbjfoingpnlmaaVWk
import Derived.Test.YtjbjfoingpnlmaaVPutM
namespace Go.Proofs.Ytjbjfoingpnlmaa
open Go.RowKit
set_option linter.unusedVariables false
set_option linter.unusedSimpArgs false

def stepD (most : Nat) (t : VT) (d : Nat) (st : Nat) : Nat × Bool := (max st d, decide (d < most ∧ (t.kind = 6 ∨ t.kind = 7)))
/-- What the two boxes hold. -/
structure DJ (w0 : World) (g2 g1 most : Nat) (st : Nat) (W : World) : Prop where
  a : Blk W g2 3 #[.int .i64 (st : Nat)]
  b : Blk W g1 3 #[.int .i64 (most : Nat)]
  ne : g1 ≠ g2
  new : w0.heap.size ≤ g2
  chg : Chg NoS w0 W
theorem DJ.call {w0 W W' : World} {g2 g1 most st : Nat} (h : DJ w0 g2 g1 most st W) (hc : Chg NoS W W') : DJ w0 g2 g1 most st W' := ⟨h.a.chg hc (fun e => e), h.b.chg hc (fun e => e), h.ne, h.new, h.chg.trans hc (fun _ _ e => e)⟩
theorem DJ.set {w0 W : World} {g2 g1 most st : Nat} (h : DJ w0 g2 g1 most st W) (n : Nat) : DJ w0 g2 g1 most n (W.setCell ⟨g2, 0, none⟩ (.int .i64 (n : Nat))) :=
  ⟨h.a.set_ 0 _, h.b.far (p := ⟨g2, 0, none⟩) h.ne _, h.ne, h.new, h.chg.setCell (p := ⟨g2, 0, none⟩) (fun h2 => absurd h2 (Nat.not_lt.2 h.new)) _⟩
set_option maxHeartbeats 2000000 in
theorem dep1_any (w0 : World) (g2 g1 most : Nat) (t : VT) (c : VC) (d st : Nat) (W : World) (hv : ValIs W t c) (hj : DJ w0 g2 g1 most st W) :
    Calls Try.prog 51 #[c.val, .int .i64 (d : Nat), .pointer (some ⟨g2, 0, none⟩), .pointer (some ⟨g1, 0, none⟩)] W fun e w' => e = .returned (.bool (stepD most t d st).2) ∧ DJ w0 g2 g1 most (stepD most t d st).1 w' ∧ Chg (fun i => i = g2) W w' := by
  obtain ⟨tk, tn, ts, l⟩ := t
  obtain ⟨h1, h2, h3, _, _, _⟩ := hv.inv
  obtain ⟨ck, cn, cs, A, len, cap⟩ := c
  simp only [] at h1 h2 h3
  subst h1 h2 h3
  have HJ := keepf (hj.call ((Chg.refl NoS W).alloc (.cells #[.int .i64 ck, .int .i64 cn, .string cs, .slice A len cap] 24)))
  have hl := hj.a.lt
  have hne : ¬ W.heap.size = g2 := by omega
  have x0 := HJ.out.a.cell 0
  have y0 := HJ.out.b.cell 0
  have x1 := HJ.out.a.frozen 0
  simp at x0 y0
  have HC := keepf (((Chg.refl (fun i => i = g2) W).alloc (.cells #[.int .i64 ck, .int .i64 cn, .string cs, .slice A len cap] 24)))
  have HB := keepf (Blk.new W 24 #[.int .i64 ck, .int .i64 cn, .string cs, .slice A len cap])
  obtain ⟨m, hm⟩ : ∃ m : Nat, m = max st d := ⟨_, rfl⟩
  have HJ2 := keepf (HJ.out.set m)
  have HB2 := keepf (HB.out.far (p := ⟨g2, 0, none⟩) hne (.int .i64 (m : Nat)))
  have HC2 := keepf (HC.out.setCell (p := ⟨g2, 0, none⟩) (fun _ => rfl) (.int .i64 (m : Nat)))
  have z0 := HB2.out.cell 0
  have z1 := HJ2.out.b.cell 0
  simp at z0 z1
  have HST := keepf (show (stepD most (.mk ck cn cs l) d st).1 = m from hm.symm)
  have HS2 := keepf (show (stepD most (.mk ck cn cs l) d st).2 = decide (d < most ∧ (ck = 6 ∨ ck = 7)) from rfl)
  rw [HST.out, HS2.out]
  unfold VC.val
  simp only []
  clear hj hv hl hne HST HS2
  have HM : Hid (max (st : Int) (d : Int) = (m : Nat)) := by show _ = _; rw [hm]; omega
  clear hm
  by_cases h1 : d < most
  · have e1 : decide ((d : Int) < (most : Int)) = true := by simpa using h1
    have e1' : decide (d < most) = true := by simpa using h1
    by_cases h6 : ck = 6
    · subst h6
      have HK := keepf h1
      clear h1
      go_enter Try.func51, Try.ntmps51
      go_upto_region 2 with fail
      rw [HM.out]
      go_wp2_with fail
      go_ret
      exact ⟨by first | rfl | simp [HK.out], HJ2.out, HC2.out⟩
    · have e6 : (ck == 6) = false := by simpa using h6
      by_cases h7 : ck = 7
      · subst h7
        have HK := keepf h1
        clear h1 h6
        go_enter Try.func51, Try.ntmps51
        go_upto_region 2 with fail
        rw [HM.out]
        go_wp2_with fail
        go_ret
        exact ⟨by first | rfl | simp [HK.out], HJ2.out, HC2.out⟩
      · have e7 : (ck == 7) = false := by simpa using h7
        have HK6 := keepf h6
        have HK7 := keepf h7
        clear h1 h6 h7
        go_enter Try.func51, Try.ntmps51
        go_upto_region 2 with fail
        rw [HM.out]
        go_wp2_with fail
        go_ret
        exact ⟨by first | rfl | simp [HK6.out, HK7.out], HJ2.out, HC2.out⟩
  · have e1 : decide ((d : Int) < (most : Int)) = false := by simpa using h1
    have e1' : decide (d < most) = false := by simpa using h1
    have HK := keepf h1
    clear h1
    go_enter Try.func51, Try.ntmps51
    go_upto_region 2 with fail
    rw [HM.out]
    go_wp2_with fail
    go_ret
    exact ⟨by first | rfl | simp [HK.out], HJ2.out, HC2.out⟩
theorem dep_see (w0 : World) (g2 g1 most : Nat) : SeeOf w0 51 #[.pointer (some ⟨g2, 0, none⟩), .pointer (some ⟨g1, 0, none⟩)] (fun i => i = g2) (DJ w0 g2 g1 most) (stepD most) where
  chg := fun _ _ h => h.chg
  keep := fun _ _ _ h hc => h.call hc
  low := fun _ _ h i hi => hi ▸ h.a.lt
  see := fun t c d st W hv hj _ => dep1_any w0 g2 g1 most t c d st W hv hj

theorem depthL_max : ∀ (l : List VT) (a : Nat), 1 ≤ a → depthL a l = max a (depthL 1 l)
  | [], a => fun h => by rw [depthL, depthL]; omega
  | t :: l, a => fun h => by
    have h1 := depthT_le t
    have e1 := depthL_max l (depthT t + 1) (by omega)
    have e2 := depthL_max l a h
    rw [depthL_cons, depthL_cons, if_pos (show 1 < depthT t + 1 by omega)]
    split
    · rw [e1]; omega
    · rw [e1, e2]; omega
theorem depthL_two (t : VT) (l : List VT) : depthL 1 (t :: l) = max (depthT t + 1) (depthL 1 l) := by
  have h1 := depthT_le t
  rw [depthL_cons, if_pos (show 1 < depthT t + 1 by omega), depthL_max l (depthT t + 1) (by omega)]
mutual
theorem walkD_T (most : Nat) : ∀ (t : VT) (d st : Nat), 1 ≤ d → d ≤ most → walkT (stepD most) t d st = max st (min most (d - 1 + depthT t))
  | .mk k n s l, d, st => fun h1 h2 => by
    by_cases h : d < most ∧ (k = 6 ∨ k = 7)
    · rw [walkT_on (show (stepD most (.mk k n s l) d st).2 = true from decide_eq_true h)]
      show walkL (stepD most) l (d + 1) (max st d) = _
      rw [walkD_L most l (d + 1) (max st d) (by omega) (by omega) (by omega), depthT, if_pos h.2]
      have := (depthL_le l 1 (Nat.le_refl _)).1
      omega
    · rw [walkT_no (show (stepD most (.mk k n s l) d st).2 = false from decide_eq_false h)]
      show max st d = _
      have h4 := (depthT_le (.mk k n s l)).1
      by_cases h3 : d = most
      · omega
      · have h5 : ¬ (k = 6 ∨ k = 7) := fun e => h ⟨by omega, e⟩
        rw [depthT, if_neg h5]
        omega
theorem walkD_L (most : Nat) : ∀ (l : List VT) (d st : Nat), 2 ≤ d → d ≤ most → d - 1 ≤ st → walkL (stepD most) l d st = max st (min most (d - 2 + depthL 1 l))
  | [], d, st => fun h1 h2 h3 => by rw [walkL, depthL]; omega
  | t :: l, d, st => fun h1 h2 h3 => by
    have h4 := (depthT_le t).1
    rw [walkL_cons, walkD_T most t d st (by omega) h2, walkD_L most l d _ h1 h2 (by omega), depthL_two]
    omega
end

set_option maxHeartbeats 2000000 in
theorem depu_any (t : VT) (c : VC) (most : Nat) (w : World) (hv : ValIs w t c) (hs : sizT t ≤ 1000000000) (hm : 1 ≤ most) :
    Calls Try.prog 31 #[c.val, .int .i64 (most : Nat)] w fun e w' => e = .returned (.int .i64 ((min most (depthT t) : Nat) : Int)) ∧ Chg NoS w w' := by
  have HV := keepf hv
  obtain ⟨ck, cn, cs, A, len, cap⟩ := c
  unfold VC.val
  simp only []
  have HB := keepf (((Blk.new w 24 #[.int .i64 ck, .int .i64 cn, .string cs, .slice A len cap]).alloc (.cells #[.int .i64 (most : Nat)] 3)).alloc (.cells #[.int .i64 0] 3))
  have hb1 := (Blk.new (w.alloc (.cells #[.int .i64 ck, .int .i64 cn, .string cs, .slice A len cap] 24)) 3 #[.int .i64 (most : Nat)]).alloc (.cells #[.int .i64 0] 3)
  have hb2 := (Blk.new ((w.alloc (.cells #[.int .i64 ck, .int .i64 cn, .string cs, .slice A len cap] 24)).alloc (.cells #[.int .i64 (most : Nat)] 3)) 3 #[.int .i64 ((0 : Nat) : Int)])
  simp only [World.size_alloc] at hb1 hb2
  have HJ := keepf ((⟨hb2, hb1, by omega, by omega, (((Chg.refl NoS w).alloc _).alloc _).alloc _⟩ : DJ w (w.heap.size + 1 + 1) (w.heap.size + 1) most 0 _))
  have x0 := HB.out.cell 0
  have x1 := HB.out.cell 1
  have x2 := HB.out.cell 2
  have x3 := HB.out.cell 3
  simp at x0 x1 x2 x3
  have HX := keepf (walk_any w 51 _ (fun args w => rfl) _ _ _ (dep_see w (w.heap.size + 1 + 1) (w.heap.size + 1) most) t ⟨ck, cn, cs, A, len, cap⟩ 1 0 _ HV.out HJ.out (by omega))
  rw [walkD_T most t 1 0 (Nat.le_refl _) hm] at HX
  have HE := keepf (show max 0 (min most (1 - 1 + depthT t)) = min most (depthT t) by omega)
  rw [HE.out] at HX
  unfold VC.val at HX
  simp only [] at HX
  clear hb1 hb2
  go_enter Try.func31, Try.ntmps31
  go_wp2_with (go_at_call 32; refine HX.out.mono ?_; rintro e w4 ⟨rfl, hj4, hc4⟩; have q0 := hj4.a.cell 0; simp at q0; have HJ4 := keepf hj4; clear hj4 hc4)
  go_ret
  exact ⟨rfl, HJ4.out.chg⟩
theorem depth_any (t : VT) (c : VC) (w : World) (hv : ValIs w t c) (hs : sizT t ≤ 1000000) :
    Calls Try.prog 12 #[c.val] w fun e w' => e = .returned (.int .i64 (depthT t : Nat)) ∧ Chg NoS w w' := by
  have h1 := (depthT_le t).2
  have HX := keepf (fun (W : World) (h : Chg NoS w W) => depu_any t c 9223372036854775807 W (hv.chg h) (by omega) (by omega))
  rw [show min 9223372036854775807 (depthT t) = depthT t by omega] at HX
  obtain ⟨ck, cn, cs, A, len, cap⟩ := c
  unfold VC.val at HX ⊢
  simp only [] at HX ⊢
  go_enter Try.func12, Try.ntmps12
  go_wp2_with (go_at_call 31; refine (HX.out _ ((Chg.refl NoS w).alloc _)).mono ?_; rintro e w4 ⟨rfl, hc4⟩; have HC4 := keepf (((Chg.refl NoS w).alloc _).trans hc4 (fun _ _ e => e)); clear hc4)
  go_ret
  exact ⟨rfl, HC4.out⟩
end Go.Proofs.Ytjbjfoingpnlmaa
