/- The program's Check of a value. -/
import Derived.Test.YtjbjfoingpnlmaaVAln
namespace Go.Proofs.Ytjbjfoingpnlmaa
open Go.RowKit
set_option linter.unusedVariables false
set_option linter.unusedSimpArgs false

noncomputable def ownT : VT → Int | .mk k n s l => ownO k n s l
open Classical in
noncomputable def stepC (t : VT) (d : Nat) (st : Int) : Int × Bool := (if st = 0 then ownT t else st, decide ((if st = 0 then ownT t else st) = 0))
theorem stepC_z (k n : Int) (s : ByteArray) (l : List VT) (d : Nat) : (stepC (.mk k n s l) d 0).1 = ownO k n s l := by
  unfold stepC
  simp only [if_pos]
  rfl
/-- What the box of the error holds. -/
structure CJ (w0 : World) (g : Nat) (st : Int) (W : World) : Prop where
  a : Blk W g 26 #[.int .i64 st]
  new : w0.heap.size ≤ g
  chg : Chg NoS w0 W
theorem CJ.call {w0 W W' : World} {g : Nat} {st : Int} (h : CJ w0 g st W) (hc : Chg NoS W W') : CJ w0 g st W' := ⟨h.a.chg hc (fun e => e), h.new, h.chg.trans hc (fun _ _ e => e)⟩
theorem CJ.set {w0 W : World} {g : Nat} {st : Int} (h : CJ w0 g st W) (n : Int) : CJ w0 g n (W.setCell ⟨g, 0, none⟩ (.int .i64 n)) :=
  ⟨h.a.set_ 0 _, h.new, h.chg.setCell (p := ⟨g, 0, none⟩) (fun h2 => absurd h2 (Nat.not_lt.2 h.new)) _⟩

set_option maxHeartbeats 2000000 in
theorem chk1_any (w0 : World) (g : Nat) (t : VT) (c : VC) (d : Nat) (st : Int) (W : World) (hv : ValIs W t c) (hj : CJ w0 g st W) :
    Calls Try.prog 33 #[c.val, .int .i64 (d : Nat), .pointer (some ⟨g, 0, none⟩)] W fun e w' => e = .returned (.bool (stepC t d st).2) ∧ CJ w0 g (stepC t d st).1 w' ∧ Chg (fun i => i = g) W w' := by
  have HV := keepf hv
  obtain ⟨tk, tn, ts, l⟩ := t
  obtain ⟨h1, h2, h3, _, _, _⟩ := hv.inv
  obtain ⟨ck, cn, cs, A, len, cap⟩ := c
  simp only [] at h1 h2 h3
  subst h1 h2 h3
  have HJ := keepf (hj.call ((Chg.refl NoS W).alloc (.cells #[.int .i64 ck, .int .i64 cn, .string cs, .slice A len cap] 24)))
  have hl := hj.a.lt
  have hne : ¬ W.heap.size = g := by omega
  have x0 := HJ.out.a.cell 0
  have x1 := HJ.out.a.frozen 0
  simp at x0
  have HC := keepf (((Chg.refl (fun i => i = g) W).alloc (.cells #[.int .i64 ck, .int .i64 cn, .string cs, .slice A len cap] 24)))
  have HA := keepf (fun (W' : World) (h : Chg NoS W W') => alone_any ⟨ck, cn, cs, A, len, cap⟩ l W' (HV.out.chg h))
  unfold VC.val at HA ⊢
  simp only [] at HA ⊢
  clear hj hv hl
  by_cases h0 : st = 0
  · subst h0
    obtain ⟨z, hz⟩ : ∃ z, z = ownO ck cn cs l := ⟨_, rfl⟩
    have HS1 := keepf (show (stepC (.mk ck cn cs l) d 0).1 = z from by rw [hz]; exact stepC_z _ _ _ _ _)
    have HS2 := keepf (show (stepC (.mk ck cn cs l) d 0).2 = decide (z = 0) from by rw [hz]; unfold stepC; simp only [if_pos]; exact decide_eq_decide.2 Iff.rfl)
    rw [HS1.out, HS2.out]
    rw [← hz] at HA
    clear hz HS1 HS2
    go_enter Try.func33, Try.ntmps33
    go_upto_region 3 with (go_at_call 34; refine (HA.out _ ((Chg.refl NoS W).alloc _)).mono ?_; rintro e w3 ⟨rfl, hc3⟩; have HJ3 := keepf (HJ.out.call hc3); have HC3 := keepf (HC.out.trans (Chg.weak hc3) (fun _ _ e => e)); have y1 := HJ3.out.a.frozen 0; have y0 := HJ3.out.a.cell 0; simp at y0; clear hc3 x0 x1)
    have HJ4 := keepf (HJ3.out.set z)
    have HC4 := keepf (HC3.out.setCell (p := ⟨g, 0, none⟩) (fun _ => rfl) (.int .i64 z))
    have q0 := HJ4.out.a.cell 0
    simp at q0
    clear y0 y1
    by_cases hz0 : z = 0
    · subst hz0
      go_wp2_with fail
      go_ret
      exact ⟨rfl, HJ4.out, HC4.out⟩
    · have e0 : (z == 0) = false := by simpa using hz0
      have HZ := keepf hz0
      clear hz0
      go_wp2_with fail
      go_ret
      exact ⟨by simp [HZ.out], HJ4.out, HC4.out⟩
  · have e0 : (st == 0) = false := by simpa using h0
    have HS1 := keepf (show (stepC (.mk ck cn cs l) d st).1 = st from if_neg h0)
    have HS2 := keepf (show (stepC (.mk ck cn cs l) d st).2 = false from by unfold stepC; simp only [if_neg h0]; exact decide_eq_false h0)
    rw [HS1.out, HS2.out]
    clear h0 HS1 HS2
    go_enter Try.func33, Try.ntmps33
    go_wp2_with fail
    go_ret
    exact ⟨rfl, HJ.out, HC.out⟩
theorem chk_see (w0 : World) (g : Nat) : SeeOf w0 33 #[.pointer (some ⟨g, 0, none⟩)] (fun i => i = g) (CJ w0 g) stepC where
  chg := fun _ _ h => h.chg
  keep := fun _ _ _ h hc => h.call hc
  low := fun _ _ h i hi => hi ▸ h.a.lt
  see := fun t c d st W hv hj _ => chk1_any w0 g t c d st W hv hj

theorem own_leaf {k n : Int} {s : ByteArray} {l : List VT} (h : ownO k n s l = 0) (h6 : ¬ (k = 6 ∨ k = 7)) : l = [] := by
  have h2 : l.length = 0 := by
    unfold ownO at h
    split at h
    · split at h <;> omega
    · split at h
      · split at h <;> omega
      · split at h
        · unfold chkOf at h; split at h <;> omega
        · split at h
          · split at h <;> omega
          · split at h
            · split at h
              · omega
              · split at h <;> omega
            · split at h
              · omega
              · split at h
                · omega
                · split at h
                  · split at h <;> omega
                  · omega
  exact List.length_eq_zero_iff.1 h2
mutual
theorem walkC_T : ∀ (t : VT) (d : Nat) (st : Int), walkT stepC t d st = if st = 0 then firstT t else st
  | .mk k n s l, d, st => by
    by_cases h0 : st = 0
    · subst h0
      rw [if_pos rfl, firstT_mk]
      have e1 : (stepC (.mk k n s l) d 0).1 = ownO k n s l := stepC_z _ _ _ _ _
      by_cases hz : ownO k n s l = 0
      · rw [walkT_on (show (stepC (.mk k n s l) d 0).2 = true from decide_eq_true (by rw [if_pos rfl]; exact hz)), e1, hz, if_neg (fun h => h rfl), walkC_L l (d + 1) 0, if_pos rfl]
        by_cases h6 : k = 6 ∨ k = 7
        · rw [if_pos h6]
        · rw [if_neg h6, own_leaf hz h6, firstL]
      · rw [walkT_no (show (stepC (.mk k n s l) d 0).2 = false from decide_eq_false (by rw [if_pos rfl]; exact hz)), e1, if_pos hz]
    · rw [if_neg h0, walkT_no (show (stepC (.mk k n s l) d st).2 = false from decide_eq_false (by rw [if_neg h0]; exact h0))]
      exact if_neg h0
theorem walkC_L : ∀ (l : List VT) (d : Nat) (st : Int), walkL stepC l d st = if st = 0 then firstL l else st
  | [], d, st => by
    rw [walkL, firstL]
    split
    · next h => exact h
    · rfl
  | t :: l, d, st => by
    rw [walkL_cons, walkC_T t d st, walkC_L l d, firstL_cons]
    by_cases h0 : st = 0
    · rw [if_pos h0, if_pos h0]
      by_cases h1 : firstT t = 0
      · rw [if_pos h1, if_neg (fun h => h h1)]
      · rw [if_neg h1, if_pos h1]
    · rw [if_neg h0, if_neg h0, if_neg h0]
end

set_option maxHeartbeats 2000000 in
theorem check_any (t : VT) (c : VC) (w : World) (hv : ValIs w t c) (hs : sizT t ≤ 1000000) :
    Calls Try.prog 10 #[c.val] w fun e w' => e = .returned (.int .i64 (checkT t)) ∧ Chg NoS w w' := by
  have HV := keepf hv
  obtain ⟨ck, cn, cs, A, len, cap⟩ := c
  have HD := keepf (fun (W : World) (h : Chg NoS w W) => depu_any t ⟨ck, cn, cs, A, len, cap⟩ 65 W (HV.out.chg h) (by omega) (by omega))
  have HW := keepf (fun (W : World) (g : Nat) (h : CJ w g 0 W) => walk_any w 33 _ (fun args w => rfl) _ _ _ (chk_see w g) t ⟨ck, cn, cs, A, len, cap⟩ 1 0 W HV.out h (by omega))
  rw [walkC_T t 1 0, if_pos rfl] at HW
  have HB := keepf (Blk.new w 24 #[.int .i64 ck, .int .i64 cn, .string cs, .slice A len cap])
  have HC0 := keepf ((Chg.refl NoS w).alloc (.cells #[.int .i64 ck, .int .i64 cn, .string cs, .slice A len cap] 24))
  unfold VC.val at HD HW ⊢
  simp only [] at HD HW ⊢
  have hdp := (depthT_le t).1
  obtain ⟨D, hD⟩ : ∃ D : Nat, D = depthT t := ⟨_, rfl⟩
  rw [← hD] at HD hdp
  have ex : ∃ m : Nat, m = min 65 D := ⟨_, rfl⟩
  obtain ⟨m, hm⟩ := ex
  rw [← hm] at HD
  clear hv
  by_cases h64 : 64 < D
  · have HE := keepf (show checkT t = 15 from by unfold checkT; rw [← hD, if_pos h64])
    obtain rfl : m = 65 := by omega
    clear hD hm
    go_enter Try.func10, Try.ntmps10
    go_wp2_with (go_at_call 31; refine (HD.out _ HC0.out).mono ?_; rintro e w3 ⟨rfl, hc3⟩; have HC3 := keepf (HC0.out.trans hc3 (fun _ _ e => e)); clear hc3)
    go_ret
    exact ⟨ret_v64 HE.out.symm, HC3.out⟩
  · have HE := keepf (show checkT t = firstT t from by unfold checkT; rw [← hD, if_neg h64])
    have d1 : decide ((64 : Int) < (m : Int)) = false := by simp; omega
    have d1' : decide (64 < m) = false := by simp; omega
    clear hD hm h64
    go_enter Try.func10, Try.ntmps10
    go_upto_region 3 with (go_at_call 31; refine (HD.out _ HC0.out).mono ?_; rintro e w3 ⟨rfl, hc3⟩; have HC3 := keepf (HC0.out.trans hc3 (fun _ _ e => e)); have HB3 := keepf (HB.out.chg hc3 (fun e => e)); clear hc3)
    have HB4 := keepf (HB3.out.alloc (.cells #[.int .i64 0] 26))
    have HJ4 := keepf (⟨Blk.new w3 26 #[.int .i64 0], HC3.out.size, HC3.out.alloc _⟩ : CJ w w3.heap.size 0 _)
    have x0 := HB4.out.cell 0
    have x1 := HB4.out.cell 1
    have x2 := HB4.out.cell 2
    have x3 := HB4.out.cell 3
    simp at x0 x1 x2 x3
    go_wp2_with (go_at_call 32; refine (HW.out _ _ HJ4.out).mono ?_; rintro e w5 ⟨rfl, hj5, _⟩; have HJ5 := keepf hj5; have y0 := hj5.a.cell 0; simp at y0; clear hj5 x0 x1 x2 x3)
    go_ret
    exact ⟨ret_v64 HE.out.symm, HJ5.out.chg⟩
end Go.Proofs.Ytjbjfoingpnlmaa
