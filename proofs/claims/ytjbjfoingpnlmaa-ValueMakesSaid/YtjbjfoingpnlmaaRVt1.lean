/- The document's own functions of values: how many there are in one another, and how deep. -/
import Derived.Test.YtjbjfoingpnlmaaValM
import Derived.Deep.QuietTactic
import Derived.BigQuiet
import Derived.Deep.Cut
namespace Go.Proofs.Ytjbjfoingpnlmaa
open Go.RowKit
set_option linter.unusedVariables false
set_option linter.unusedSimpArgs false

theorem ret_v64 {a b : Int} (h : a = b) : Ending.returned (.int .i64 a) = .returned (.int .i64 b) := by rw [h]
theorem drop_vt {l : List VT} {k : Nat} (h : k < l.length) : ∃ t, l[k]? = some t ∧ l.drop k = t :: l.drop (k + 1) := ⟨l[k], List.getElem?_eq_getElem h, List.drop_eq_getElem_cons h⟩
/-- The cells of an element, in a world that lets them be. -/
theorem RowIs.at_ {w w' : World} {b off j : Nat} {t : VT} {l : List VT} (h : RowIs w (some ⟨b, off, none⟩) j (t :: l)) (hc : Chg NoS w w') : ∃ (ek en : Int) (es : ByteArray) (eA : Option Addr) (el ec : Nat),
    w'.cell? ⟨b, off + j * 4, none⟩ = some (.int .i64 ek) ∧ w'.cell? ⟨b, off + j * 4 + 1, none⟩ = some (.int .i64 en) ∧ w'.cell? ⟨b, off + j * 4 + 2, none⟩ = some (.string es) ∧ w'.cell? ⟨b, off + j * 4 + 3, none⟩ = some (.slice eA el ec) ∧ ValIs w' t ⟨ek, en, es, eA, el, ec⟩ ∧ RowIs w (some ⟨b, off, none⟩) (j + 1) l := by
  obtain ⟨⟨ek, en, es, eA, el, ec⟩, h0, h1, h2, h3, hv, hr⟩ := h.plain
  refine ⟨ek, en, es, eA, el, ec, ?_, ?_, ?_, ?_, hv.chg hc, hr⟩
  · exact (hc.cell (p := ⟨b, _, none⟩) (by exact cell_lt h0) (fun e => e)).trans h0
  · exact (hc.cell (p := ⟨b, _, none⟩) (by exact cell_lt h1) (fun e => e)).trans h1
  · exact (hc.cell (p := ⟨b, _, none⟩) (by exact cell_lt h2) (fun e => e)).trans h2
  · exact (hc.cell (p := ⟨b, _, none⟩) (by exact cell_lt h3) (fun e => e)).trans h3

set_option maxHeartbeats 2000000 in
set_option maxRecDepth 100000 in
theorem rfew_in : ∀ (N : Nat) (t : VT), sizT t ≤ N → ∀ (c : VC) (left : Int) (w : World), ValIs w t c → -1 ≤ left → left ≤ 1000000000 →
    Calls Try.prog 30 #[c.val, .int .i64 left] w fun e w' => e = .returned (.int .i64 (fewT t left)) ∧ Chg NoS w w' := by
  intro N
  induction N with
  | zero =>
    intro t ht
    obtain ⟨k, n, s, l⟩ := t
    rw [sizT_mk] at ht
    omega
  | succ N ih =>
    intro t ht c left w hv hb1 hb2
    obtain ⟨tk, tn, ts, l⟩ := t
    obtain ⟨h1, h2, h3, hg, hl, hr⟩ := hv.inv
    obtain ⟨ck, cn, cs, A, len, cap⟩ := c
    simp only [] at h1 h2 h3 hl hr
    rw [sizT_mk] at ht
    have hcap := hg.cap
    have hlm := hg.len
    simp only [] at hcap hlm
    unfold maxLen at hlm
    have HL := keepf hl
    have HR := keepf hr
    have HF := keepf (show fewT (.mk tk tn ts l) left = fewL l (left - 1) from by rw [fewT])
    have HIH := keepf (fun (t' : VT) (ht' : sizT t' ≤ sizL l) => ih t' (by omega))
    unfold VC.val
    have HB := keepf (Blk.new w 24 #[.int .i64 ck, .int .i64 cn, .string cs, .slice A len cap])
    have HC0 := keepf ((Chg.refl NoS w).alloc (.cells #[.int .i64 ck, .int .i64 cn, .string cs, .slice A len cap] 24))
    obtain ⟨W0, hW⟩ : ∃ W0, W0 = w.alloc (.cells #[.int .i64 ck, .int .i64 cn, .string cs, .slice A len cap] 24) := ⟨_, rfl⟩
    obtain ⟨g, hgg⟩ : ∃ g, g = w.heap.size := ⟨_, rfl⟩
    rw [← hW] at HB HC0
    rw [← hgg] at HB
    clear hv h1 h2 h3 hg hl hr ih ht
    go_enter Try.func30, Try.ntmps30
    go_upto_region 3 with fail
    rw [← hgg, ← hW]
    clear hgg hW
    go_loopw [1, 5] (fun vl vk wr => ∃ (k : Nat) (le : Int), k ≤ len ∧ -2 ≤ le ∧ le ≤ 1000000000 ∧ vl = .int .i64 le ∧ vk = .int .i64 (k : Nat) ∧ Hid (Chg NoS W0 wr) ∧ Hid (RowIs w A k (l.drop k)) ∧ Hid (fewL l (left - 1) = fewL (l.drop k) le)) (fun _ vk _ => len - (intOf vk).toNat)
    case atStart => exact ⟨0, left - 1, by omega, by omega, by omega, rfl, rfl, Chg.refl _ _, by rw [List.drop_zero]; exact HR.out, keepf (by rw [List.drop_zero])⟩
    case round =>
      obtain ⟨k, le, hk, hle1, hle2, rfl, rfl, HCW, HRW, HFW⟩ := hrel
      have HBW := keepf (HB.out.chg HCW.out (fun e => e))
      have HCR := keepf (HC0.out.trans HCW.out (fun _ _ e => e))
      have q3 := HBW.out.cell 3
      simp at q3
      by_cases h1 : k < len
      · by_cases h2 : 0 ≤ le
        · obtain ⟨t', ht', hd⟩ := drop_vt (l := l) (k := k) (by rw [HL.out]; exact h1)
          obtain ⟨b, off, rfl⟩ : ∃ b off, A = some ⟨b, off, none⟩ := by
            have h := HR.out
            cases hll : l with
            | nil => rw [hll] at ht'; simp at ht'
            | cons t0 l0 => rw [hll] at h; exact h.start
          have hrw := HRW.out
          rw [hd] at hrw
          obtain ⟨ek, en, es, eA, el, ec, c0, c1, c2, c3, hv', hr'⟩ := hrw.at_ HCR.out
          have hge := (fewT_ge t' le (by omega)).2 h2
          have hlt := fewT_le t' le
          have HX := keepf (HIH.out t' (sizL_at ht') ⟨ek, en, es, eA, el, ec⟩ le wr hv' (by omega) hle2)
          unfold VC.val at HX
          simp only [] at HX
          have HRN := keepf hr'
          have HFN := keepf (show fewL l (left - 1) = fewL (l.drop (k + 1)) (fewT t' le) from by rw [HFW.out, hd, fewL_cons, if_pos h2])
          obtain ⟨r, hr9⟩ : ∃ r, r = fewT t' le := ⟨_, rfl⟩
          rw [← hr9] at HX HFN hge hlt
          have i1 : (k : Int) < len := by omega
          clear hrw hv' hr' hd ht' hr9
          go_wp2_with (go_at_call 30; refine HX.out.mono ?_; rintro e w3 ⟨rfl, hc3⟩; have HC3 := keepf (HCW.out.trans hc3 (fun _ _ e => e)); clear hc3)
          go_roundw
          case rel => exact ⟨k + 1, r, by omega, by omega, by omega, rfl, by go_num, HC3, HRN, HFN⟩
          case measure => simp [intOf]; omega
        · have d1 : decide (0 ≤ le) = false := by simpa using h2
          have HE := keepf (fewL_neg (l.drop k) h2)
          clear h2
          go_wp2_with fail
          go_ret
          exact ⟨ret_v64 (by rw [HF.out, HFW.out, HE.out]), HCR.out⟩
      · obtain rfl : k = len := by omega
        have HE := keepf (show fewL (l.drop k) le = le from by rw [List.drop_of_length_le (by rw [HL.out]; exact Nat.le_refl _), fewL])
        go_wp2_with fail
        go_ret
        exact ⟨ret_v64 (by rw [HF.out, HFW.out, HE.out]), HCR.out⟩
theorem rfew_any (t : VT) (c : VC) (left : Int) (w : World) (hv : ValIs w t c) (h1 : -1 ≤ left) (h2 : left ≤ 1000000000) :
    Calls Try.prog 30 #[c.val, .int .i64 left] w fun e w' => e = .returned (.int .i64 (fewT t left)) ∧ Chg NoS w w' := rfew_in _ t (Nat.le_refl _) c left w hv h1 h2
set_option maxHeartbeats 1000000 in
theorem rholds_any (c : VC) (w : World) : Calls Try.prog 36 #[c.val] w fun e w' => e = .returned (.bool (decide (c.k = 6 ∨ c.k = 7))) ∧ Chg NoS w w' := by
  obtain ⟨ck, cn, cs, A, len, cap⟩ := c
  unfold VC.val
  simp only []
  by_cases h6 : ck = 6
  · subst h6
    go_enter Try.func36, Try.ntmps36
    go_wp2_with fail
    go_ret
    exact ⟨by simp, (Chg.refl NoS w).alloc _⟩
  · have e6 : (ck == 6) = false := by simpa using h6
    by_cases h7 : ck = 7
    · subst h7
      go_enter Try.func36, Try.ntmps36
      go_wp2_with fail
      go_ret
      exact ⟨by simp, (Chg.refl NoS w).alloc _⟩
    · have e7 : (ck == 7) = false := by simpa using h7
      have HD := keepf (show decide (ck = 6 ∨ ck = 7) = false from by simp [h6, h7])
      clear h6 h7
      go_enter Try.func36, Try.ntmps36
      go_wp2_with fail
      go_ret
      exact ⟨by rw [HD.out]; rfl, (Chg.refl NoS w).alloc _⟩

set_option maxHeartbeats 2000000 in
set_option maxRecDepth 100000 in
theorem rdepth_in : ∀ (N : Nat) (t : VT), sizT t ≤ N → N ≤ 1000000000 → ∀ (c : VC) (w : World), ValIs w t c →
    Calls Try.prog 13 #[c.val] w fun e w' => e = .returned (.int .i64 (depthT t : Nat)) ∧ Chg NoS w w' := by
  intro N
  induction N with
  | zero =>
    intro t ht
    obtain ⟨k, n, s, l⟩ := t
    rw [sizT_mk] at ht
    omega
  | succ N ih =>
    intro t ht hN c w hv
    obtain ⟨tk, tn, ts, l⟩ := t
    obtain ⟨h1, h2, h3, hg, hl, hr⟩ := hv.inv
    have HH := keepf (fun (W : World) => rholds_any c W)
    obtain ⟨ck, cn, cs, A, len, cap⟩ := c
    simp only [] at h1 h2 h3 hl hr
    subst h1
    rw [sizT_mk] at ht
    have hcap := hg.cap
    have hlm := hg.len
    simp only [] at hcap hlm
    unfold maxLen at hlm
    have HL := keepf hl
    have HR := keepf hr
    have HIH := keepf (fun (t' : VT) (ht' : sizT t' ≤ sizL l) => ih t' (by omega) (by omega))
    unfold VC.val at HH
    unfold VC.val
    simp only [] at HH ⊢
    have HB := keepf (Blk.new w 24 #[.int .i64 ck, .int .i64 cn, .string cs, .slice A len cap])
    have HC0 := keepf ((Chg.refl NoS w).alloc (.cells #[.int .i64 ck, .int .i64 cn, .string cs, .slice A len cap] 24))
    obtain ⟨W0, hW⟩ : ∃ W0, W0 = w.alloc (.cells #[.int .i64 ck, .int .i64 cn, .string cs, .slice A len cap] 24) := ⟨_, rfl⟩
    obtain ⟨g, hgg⟩ : ∃ g, g = w.heap.size := ⟨_, rfl⟩
    rw [← hW] at HB HC0
    rw [← hgg] at HB
    have p0 := HB.out.cell 0
    have p1 := HB.out.cell 1
    have p2 := HB.out.cell 2
    have p3 := HB.out.cell 3
    simp at p0 p1 p2 p3
    have hsz : sizL l ≤ 1000000000 := by omega
    clear hv h2 h3 hg hl hr ih ht
    by_cases h67 : ck = 6 ∨ ck = 7
    · have HD := keepf (show depthT (.mk ck tn ts l) = depthL 1 l from by rw [depthT, if_pos h67])
      have hdl := (depthL_le l 1 (Nat.le_refl _)).2
      rw [show decide (ck = 6 ∨ ck = 7) = true from by simpa using h67] at HH
      clear h67
      go_enter Try.func13, Try.ntmps13
      go_upto_region 1 with fail
      rw [← hgg, ← hW]
      clear hgg hW
      go_upto_region 5 with (go_at_call 36; refine (HH.out _).mono ?_; rintro e w2 ⟨rfl, hc2⟩; have HC2 := keepf hc2; clear hc2)
      clear p0 p1 p2 p3
      go_loopw [3, 4] (fun vd vk wr => ∃ (k d : Nat), k ≤ len ∧ 1 ≤ d ∧ d ≤ 1000000001 ∧ vd = .int .i64 (d : Nat) ∧ vk = .int .i64 (k : Nat) ∧ Hid (Chg NoS W0 wr) ∧ Hid (RowIs w A k (l.drop k)) ∧ Hid (depthL 1 l = depthL d (l.drop k))) (fun _ vk _ => len - (intOf vk).toNat)
      case atStart => exact ⟨0, 1, by omega, by omega, by omega, rfl, rfl, HC2, by rw [List.drop_zero]; exact HR.out, keepf (by rw [List.drop_zero])⟩
      case round =>
        obtain ⟨k, d, hk, hd1, hd2, rfl, rfl, HCW, HRW, HFW⟩ := hrel
        have HBW := keepf (HB.out.chg HCW.out (fun e => e))
        have HCR := keepf (HC0.out.trans HCW.out (fun _ _ e => e))
        have q3 := HBW.out.cell 3
        simp at q3
        by_cases h1 : k < len
        · obtain ⟨t', ht', hd⟩ := drop_vt (l := l) (k := k) (by rw [HL.out]; exact h1)
          obtain ⟨b, off, rfl⟩ : ∃ b off, A = some ⟨b, off, none⟩ := by
            have h := HR.out
            cases hll : l with
            | nil => rw [hll] at ht'; simp at ht'
            | cons t0 l0 => rw [hll] at h; exact h.start
          have hrw := HRW.out
          rw [hd] at hrw
          obtain ⟨ek, en, es, eA, el, ec, c0, c1, c2, c3, hv', hr'⟩ := hrw.at_ HCR.out
          have hdl2 := (depthT_le t').2
          have hsl := sizL_at ht'
          have HX := keepf (HIH.out t' (sizL_at ht') ⟨ek, en, es, eA, el, ec⟩ wr hv')
          unfold VC.val at HX
          simp only [] at HX
          have HRN := keepf hr'
          have HFN := keepf (show depthL 1 l = depthL (if d < depthT t' + 1 then depthT t' + 1 else d) (l.drop (k + 1)) from by rw [HFW.out, hd, depthL_cons])
          have hr8 : depthT t' ≤ 1000000000 := by omega
          obtain ⟨r, hr9⟩ : ∃ r, r = depthT t' := ⟨_, rfl⟩
          rw [← hr9] at HX HFN hr8
          have i1 : (k : Int) < len := by omega
          clear hrw hv' hr' hd ht' hr9 hdl2 hsl hdl hsz
          by_cases h5 : d < r + 1
          · have HFM := keepf (show depthL 1 l = depthL (r + 1) (l.drop (k + 1)) from by rw [HFN.out, if_pos h5])
            have d5 : decide ((d : Int) < (r : Int) + 1) = true := by simp; omega
            clear h5
            go_wp2_with (go_at_call 13; refine HX.out.mono ?_; rintro e w3 ⟨rfl, hc3⟩; have HC3 := keepf (HCW.out.trans hc3 (fun _ _ e => e)); clear hc3)
            go_roundw
            case rel => exact ⟨k + 1, r + 1, by omega, by omega, by omega, by go_num, by go_num, HC3, HRN, HFM⟩
            case measure => simp [intOf]; omega
          · have HFM := keepf (show depthL 1 l = depthL d (l.drop (k + 1)) from by rw [HFN.out, if_neg h5])
            have d5 : decide ((d : Int) < (r : Int) + 1) = false := by simp; omega
            clear h5
            go_wp2_with (go_at_call 13; refine HX.out.mono ?_; rintro e w3 ⟨rfl, hc3⟩; have HC3 := keepf (HCW.out.trans hc3 (fun _ _ e => e)); clear hc3)
            go_roundw
            case rel => exact ⟨k + 1, d, by omega, by omega, by omega, rfl, by go_num, HC3, HRN, HFM⟩
            case measure => simp [intOf]; omega
        · obtain rfl : k = len := by omega
          have HE := keepf (show depthL d (l.drop k) = d from by rw [List.drop_of_length_le (by rw [HL.out]; exact Nat.le_refl _), depthL])
          go_wp2_with fail
          go_ret
          exact ⟨ret_v64 (by rw [HD.out, HFW.out, HE.out]), HCR.out⟩
    · have HD := keepf (show depthT (.mk ck tn ts l) = 1 from by rw [depthT, if_neg h67])
      rw [show decide (ck = 6 ∨ ck = 7) = false from by simpa using h67] at HH
      clear h67
      go_enter Try.func13, Try.ntmps13
      go_upto_region 1 with fail
      rw [← hgg, ← hW]
      clear hgg hW
      go_wp2_with (go_at_call 36; refine (HH.out _).mono ?_; rintro e w2 ⟨rfl, hc2⟩; have HC2 := keepf hc2; clear hc2)
      go_ret
      exact ⟨ret_v64 (by rw [HD.out]; rfl), HC0.out.trans HC2.out (fun _ _ e => e)⟩
theorem rdepth_any (t : VT) (c : VC) (w : World) (hv : ValIs w t c) (hs : sizT t ≤ 1000000000) :
    Calls Try.prog 13 #[c.val] w fun e w' => e = .returned (.int .i64 (depthT t : Nat)) ∧ Chg NoS w w' := rdepth_in _ t (Nat.le_refl _) hs c w hv
end Go.Proofs.Ytjbjfoingpnlmaa
