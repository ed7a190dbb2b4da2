/- Merged by program: RVt1 RTxt RPad RChk RVt3. -/
import Derived.Test.YtcehpobjnbgpdaaGreatDoorG01
import Derived.Test.YtcehpobjnbgpdaaGreatDoorG02
import Derived.Deep.QuietTactic
import Derived.BigQuiet
import Derived.Deep.Cut
import Derived.Test.YtcehpobjnbgpdaaGreatDoorProg
import Derived.WalkKit
import Derived.WalkMore
import Derived.Laws.DeepStrings4
import Derived.Sort.Walk0
import Derived.Laws.Cover1
/- The document's own functions of values: how many there are in one another, and how deep. -/
namespace Go.Proofs.YtcehpobjnbgpdaaGreatDoor
open Go.RowKit
set_option linter.unusedVariables false
set_option linter.unusedSimpArgs false

theorem ret_v64 {a b : Int} (h : a = b) : Ending.returned (.int .i64 a) = .returned (.int .i64 b) := by rw [h]

theorem drop_vt {l : List VT} {k : Nat} (h : k < l.length) : ∃ t, l[k]? = some t ∧ l.drop k = t :: l.drop (k + 1) := ⟨l[k], List.getElem?_eq_getElem h, List.drop_eq_getElem_cons h⟩

/-- The cells of an element, in a world that lets them be. -/
theorem RowIs.at_ {w w' : World} {b off j : Nat} {t : VT} {l : List VT} (h : RowIs w (some ⟨b, off, none⟩) j (t :: l)) (hc : Chg NoS w w') : ∃ (ek en : Int) (es : ByteArray) (eA : Option Addr) (el ec : Nat),
    w'.cell? ⟨b, off + j * 4, none⟩ = some (.int .i64 ek) ∧ w'.cell? ⟨b, off + j * 4 + 1, none⟩ = some (.int .i64 en) ∧ w'.cell? ⟨b, off + j * 4 + 2, none⟩ = some (.string es) ∧ w'.cell? ⟨b, off + j * 4 + 3, none⟩ = some (.slice eA el ec) ∧ ValIs w' t ⟨ek, en, es, eA, el, ec⟩ ∧ RowIs w (some ⟨b, off, none⟩) (j + 1) l := by
  obtain ⟨⟨ek, en, es, eA, el, ec⟩, h0, h1, h2, h3, hv, hr⟩ := h.plain
  refine ⟨ek, en, es, eA, el, ec, ?_, ?_, ?_, ?_, hv.chg hc, hr⟩
  · exact (hc.cell (p := ⟨b, _, none⟩) (by exact cell_lt h0) (fun e => e)).trans h0
  · exact (hc.cell (p := ⟨b, _, none⟩) (by exact cell_lt h1) (fun e => e)).trans h1
  · exact (hc.cell (p := ⟨b, _, none⟩) (by exact cell_lt h2) (fun e => e)).trans h2
  · exact (hc.cell (p := ⟨b, _, none⟩) (by exact cell_lt h3) (fun e => e)).trans h3

set_option maxHeartbeats 2000000 in
set_option maxRecDepth 100000 in
theorem rfew_in : ∀ (N : Nat) (t : VT), sizT t ≤ N → ∀ (c : VC) (left : Int) (w : World), ValIs w t c → -1 ≤ left → left ≤ 1000000000 →
    Calls Tryz.prog 19 #[c.val, .int .i64 left] w fun e w' => e = .returned (.int .i64 (fewT t left)) ∧ Chg NoS w w' := by
  intro N
  induction N with
  | zero =>
    intro t ht
    obtain ⟨k, n, s, l⟩ := t
    rw [sizT_mk] at ht
    omega
  | succ N ih =>
    intro t ht c left w hv hb1 hb2
    obtain ⟨tk, tn, ts, l⟩ := t
    obtain ⟨h1, h2, h3, hg, hl, hr⟩ := hv.inv
    obtain ⟨ck, cn, cs, A, len, cap⟩ := c
    simp only [] at h1 h2 h3 hl hr
    rw [sizT_mk] at ht
    have hcap := hg.cap
    have hlm := hg.len
    simp only [] at hcap hlm
    unfold maxLen at hlm
    have HL := keepf hl
    have HR := keepf hr
    have HF := keepf (show fewT (.mk tk tn ts l) left = fewL l (left - 1) from by rw [fewT])
    have HIH := keepf (fun (t' : VT) (ht' : sizT t' ≤ sizL l) => ih t' (by omega))
    unfold VC.val
    have HB := keepf (Blk.new w 24 #[.int .i64 ck, .int .i64 cn, .string cs, .slice A len cap])
    have HC0 := keepf ((Chg.refl NoS w).alloc (.cells #[.int .i64 ck, .int .i64 cn, .string cs, .slice A len cap] 24))
    obtain ⟨W0, hW⟩ : ∃ W0, W0 = w.alloc (.cells #[.int .i64 ck, .int .i64 cn, .string cs, .slice A len cap] 24) := ⟨_, rfl⟩
    obtain ⟨g, hgg⟩ : ∃ g, g = w.heap.size := ⟨_, rfl⟩
    rw [← hW] at HB HC0
    rw [← hgg] at HB
    clear hv h1 h2 h3 hg hl hr ih ht
    go_enter Tryz.func19, Tryz.ntmps19
    go_upto_region 3 with fail
    rw [← hgg, ← hW]
    clear hgg hW
    go_loopw [1, 5] (fun vl vk wr => ∃ (k : Nat) (le : Int), k ≤ len ∧ -2 ≤ le ∧ le ≤ 1000000000 ∧ vl = .int .i64 le ∧ vk = .int .i64 (k : Nat) ∧ Hid (Chg NoS W0 wr) ∧ Hid (RowIs w A k (l.drop k)) ∧ Hid (fewL l (left - 1) = fewL (l.drop k) le)) (fun _ vk _ => len - (intOf vk).toNat)
    case atStart => exact ⟨0, left - 1, by omega, by omega, by omega, rfl, rfl, Chg.refl _ _, by rw [List.drop_zero]; exact HR.out, keepf (by rw [List.drop_zero])⟩
    case round =>
      obtain ⟨k, le, hk, hle1, hle2, rfl, rfl, HCW, HRW, HFW⟩ := hrel
      have HBW := keepf (HB.out.chg HCW.out (fun e => e))
      have HCR := keepf (HC0.out.trans HCW.out (fun _ _ e => e))
      have q3 := HBW.out.cell 3
      simp at q3
      by_cases h1 : k < len
      · by_cases h2 : 0 ≤ le
        · obtain ⟨t', ht', hd⟩ := drop_vt (l := l) (k := k) (by rw [HL.out]; exact h1)
          obtain ⟨b, off, rfl⟩ : ∃ b off, A = some ⟨b, off, none⟩ := by
            have h := HR.out
            cases hll : l with
            | nil => rw [hll] at ht'; simp at ht'
            | cons t0 l0 => rw [hll] at h; exact h.start
          have hrw := HRW.out
          rw [hd] at hrw
          obtain ⟨ek, en, es, eA, el, ec, c0, c1, c2, c3, hv', hr'⟩ := hrw.at_ HCR.out
          have hge := (fewT_ge t' le (by omega)).2 h2
          have hlt := fewT_le t' le
          have HX := keepf (HIH.out t' (sizL_at ht') ⟨ek, en, es, eA, el, ec⟩ le wr hv' (by omega) hle2)
          unfold VC.val at HX
          simp only [] at HX
          have HRN := keepf hr'
          have HFN := keepf (show fewL l (left - 1) = fewL (l.drop (k + 1)) (fewT t' le) from by rw [HFW.out, hd, fewL_cons, if_pos h2])
          obtain ⟨r, hr9⟩ : ∃ r, r = fewT t' le := ⟨_, rfl⟩
          rw [← hr9] at HX HFN hge hlt
          have i1 : (k : Int) < len := by omega
          clear hrw hv' hr' hd ht' hr9
          go_wp2_with (go_at_call 19; refine HX.out.mono ?_; rintro e w3 ⟨rfl, hc3⟩; have HC3 := keepf (HCW.out.trans hc3 (fun _ _ e => e)); clear hc3)
          go_roundw
          case rel => exact ⟨k + 1, r, by omega, by omega, by omega, rfl, by go_num, HC3, HRN, HFN⟩
          case measure => simp [intOf]; omega
        · have d1 : decide (0 ≤ le) = false := by simpa using h2
          have HE := keepf (fewL_neg (l.drop k) h2)
          clear h2
          go_wp2_with fail
          go_ret
          exact ⟨ret_v64 (by rw [HF.out, HFW.out, HE.out]), HCR.out⟩
      · obtain rfl : k = len := by omega
        have HE := keepf (show fewL (l.drop k) le = le from by rw [List.drop_of_length_le (by rw [HL.out]; exact Nat.le_refl _), fewL])
        go_wp2_with fail
        go_ret
        exact ⟨ret_v64 (by rw [HF.out, HFW.out, HE.out]), HCR.out⟩

theorem rfew_any (t : VT) (c : VC) (left : Int) (w : World) (hv : ValIs w t c) (h1 : -1 ≤ left) (h2 : left ≤ 1000000000) :
    Calls Tryz.prog 19 #[c.val, .int .i64 left] w fun e w' => e = .returned (.int .i64 (fewT t left)) ∧ Chg NoS w w' := rfew_in _ t (Nat.le_refl _) c left w hv h1 h2

set_option maxHeartbeats 1000000 in
theorem rholds_any (c : VC) (w : World) : Calls Tryz.prog 89 #[c.val] w fun e w' => e = .returned (.bool (decide (c.k = 6 ∨ c.k = 7))) ∧ Chg NoS w w' := by
  obtain ⟨ck, cn, cs, A, len, cap⟩ := c
  unfold VC.val
  simp only []
  by_cases h6 : ck = 6
  · subst h6
    go_enter Tryz.func89, Tryz.ntmps89
    go_wp2_with fail
    go_ret
    exact ⟨by simp, (Chg.refl NoS w).alloc _⟩
  · have e6 : (ck == 6) = false := by simpa using h6
    by_cases h7 : ck = 7
    · subst h7
      go_enter Tryz.func89, Tryz.ntmps89
      go_wp2_with fail
      go_ret
      exact ⟨by simp, (Chg.refl NoS w).alloc _⟩
    · have e7 : (ck == 7) = false := by simpa using h7
      have HD := keepf (show decide (ck = 6 ∨ ck = 7) = false from by simp [h6, h7])
      clear h6 h7
      go_enter Tryz.func89, Tryz.ntmps89
      go_wp2_with fail
      go_ret
      exact ⟨by rw [HD.out]; rfl, (Chg.refl NoS w).alloc _⟩

set_option maxHeartbeats 2000000 in
set_option maxRecDepth 100000 in
theorem rdepth_in : ∀ (N : Nat) (t : VT), sizT t ≤ N → N ≤ 1000000000 → ∀ (c : VC) (w : World), ValIs w t c →
    Calls Tryz.prog 53 #[c.val] w fun e w' => e = .returned (.int .i64 (depthT t : Nat)) ∧ Chg NoS w w' := by
  intro N
  induction N with
  | zero =>
    intro t ht
    obtain ⟨k, n, s, l⟩ := t
    rw [sizT_mk] at ht
    omega
  | succ N ih =>
    intro t ht hN c w hv
    obtain ⟨tk, tn, ts, l⟩ := t
    obtain ⟨h1, h2, h3, hg, hl, hr⟩ := hv.inv
    have HH := keepf (fun (W : World) => rholds_any c W)
    obtain ⟨ck, cn, cs, A, len, cap⟩ := c
    simp only [] at h1 h2 h3 hl hr
    subst h1
    rw [sizT_mk] at ht
    have hcap := hg.cap
    have hlm := hg.len
    simp only [] at hcap hlm
    unfold maxLen at hlm
    have HL := keepf hl
    have HR := keepf hr
    have HIH := keepf (fun (t' : VT) (ht' : sizT t' ≤ sizL l) => ih t' (by omega) (by omega))
    unfold VC.val at HH
    unfold VC.val
    simp only [] at HH ⊢
    have HB := keepf (Blk.new w 24 #[.int .i64 ck, .int .i64 cn, .string cs, .slice A len cap])
    have HC0 := keepf ((Chg.refl NoS w).alloc (.cells #[.int .i64 ck, .int .i64 cn, .string cs, .slice A len cap] 24))
    obtain ⟨W0, hW⟩ : ∃ W0, W0 = w.alloc (.cells #[.int .i64 ck, .int .i64 cn, .string cs, .slice A len cap] 24) := ⟨_, rfl⟩
    obtain ⟨g, hgg⟩ : ∃ g, g = w.heap.size := ⟨_, rfl⟩
    rw [← hW] at HB HC0
    rw [← hgg] at HB
    have p0 := HB.out.cell 0
    have p1 := HB.out.cell 1
    have p2 := HB.out.cell 2
    have p3 := HB.out.cell 3
    simp at p0 p1 p2 p3
    have hsz : sizL l ≤ 1000000000 := by omega
    clear hv h2 h3 hg hl hr ih ht
    by_cases h67 : ck = 6 ∨ ck = 7
    · have HD := keepf (show depthT (.mk ck tn ts l) = depthL 1 l from by rw [depthT, if_pos h67])
      have hdl := (depthL_le l 1 (Nat.le_refl _)).2
      rw [show decide (ck = 6 ∨ ck = 7) = true from by simpa using h67] at HH
      clear h67
      go_enter Tryz.func53, Tryz.ntmps53
      go_upto_region 1 with fail
      rw [← hgg, ← hW]
      clear hgg hW
      go_upto_region 5 with (go_at_call 89; refine (HH.out _).mono ?_; rintro e w2 ⟨rfl, hc2⟩; have HC2 := keepf hc2; clear hc2)
      clear p0 p1 p2 p3
      go_loopw [3, 4] (fun vd vk wr => ∃ (k d : Nat), k ≤ len ∧ 1 ≤ d ∧ d ≤ 1000000001 ∧ vd = .int .i64 (d : Nat) ∧ vk = .int .i64 (k : Nat) ∧ Hid (Chg NoS W0 wr) ∧ Hid (RowIs w A k (l.drop k)) ∧ Hid (depthL 1 l = depthL d (l.drop k))) (fun _ vk _ => len - (intOf vk).toNat)
      case atStart => exact ⟨0, 1, by omega, by omega, by omega, rfl, rfl, HC2, by rw [List.drop_zero]; exact HR.out, keepf (by rw [List.drop_zero])⟩
      case round =>
        obtain ⟨k, d, hk, hd1, hd2, rfl, rfl, HCW, HRW, HFW⟩ := hrel
        have HBW := keepf (HB.out.chg HCW.out (fun e => e))
        have HCR := keepf (HC0.out.trans HCW.out (fun _ _ e => e))
        have q3 := HBW.out.cell 3
        simp at q3
        by_cases h1 : k < len
        · obtain ⟨t', ht', hd⟩ := drop_vt (l := l) (k := k) (by rw [HL.out]; exact h1)
          obtain ⟨b, off, rfl⟩ : ∃ b off, A = some ⟨b, off, none⟩ := by
            have h := HR.out
            cases hll : l with
            | nil => rw [hll] at ht'; simp at ht'
            | cons t0 l0 => rw [hll] at h; exact h.start
          have hrw := HRW.out
          rw [hd] at hrw
          obtain ⟨ek, en, es, eA, el, ec, c0, c1, c2, c3, hv', hr'⟩ := hrw.at_ HCR.out
          have hdl2 := (depthT_le t').2
          have hsl := sizL_at ht'
          have HX := keepf (HIH.out t' (sizL_at ht') ⟨ek, en, es, eA, el, ec⟩ wr hv')
          unfold VC.val at HX
          simp only [] at HX
          have HRN := keepf hr'
          have HFN := keepf (show depthL 1 l = depthL (if d < depthT t' + 1 then depthT t' + 1 else d) (l.drop (k + 1)) from by rw [HFW.out, hd, depthL_cons])
          have hr8 : depthT t' ≤ 1000000000 := by omega
          obtain ⟨r, hr9⟩ : ∃ r, r = depthT t' := ⟨_, rfl⟩
          rw [← hr9] at HX HFN hr8
          have i1 : (k : Int) < len := by omega
          clear hrw hv' hr' hd ht' hr9 hdl2 hsl hdl hsz
          by_cases h5 : d < r + 1
          · have HFM := keepf (show depthL 1 l = depthL (r + 1) (l.drop (k + 1)) from by rw [HFN.out, if_pos h5])
            have d5 : decide ((d : Int) < (r : Int) + 1) = true := by simp; omega
            clear h5
            go_wp2_with (go_at_call 53; refine HX.out.mono ?_; rintro e w3 ⟨rfl, hc3⟩; have HC3 := keepf (HCW.out.trans hc3 (fun _ _ e => e)); clear hc3)
            go_roundw
            case rel => exact ⟨k + 1, r + 1, by omega, by omega, by omega, by go_num, by go_num, HC3, HRN, HFM⟩
            case measure => simp [intOf]; omega
          · have HFM := keepf (show depthL 1 l = depthL d (l.drop (k + 1)) from by rw [HFN.out, if_neg h5])
            have d5 : decide ((d : Int) < (r : Int) + 1) = false := by simp; omega
            clear h5
            go_wp2_with (go_at_call 53; refine HX.out.mono ?_; rintro e w3 ⟨rfl, hc3⟩; have HC3 := keepf (HCW.out.trans hc3 (fun _ _ e => e)); clear hc3)
            go_roundw
            case rel => exact ⟨k + 1, d, by omega, by omega, by omega, rfl, by go_num, HC3, HRN, HFM⟩
            case measure => simp [intOf]; omega
        · obtain rfl : k = len := by omega
          have HE := keepf (show depthL d (l.drop k) = d from by rw [List.drop_of_length_le (by rw [HL.out]; exact Nat.le_refl _), depthL])
          go_wp2_with fail
          go_ret
          exact ⟨ret_v64 (by rw [HD.out, HFW.out, HE.out]), HCR.out⟩
    · have HD := keepf (show depthT (.mk ck tn ts l) = 1 from by rw [depthT, if_neg h67])
      rw [show decide (ck = 6 ∨ ck = 7) = false from by simpa using h67] at HH
      clear h67
      go_enter Tryz.func53, Tryz.ntmps53
      go_upto_region 1 with fail
      rw [← hgg, ← hW]
      clear hgg hW
      go_wp2_with (go_at_call 89; refine (HH.out _).mono ?_; rintro e w2 ⟨rfl, hc2⟩; have HC2 := keepf hc2; clear hc2)
      go_ret
      exact ⟨ret_v64 (by rw [HD.out]; rfl), HC0.out.trans HC2.out (fun _ _ e => e)⟩

theorem rdepth_any (t : VT) (c : VC) (w : World) (hv : ValIs w t c) (hs : sizT t ≤ 1000000000) :
    Calls Tryz.prog 53 #[c.val] w fun e w' => e = .returned (.int .i64 (depthT t : Nat)) ∧ Chg NoS w w' := rdepth_in _ t (Nat.le_refl _) hs c w hv

end Go.Proofs.YtcehpobjnbgpdaaGreatDoor

/- The document's own digits of a number, and Pad. -/
namespace Go.Proofs.YtcehpobjnbgpdaaGreatDoor
open Go.RowKit
set_option linter.unusedVariables false
set_option linter.unusedSimpArgs false

theorem dig_extract : ∀ d, d < 10 → (ByteArray.mk #[48, 49, 50, 51, 52, 53, 54, 55, 56, 57]).extract d (d + 1) = sb [48 + d] := by
  intro d h
  rcases d with _ | _ | _ | _ | _ | _ | _ | _ | _ | _ | d
  all_goals first
    | rfl
    | decide
    | omega

set_option maxHeartbeats 1000000 in
theorem rtext_any (n least : Nat) (w : World) (hn : n < 10 ^ 20) (hn63 : n ≤ 9223372036854775807) (hl : least ≤ 20) :
    Calls Tryz.prog 92 #[.int .i64 (n : Nat), .int .i64 (least : Nat)] w fun e w' => e = .returned (.string (sb (txt n least))) ∧ w = w' := by
  have HT := keepf hn
  clear hn
  go_enter Tryz.func92, Tryz.ntmps92
  go_wp2_with fail
  go_loop [0, 5, 6, 7] (fun vm vs vk vd => ∃ (m k : Nat) (s : ByteArray), k ≤ 20 ∧ m ≤ 9223372036854775807 ∧ s.size = k ∧ vm = .int .i64 (m : Nat) ∧ vs = .string s ∧ vk = .int .i64 (k : Nat) ∧ Hid (∃ S : List Nat, s = sb S ∧ S.length = k ∧ m < 10 ^ (20 - k) ∧ txt n least = txt m (least - k) ++ S)) (fun _ _ vk _ => 20 - (intOf vk).toNat)
  case atStart => exact ⟨n, 0, sb [], by omega, hn63, rfl, rfl, rfl, by go_num, ⟨[], rfl, rfl, HT.out, by simp⟩⟩
  case round =>
    obtain ⟨m, k, s, hk, hm, hs, rfl, rfl, rfl, HS⟩ := hrel
    obtain ⟨d, hd⟩ : ∃ d, d = m % 10 := ⟨_, rfl⟩
    have ed : (m : Int) % 10 = (d : Int) := by omega
    have hd10 : d < 10 := by omega
    obtain ⟨q, hq⟩ : ∃ q, q = m / 10 := ⟨_, rfl⟩
    have eq : (m : Int) / 10 = (q : Int) := by omega
    have HDQ := keepf (⟨hd, hq⟩ : d = m % 10 ∧ q = m / 10)
    have hex := dig_extract d hd10
    have hq63 : q ≤ 9223372036854775807 := by omega
    obtain ⟨c, hc⟩ : ∃ c, c = sb [48 + d] := ⟨_, rfl⟩
    rw [← hc] at hex
    have hc1 : c.size = 1 := by rw [hc, sb_size]; rfl
    have HC := keepf hc
    clear hd hq hc
    have hstep : Hid ((m ≠ 0 ∨ k < least) → k < 20 → ∃ S : List Nat, c ++ s = sb S ∧ S.length = k + 1 ∧ q < 10 ^ (20 - (k + 1)) ∧ txt n least = txt q (least - (k + 1)) ++ S) := by
      intro h1 h2
      obtain ⟨S, rfl, h3, h4, h5⟩ := HS.out
      refine ⟨(48 + d) :: S, by rw [HC.out, sb_app]; rfl, by simp [h3], ?_, ?_⟩
      · rw [HDQ.out.2]
        have e : 10 ^ (20 - k) = 10 ^ (20 - (k + 1)) * 10 := by rw [← Nat.pow_succ]; congr 1; omega
        omega
      · rw [h5, txt_step m (least - k) (by omega), ← HDQ.out.1, ← HDQ.out.2, List.append_assoc, show least - (k + 1) = least - k - 1 from by omega]
        rfl
    have hend : Hid (¬ (m ≠ 0 ∨ k < least) ∨ ¬ k < 20 → s = sb (txt n least)) := by
      intro h1
      obtain ⟨S, rfl, h3, h4, h5⟩ := HS.out
      have h6 : m = 0 ∧ least ≤ k := by
        rcases h1 with h1 | h1
        · omega
        · obtain rfl : k = 20 := by omega
          simp at h4
          omega
      rw [h5, h6.1, show least - k = 0 from by omega, txt_none, List.nil_append]
    by_cases h20 : k < 20
    · by_cases hm0 : m = 0
      · have d1 : decide ((0 : Int) < m) = false := by simp; omega
        have d1' : decide (0 < m) = false := by simp; omega
        by_cases hkl : k < least
        · have d2 : decide ((k : Int) < least) = true := by simp; omega
          have d2' : decide (k < least) = true := by simp; omega
          have HN := keepf (hstep.out (.inr hkl) h20)
          clear hm0 hstep hend
          go_wp2_with fail
          go_round
          case rel => exact ⟨q, k + 1, c ++ s, by omega, hq63, by rw [ByteArray.size_append]; omega, rfl, rfl, by go_num, HN.out⟩
          case measure => simp [intOf]; omega
        · have d2 : decide ((k : Int) < least) = false := by simp; omega
          have d2' : decide (k < least) = false := by simp; omega
          have HE := keepf (hend.out (.inl (by omega)))
          clear hm0 hstep hend
          go_wp2_with fail
          go_ret
          rw [← HE.out]
          exact ⟨rfl, rfl⟩
      · have d1 : decide ((0 : Int) < m) = true := by simp; omega
        have d1' : decide (0 < m) = true := by simp; omega
        have HN := keepf (hstep.out (.inl hm0) h20)
        clear hm0 hstep hend
        go_wp2_with fail
        go_round
        case rel => exact ⟨q, k + 1, c ++ s, by omega, hq63, by rw [ByteArray.size_append]; omega, rfl, rfl, by go_num, HN.out⟩
        case measure => simp [intOf]; omega
    · have HE := keepf (hend.out (.inr h20))
      have d3 : decide ((k : Int) < 20) = false := by simp; omega
      have d3' : decide (k < 20) = false := by simp; omega
      clear hstep hend
      go_wp2_with fail
      go_ret
      rw [← HE.out]
      exact ⟨rfl, rfl⟩

end Go.Proofs.YtcehpobjnbgpdaaGreatDoor

/- The document's own Pad, and Check of a number. -/
namespace Go.Proofs.YtcehpobjnbgpdaaGreatDoor
open Go.RowKit
set_option linter.unusedVariables false
set_option linter.unusedSimpArgs false

/-- Digits with zeros ahead: the text, and the error. -/
def padOf (n d : Int) : List Nat × Int := if n < 0 ∨ d < 1 ∨ 20 < d ∨ d.toNat < (txt n.toNat d.toNat).length then ([], 2) else (txt n.toNat d.toNat, 0)

theorem pad_bad {n d : Int} (h : n < 0 ∨ d < 1 ∨ 20 < d ∨ d.toNat < (txt n.toNat d.toNat).length) : padOf n d = ([], 2) := if_pos h

theorem sb_nil : sb [] = ⟨#[]⟩ := rfl

end Go.Proofs.YtcehpobjnbgpdaaGreatDoor

/- The document's own Check of a number. -/
namespace Go.Proofs.YtcehpobjnbgpdaaGreatDoor
open Go.RowKit
set_option linter.unusedVariables false
set_option linter.unusedSimpArgs false

/-- May a number be? -/
def mayN (k n : Int) : Prop := (k = 2 ∧ -2147483647 ≤ n ∧ n ≤ 2147483647) ∨ (k = 3 ∧ -2147483647000000 ≤ n ∧ n ≤ 2147483647000000)

instance (k n : Int) : Decidable (mayN k n) := inferInstanceAs (Decidable (_ ∨ _))

def chkOf (k n : Int) (sz len : Nat) : Int := if sz = 0 ∧ len = 0 ∧ mayN k n then 0 else 2

theorem str_nil {s : ByteArray} (h : s.size = 0) : s = ⟨#[]⟩ := by
  obtain ⟨a⟩ := s
  have h : a.size = 0 := h
  rw [Array.eq_empty_of_size_eq_zero h]

theorem str_ne {s : ByteArray} (h : s.size ≠ 0) : ¬ s.toList = [] := by
  rw [ByteArray.toList_eq]
  obtain ⟨⟨l⟩⟩ := s
  have h : l.length ≠ 0 := h
  rcases l with _ | ⟨x, l⟩
  · simp at h
  · intro h2; cases h2

set_option maxHeartbeats 1000000 in
theorem rchk_any (k n : Int) (s : ByteArray) (A : Option Addr) (len cap : Nat) (w : World) :
    Calls Tryz.prog 91 #[.agg #[.int .i64 k, .int .i64 n, .string s, .slice A len cap]] w fun e w' => e = .returned (.int .i64 (chkOf k n s.size len)) ∧ Chg NoS w w' := by
  by_cases hs : s.size = 0
  · obtain rfl := str_nil hs
    by_cases hl : len = 0
    · subst hl
      have HB : Hid (∀ z : Int, (mayN k n ∧ z = 0) ∨ (¬ mayN k n ∧ z = 2) → chkOf k n (ByteArray.mk #[]).size 0 = z) := by
        rintro z (⟨h, rfl⟩ | ⟨h, rfl⟩)
        · exact if_pos ⟨rfl, rfl, h⟩
        · exact if_neg (fun h2 => h h2.2.2)
      by_cases h2 : k = 2
      · subst h2
        by_cases c1 : -2147483647 ≤ n
        · have d1 : decide (-2147483647 ≤ n) = true := by simpa using c1
          by_cases c2 : n ≤ 2147483647
          · have d2 : decide (n ≤ 2147483647) = true := by simpa using c2
            have HZ := keepf (HB.out 0 (.inl ⟨.inl ⟨rfl, c1, c2⟩, rfl⟩))
            go_enter Tryz.func91, Tryz.ntmps91
            go_wp2_with fail
            go_ret
            refine ⟨?_, (Chg.refl NoS w).alloc _⟩
            show _ = Ending.returned (Value.int IntKind.i64 (chkOf _ _ (ByteArray.mk #[]).size _))
            rw [HZ.out]
            rfl
          · have d2 : decide (n ≤ 2147483647) = false := by simpa using c2
            have HZ := keepf (HB.out 2 (.inr ⟨fun h => by unfold mayN at h; omega, rfl⟩))
            go_enter Tryz.func91, Tryz.ntmps91
            go_wp2_with fail
            go_ret
            refine ⟨?_, (Chg.refl NoS w).alloc _⟩
            show _ = Ending.returned (Value.int IntKind.i64 (chkOf _ _ (ByteArray.mk #[]).size _))
            rw [HZ.out]
            rfl
        · have d1 : decide (-2147483647 ≤ n) = false := by simpa using c1
          have HZ := keepf (HB.out 2 (.inr ⟨fun h => by unfold mayN at h; omega, rfl⟩))
          go_enter Tryz.func91, Tryz.ntmps91
          go_wp2_with fail
          go_ret
          refine ⟨?_, (Chg.refl NoS w).alloc _⟩
          show _ = Ending.returned (Value.int IntKind.i64 (chkOf _ _ (ByteArray.mk #[]).size _))
          rw [HZ.out]
          rfl
      · have u2 : (k == 2) = false := by simpa using h2
        by_cases h3 : k = 3
        · subst h3
          by_cases c1 : -2147483647000000 ≤ n
          · have d1 : decide (-2147483647000000 ≤ n) = true := by simpa using c1
            by_cases c2 : n ≤ 2147483647000000
            · have d2 : decide (n ≤ 2147483647000000) = true := by simpa using c2
              have HZ := keepf (HB.out 0 (.inl ⟨.inr ⟨rfl, c1, c2⟩, rfl⟩))
              clear h2 u2
              go_enter Tryz.func91, Tryz.ntmps91
              go_wp2_with fail
              go_ret
              refine ⟨?_, (Chg.refl NoS w).alloc _⟩
              show _ = Ending.returned (Value.int IntKind.i64 (chkOf _ _ (ByteArray.mk #[]).size _))
              rw [HZ.out]
              rfl
            · have d2 : decide (n ≤ 2147483647000000) = false := by simpa using c2
              have HZ := keepf (HB.out 2 (.inr ⟨fun h => by unfold mayN at h; omega, rfl⟩))
              clear h2 u2
              go_enter Tryz.func91, Tryz.ntmps91
              go_wp2_with fail
              go_ret
              refine ⟨?_, (Chg.refl NoS w).alloc _⟩
              show _ = Ending.returned (Value.int IntKind.i64 (chkOf _ _ (ByteArray.mk #[]).size _))
              rw [HZ.out]
              rfl
          · have d1 : decide (-2147483647000000 ≤ n) = false := by simpa using c1
            have HZ := keepf (HB.out 2 (.inr ⟨fun h => by unfold mayN at h; omega, rfl⟩))
            clear h2 u2
            go_enter Tryz.func91, Tryz.ntmps91
            go_wp2_with fail
            go_ret
            refine ⟨?_, (Chg.refl NoS w).alloc _⟩
            show _ = Ending.returned (Value.int IntKind.i64 (chkOf _ _ (ByteArray.mk #[]).size _))
            rw [HZ.out]
            rfl
        · have u3 : (k == 3) = false := by simpa using h3
          have HZ := keepf (HB.out 2 (.inr ⟨fun h => by unfold mayN at h; omega, rfl⟩))
          go_enter Tryz.func91, Tryz.ntmps91
          go_wp2_with fail
          go_ret
          refine ⟨?_, (Chg.refl NoS w).alloc _⟩
          show _ = Ending.returned (Value.int IntKind.i64 (chkOf _ _ (ByteArray.mk #[]).size _))
          rw [HZ.out]
          rfl
    · have u1 : ((len : Int) == 0) = false := by simp; omega
      have u1' : ((len : Int) != 0) = true := by simp; omega
      have HZ : Hid (chkOf k n (ByteArray.mk #[]).size len = 2) := if_neg (fun h => hl h.2.1)
      go_enter Tryz.func91, Tryz.ntmps91
      go_wp2_with fail
      go_ret
      refine ⟨?_, (Chg.refl NoS w).alloc _⟩
      show _ = Ending.returned (Value.int IntKind.i64 (chkOf _ _ (ByteArray.mk #[]).size _))
      rw [HZ.out]
      rfl
  · have u1 := str_ne hs
    have HZ : Hid (chkOf k n s.size len = 2) := if_neg (fun h => hs h.1)
    clear hs
    go_enter Tryz.func91, Tryz.ntmps91
    go_wp2_with fail
    go_ret
    rw [HZ.out]
    exact ⟨rfl, (Chg.refl NoS w).alloc _⟩

end Go.Proofs.YtcehpobjnbgpdaaGreatDoor

/- The document's own check of a value. -/
namespace Go.Proofs.YtcehpobjnbgpdaaGreatDoor
open Go.RowKit
set_option linter.unusedVariables false
set_option linter.unusedSimpArgs false

def VT.kind : VT → Int | .mk k _ _ _ => k

def VT.num : VT → Int | .mk _ n _ _ => n

def VT.str : VT → ByteArray | .mk _ _ s _ => s

def VT.row : VT → List VT | .mk _ _ _ l => l

theorem RowIs.drop_ {w : World} {A : Option Addr} : ∀ (j : Nat) {i : Nat} {l : List VT}, RowIs w A i l → j ≤ l.length → RowIs w A (i + j) (l.drop j) := by
  intro j
  induction j with
  | zero => intro i l h _; exact h
  | succ j ih =>
    intro i l h hj
    match l, hj with
    | t :: l, hj =>
      obtain ⟨ad, e, _, _, _, hr⟩ := h.inv
      have h2 := ih hr (by simpa using hj)
      rw [show i + (j + 1) = i + 1 + j from by omega, List.drop_succ_cons]
      exact h2

/-- An element's cells, in the words of its tree. -/
theorem RowIs.nth {w w' : World} {b off j : Nat} {l : List VT} {t : VT} (h : RowIs w (some ⟨b, off, none⟩) 0 l) (hc : Chg NoS w w') (ht : l[j]? = some t) : ∃ (eA : Option Addr) (el ec : Nat),
    w'.cell? ⟨b, off + j * 4, none⟩ = some (.int .i64 t.kind) ∧ w'.cell? ⟨b, off + j * 4 + 1, none⟩ = some (.int .i64 t.num) ∧ w'.cell? ⟨b, off + j * 4 + 2, none⟩ = some (.string t.str) ∧ w'.cell? ⟨b, off + j * 4 + 3, none⟩ = some (.slice eA el ec) ∧ ValIs w' t ⟨t.kind, t.num, t.str, eA, el, ec⟩ := by
  have hj : j < l.length := (List.getElem?_eq_some_iff.1 ht).1
  have h2 := h.drop_ j (by omega)
  obtain ⟨t', ht', hd⟩ := drop_vt hj
  obtain rfl : t = t' := by rw [ht] at ht'; exact Option.some.inj ht'
  rw [hd, Nat.zero_add] at h2
  obtain ⟨ek, en, es, eA, el, ec, c0, c1, c2, c3, hv, _⟩ := h2.at_ hc
  obtain ⟨k, n, s, l'⟩ := t
  obtain ⟨e1, e2, e3, _⟩ := hv.inv
  simp only [] at e1 e2 e3
  subst e1 e2 e3
  exact ⟨eA, el, ec, c0, c1, c2, c3, hv⟩

theorem less_leq (a b : List UInt8) : (Op.bytesLess a b || a == b) = !(Op.bytesLess b a) := by
  rw [Go.Proofs.bytesLess_eq, Go.Proofs.bytesLess_eq]
  by_cases h : a < b
  · simp [h, List.lt_asymm h]
  · by_cases e : a = b
    · subst e; simp [List.lt_irrefl]
    · have h2 : b < a := by
        rcases Classical.em (b < a) with h3 | h3
        · exact h3
        · exact absurd (List.le_antisymm (List.not_lt.1 h3) (List.not_lt.1 h)) e
      simp [h, e, h2]

/-- A text that may be a name's. -/
def textO (s : ByteArray) : Prop := (∀ d ∈ sl s, d ≠ 0) ∧ s.size ≤ 127

instance (s : ByteArray) : Decidable (textO s) := inferInstanceAs (Decidable (_ ∧ _))

set_option maxHeartbeats 1000000 in
theorem rtext11_any (s : ByteArray) (w : World) (hl : s.size ≤ maxLen) :
    Calls Tryz.prog 30 #[.string s] w fun e w' => e = .returned (.bool (decide (textO s))) ∧ w = w' := by
  unfold maxLen at hl
  obtain ⟨n, hn⟩ : ∃ n, s.size = n := ⟨_, rfl⟩
  have HLN : Hid ((sl s).length = n) := by show _ = _; rw [sl_len, hn]
  have HAT := keepf (fun k (h : k < n) => (fun h2 => sl_at s k h2 : ∀ h2 : k < s.size, (s[k]'h2).toNat = (sl s).getD k 0))
  have HGT := keepf (fun k (h : k < n) => sl_get (s := s) (k := k) (by rw [hn]; exact h))
  have HSZ := keepf hn
  rw [hn] at hl
  go_enter Tryz.func30, Tryz.ntmps30
  go_wp2_with fail
  go_loop [3] (fun vk => ∃ k : Nat, k ≤ n ∧ vk = .int .i64 (k : Nat) ∧ Hid (∀ d ∈ (sl s).take k, d ≠ 0)) (fun vk => n - (intOf vk).toNat)
  case atStart => exact ⟨0, Nat.zero_le _, by go_num, fun d hd => by simp at hd⟩
  case round =>
    obtain ⟨k, hk, rfl, HD⟩ := hrel
    by_cases hlt : k < n
    · obtain ⟨x, hx⟩ : ∃ x, (sl s).getD k 0 = x := ⟨_, rfl⟩
      have hxa := HAT.out k hlt
      have HG := HGT.out k hlt
      rw [hx] at hxa HG
      have HGX := keepf HG
      clear hx HG
      have i0 : (k : Int) < n := by omega
      by_cases h0 : x = 0
      · subst h0
        have HB : Hid (decide (textO s) = false) := by
          show _ = _
          rw [decide_eq_false_iff_not]
          exact fun h => h.1 0 (List.mem_of_getElem? HGX.out) rfl
        go_wp2_with fail
        go_ret
        rw [HB.out]
        exact ⟨rfl, rfl⟩
      · have d0 : ((x : Int) == 0) = false := by simpa using h0
        have d0' : (x == 0) = false := by simpa using h0
        have HX0 := keepf h0
        clear h0
        go_wp2_with fail
        go_round
        case rel =>
          refine ⟨k + 1, by omega, by go_num, ?_⟩
          show ∀ d ∈ (sl s).take (k + 1), d ≠ 0
          rw [take_snoc HGX.out]
          intro d hd
          rcases List.mem_append.1 hd with h | h
          · exact HD.out d h
          · rw [List.mem_singleton] at h
            subst h
            exact HX0.out
        case measure => simp [intOf]; omega
    · obtain rfl : n = k := by omega
      have HALL : Hid (∀ d ∈ sl s, d ≠ 0) := by
        have h := HD.out
        rwa [List.take_of_length_le (by rw [HLN.out]; exact Nat.le_refl _)] at h
      by_cases h127 : n ≤ 127
      · have d1 : decide ((n : Int) ≤ 127) = true := by simp; omega
        have d1' : decide (n ≤ 127) = true := by simp; omega
        have HB : Hid (decide (textO s) = true) := by
          show _ = _
          rw [decide_eq_true_iff]
          exact ⟨HALL.out, by rw [HSZ.out]; exact h127⟩
        go_wp2_with fail
        go_ret
        rw [HB.out]
        exact ⟨rfl, rfl⟩
      · have d1 : decide ((n : Int) ≤ 127) = false := by simp; omega
        have d1' : decide (n ≤ 127) = false := by simp; omega
        have HB : Hid (decide (textO s) = false) := by
          show _ = _
          rw [decide_eq_false_iff_not]
          exact fun h => h127 (by rw [← HSZ.out]; exact h.2)
        go_wp2_with fail
        go_ret
        rw [HB.out]
        exact ⟨rfl, rfl⟩

/-- A dictionary's names stand in names' places, and rise. -/
def namesO (l : List VT) : Prop := ∀ j t, l[2 * j]? = some t → t.kind = 5

def riseO (l : List VT) : Prop := ∀ j t u, l[2 * j]? = some t → l[2 * j + 2]? = some u → Op.bytesLess t.str.toList u.str.toList = true

open Classical in

/-- A dictionary by itself. -/
noncomputable def dictO (n : Int) (sz : Nat) (l : List VT) : Int := if n ≠ 0 ∨ sz ≠ 0 ∨ l.length % 2 ≠ 0 ∨ ¬ namesO l then 2 else if riseO l then 0 else 16

theorem dict_arg {n : Int} {sz : Nat} {l : List VT} (h : n ≠ 0 ∨ sz ≠ 0 ∨ l.length % 2 ≠ 0 ∨ ¬ namesO l) : dictO n sz l = 2 := if_pos h

theorem dict_key {l : List VT} (h1 : l.length % 2 = 0) (h2 : namesO l) (h3 : ¬ riseO l) : dictO 0 0 l = 16 := by
  unfold dictO
  rw [if_neg (by rintro (h | h | h | h); exact h rfl; exact h rfl; exact h h1; exact h h2), if_neg h3]

theorem dict_ok {l : List VT} (h1 : l.length % 2 = 0) (h2 : namesO l) (h3 : riseO l) : dictO 0 0 l = 0 := by
  unfold dictO
  rw [if_neg (by rintro (h | h | h | h); exact h rfl; exact h rfl; exact h h1; exact h h2), if_pos h3]

theorem str_em11 {s : ByteArray} (h : s.size ≠ 0) : s.toList.isEmpty = false := by
  have h := str_ne h
  cases hl : s.toList with
  | nil => exact absurd hl h
  | cons x l => rfl

set_option maxHeartbeats 4000000 in
set_option maxRecDepth 100000 in
theorem rdict_any (c : VC) (l : List VT) (w : World) (hv : ValIs w (.mk c.k c.n c.s l) c) :
    Calls Tryz.prog 122 #[c.val] w fun e w' => e = .returned (.int .i64 (dictO c.n c.s.size l)) ∧ Chg NoS w w' := by
  obtain ⟨_, _, _, hg, hl, hr⟩ := hv.inv
  obtain ⟨k, n, s, A, len, cap⟩ := c
  simp only [] at hl hr
  have hcap := hg.cap
  have hlm := hg.len
  simp only [] at hcap hlm
  unfold maxLen at hlm
  unfold VC.val
  simp only []
  have HB := keepf (Blk.new w 24 #[.int .i64 k, .int .i64 n, .string s, .slice A len cap])
  have HC0 := keepf ((Chg.refl NoS w).alloc (.cells #[.int .i64 k, .int .i64 n, .string s, .slice A len cap] 24))
  obtain ⟨W0, hW⟩ : ∃ W0, W0 = w.alloc (.cells #[.int .i64 k, .int .i64 n, .string s, .slice A len cap] 24) := ⟨_, rfl⟩
  obtain ⟨g, hgg⟩ : ∃ g, g = w.heap.size := ⟨_, rfl⟩
  rw [← hW] at HB HC0
  rw [← hgg] at HB
  have p1 := HB.out.cell 1
  have p2 := HB.out.cell 2
  have p3 := HB.out.cell 3
  simp at p1 p2 p3
  clear hv hg
  by_cases hn : n = 0
  · subst hn
    by_cases hs : s.size = 0
    · obtain rfl := str_nil hs
      obtain ⟨r, hr2⟩ : ∃ r : Nat, len % 2 = r := ⟨_, rfl⟩
      have t1 : (len : Int).tmod 2 = (r : Int) := by rw [Int.tmod_eq_emod_of_nonneg (by omega)]; omega
      have t2 : (len : Int) % 2 = (r : Int) := by omega
      by_cases h2 : r = 0
      · subst h2
        have HEV := keepf (show l.length % 2 = 0 from by rw [hl]; exact hr2)
        have HL := keepf hl
        have HR := keepf hr
        have HLE := keepf hr2
        clear hr2 hl hr hs
        go_enter Tryz.func122, Tryz.ntmps122
        go_upto_region 1 with fail
        rw [← hgg, ← hW]
        clear hgg hW
        go_upto_region 4 with fail
        go_loop [3] (fun vk => ∃ j : Nat, 2 * j ≤ len ∧ vk = .int .i64 ((2 * j : Nat) : Int) ∧ Hid (∀ i t, i < j → l[2 * i]? = some t → t.kind = 5)) (fun vk => len - (intOf vk).toNat)
        case atStart => exact ⟨0, by omega, by go_num, fun i t hi => absurd hi (Nat.not_lt_zero i)⟩
        case round =>
          obtain ⟨j, hj, rfl, HN⟩ := hrel
          obtain ⟨q, hq⟩ : ∃ q, q = 2 * j := ⟨_, rfl⟩
          rw [← hq] at hj ⊢
          have HQ := keepf hq
          clear hq
          by_cases h1 : q < len
          · obtain ⟨t, ht, _⟩ := drop_vt (l := l) (k := q) (by rw [HL.out]; exact h1)
            obtain ⟨b, off, rfl⟩ : ∃ b off, A = some ⟨b, off, none⟩ := by
              have h := HR.out
              cases hll : l with
              | nil => rw [hll] at ht; simp at ht
              | cons t0 l0 => rw [hll] at h; exact h.start
            obtain ⟨eA, el, ec, c0, _, _, _, _⟩ := HR.out.nth HC0.out ht
            have i1 : (q : Int) < len := by omega
            obtain ⟨tk, htk⟩ : ∃ tk, t.kind = tk := ⟨_, rfl⟩
            rw [htk] at c0
            have HT := keepf ht
            have HTK := keepf htk
            clear ht htk
            by_cases h5 : tk = 5
            · subst h5
              go_wp2_with fail
              go_round
              case rel =>
                refine ⟨j + 1, by have := HQ.out; have := HLE.out; omega, by have := HQ.out; first | (go_num; done) | (go_num; omega), fun i t' hi hit => ?_⟩
                rcases Nat.lt_or_ge i j with h | h
                · exact HN.out i t' h hit
                · obtain rfl : i = j := by omega
                  rw [← HQ.out, HT.out] at hit
                  cases hit
                  exact HTK.out
              case measure => simp [intOf]; omega
            · have e5 : (tk == 5) = false := by simpa using h5
              have e5' : (tk != 5) = true := by simpa using h5
              have HE := keepf (dict_arg (n := 0) (sz := 0) (l := l) (.inr (.inr (.inr (fun h => h5 (by rw [← HTK.out]; exact h j t (by rw [← HQ.out]; exact HT.out)))))))
              clear h5
              go_wp2_with fail
              go_ret
              exact ⟨ret_v64 HE.out.symm, HC0.out⟩
          · have HNM : Hid (namesO l) := fun i t hit => HN.out i t (by
              have h := (List.getElem?_eq_some_iff.1 hit).1
              rw [HL.out] at h
              have := HQ.out
              omega) hit
            go_upto_region 9 with fail
            go_loopw [4] (fun vk wr => ∃ j : Nat, 2 * j ≤ len ∧ vk = .int .i64 ((2 * j + 2 : Nat) : Int) ∧ Hid (Chg NoS W0 wr) ∧ Hid (∀ i t u, i < j → l[2 * i]? = some t → l[2 * i + 2]? = some u → Op.bytesLess t.str.toList u.str.toList = true)) (fun vk _ => len + 2 - (intOf vk).toNat)
            case atStart => exact ⟨0, by omega, by go_num, Chg.refl _ _, fun i t u hi => absurd hi (Nat.not_lt_zero i)⟩
            case round =>
              obtain ⟨m, hm, rfl, HCW, HM⟩ := hrel
              have HBW := keepf (HB.out.chg HCW.out (fun e => e))
              have HCR := keepf (HC0.out.trans HCW.out (fun _ _ e => e))
              clear p1 p2 p3
              have q3 := HBW.out.cell 3
              simp at q3
              obtain ⟨p, hp⟩ : ∃ p, p = 2 * m := ⟨_, rfl⟩
              obtain ⟨z, hz⟩ : ∃ z, z = 2 * m + 2 := ⟨_, rfl⟩
              rw [← hz]
              rw [← hp] at hm
              have ez : (z : Int) - 2 = (p : Int) := by omega
              have hzp : z ≤ len + 2 := by omega
              have HPP := keepf hp
              have HZZ := keepf hz
              clear hp hz
              by_cases h3 : z < len
              · have hp3 : p < len := by omega
                obtain ⟨t, ht, _⟩ := drop_vt (l := l) (k := p) (by rw [HL.out]; exact hp3)
                obtain ⟨u, hu, _⟩ := drop_vt (l := l) (k := z) (by rw [HL.out]; exact h3)
                obtain ⟨b, off, rfl⟩ : ∃ b off, A = some ⟨b, off, none⟩ := by
                  have h := HR.out
                  cases hll : l with
                  | nil => rw [hll] at ht; simp at ht
                  | cons t0 l0 => rw [hll] at h; exact h.start
                obtain ⟨eA, el, ec, _, _, c2, _, _⟩ := HR.out.nth HCR.out ht
                obtain ⟨eA', el', ec', _, _, c2', _, _⟩ := HR.out.nth HCR.out hu
                have k1 : IntKind.i64.wrap (p : Int) = (p : Int) := by rw [IntKind.wrap_i64]; omega
                have k2 : IntKind.i64.wrap ((z : Int) - 2) = (p : Int) := by rw [ez, k1]
                have i1 : (z : Int) < len := by omega
                have i2 : (p : Int) < len := by omega
                have i3 : (0 : Int) ≤ (z : Int) - 2 := by omega
                have i4 : (z : Int) - 2 < len := by omega
                obtain ⟨ts, hts⟩ : ∃ ts, t.str = ts := ⟨_, rfl⟩
                obtain ⟨us, hus⟩ : ∃ us, u.str = us := ⟨_, rfl⟩
                rw [hts] at c2
                rw [hus] at c2'
                have HT := keepf ht
                have HU := keepf hu
                have HTS := keepf hts
                have HUS := keepf hus
                clear ht hu hts hus
                go_upto_region 11 with fail
                by_cases hb : Op.bytesLess ts.toList us.toList = true
                · have HBL := keepf hb
                  have f1 : (Op.bytesLess us.toList ts.toList || us.toList == ts.toList) = false := by rw [less_leq, hb]; rfl
                  clear hb
                  go_quiet (fail)
                  go_wp2_with fail
                  go_roundw
                  case rel =>
                    refine ⟨m + 1, by have := HPP.out; have := HZZ.out; have := HLE.out; omega, by have := HZZ.out; first | (go_num; done) | (go_num; omega), HCW.out.drewN nq, fun i t' u' hi hit hiu => ?_⟩
                    rcases Nat.lt_or_ge i m with h | h
                    · exact HM.out i t' u' h hit hiu
                    · obtain rfl : i = m := by omega
                      rw [← HPP.out, HT.out] at hit
                      rw [← HZZ.out, HU.out] at hiu
                      cases hit
                      cases hiu
                      rw [HTS.out, HUS.out]
                      exact HBL.out
                  case measure => simp [intOf]; omega
                · have hb2 : Op.bytesLess ts.toList us.toList = false := by simpa using hb
                  have HE := keepf (dict_key HEV.out HNM.out (fun h => hb (by rw [← HTS.out, ← HUS.out]; exact h m t u (by rw [← HPP.out]; exact HT.out) (by rw [← HZZ.out]; exact HU.out))))
                  have f1 : (Op.bytesLess us.toList ts.toList || us.toList == ts.toList) = true := by rw [less_leq, hb2]; rfl
                  clear hb hb2
                  go_quiet (fail)
                  go_wp2_with fail
                  go_ret
                  exact ⟨ret_v64 HE.out.symm, HCR.out.drewN nq⟩
              · have HRI : Hid (riseO l) := fun i t u hit hiu => HM.out i t u (by
                  have h := (List.getElem?_eq_some_iff.1 hiu).1
                  rw [HL.out] at h
                  have := HZZ.out
                  omega) hit hiu
                have HE := keepf (dict_ok HEV.out HNM.out HRI.out)
                go_wp2_with fail
                go_ret
                exact ⟨ret_v64 HE.out.symm, HCR.out⟩
      · have e2 : ((r : Int) == 0) = false := by simpa using h2
        have e2' : ((r : Int) != 0) = true := by simpa using h2
        have HE := keepf (dict_arg (n := 0) (sz := (ByteArray.mk #[]).size) (l := l) (.inr (.inr (.inl (by rw [hl, hr2]; exact h2)))))
        clear h2 hr2 hl hr hs
        go_enter Tryz.func122, Tryz.ntmps122
        go_upto_region 1 with fail
        rw [← hgg, ← hW]
        clear hgg hW
        go_wp2_with fail
        go_ret
        exact ⟨ret_v64 HE.out.symm, HC0.out⟩
    · have u1 := str_ne hs
      have HE := keepf (dict_arg (n := 0) (sz := s.size) (l := l) (.inr (.inl hs)))
      clear hs hl hr
      go_enter Tryz.func122, Tryz.ntmps122
      go_upto_region 1 with fail
      rw [← hgg, ← hW]
      clear hgg hW
      go_wp2_with fail
      go_ret
      exact ⟨ret_v64 HE.out.symm, HC0.out⟩
  · have e1 : (n == 0) = false := by simpa using hn
    have e1' : (n != 0) = true := by simpa using hn
    have HE := keepf (dict_arg (n := n) (sz := s.size) (l := l) (.inl hn))
    clear hn hl hr
    go_enter Tryz.func122, Tryz.ntmps122
    go_upto_region 1 with fail
    rw [← hgg, ← hW]
    clear hgg hW
    go_wp2_with fail
    go_ret
    exact ⟨ret_v64 HE.out.symm, HC0.out⟩

end Go.Proofs.YtcehpobjnbgpdaaGreatDoor

