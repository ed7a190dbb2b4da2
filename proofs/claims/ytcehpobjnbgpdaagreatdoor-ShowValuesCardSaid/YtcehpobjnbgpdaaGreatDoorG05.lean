/- Merged by program: RVt2 RVt5 PB RVt6 RowV RVt7 ValO. -/
import Derived.Test.YtcehpobjnbgpdaaGreatDoorG00
import Derived.Test.YtcehpobjnbgpdaaGreatDoorG03
import Derived.Test.YtcehpobjnbgpdaaGreatDoorG04
import Derived.StillTailTactics
import Derived.Test.YtcehpobjnbgpdaaGreatDoorProg
import Derived.Deep.AppendLies
import Derived.Deep.CutRange
import Derived.Deep.Cut
import Derived.Sort.Walk0
/- The document's own order of values. -/
namespace Go.Proofs.YtcehpobjnbgpdaaGreatDoor
open Go.RowKit
set_option linter.unusedVariables false
set_option linter.unusedSimpArgs false

/-- How two values stand by themselves: -1, 0, 1. -/
def cmpH (k n : Int) (s : ByteArray) (k' n' : Int) (s' : ByteArray) : Int :=
  if k < k' then -1 else if k ≠ k' then 1 else if n < n' then -1 else if n ≠ n' then 1 else if Op.bytesLess s.toList s'.toList then -1 else if s ≠ s' then 1 else 0

mutual
def cmpT : VT → VT → Int
  | .mk k n s l, .mk k' n' s' l' => if cmpH k n s k' n' s' ≠ 0 then cmpH k n s k' n' s' else cmpL l l'
def cmpL : List VT → List VT → Int
  | [], [] => 0
  | [], _ :: _ => -1
  | _ :: _, [] => 1
  | t :: l, t' :: l' => if cmpT t t' ≠ 0 then cmpT t t' else cmpL l l'
end

theorem cmpT_mk (k n : Int) (s : ByteArray) (l : List VT) (k' n' : Int) (s' : ByteArray) (l' : List VT) : cmpT (.mk k n s l) (.mk k' n' s' l') = if cmpH k n s k' n' s' ≠ 0 then cmpH k n s k' n' s' else cmpL l l' := by rw [cmpT]

theorem cmpL_cons (t t' : VT) (l l' : List VT) : cmpL (t :: l) (t' :: l') = if cmpT t t' ≠ 0 then cmpT t t' else cmpL l l' := by rw [cmpL]

theorem bytesLess_self : ∀ l : List UInt8, Op.bytesLess l l = false := by
  intro l
  induction l with
  | nil => rfl
  | cons a l ih => simp [Op.bytesLess, ih]

theorem str_ne11 {s s' : ByteArray} (h : s ≠ s') : ¬ s.toList = s'.toList := by
  rw [ByteArray.toList_eq, ByteArray.toList_eq]
  intro e
  obtain ⟨d⟩ := s
  obtain ⟨d'⟩ := s'
  exact h (congrArg ByteArray.mk (Array.ext' e))

theorem cmpT_head {k n k' n' : Int} {s s' : ByteArray} {l l' : List VT} {x : Int} (h : cmpH k n s k' n' s' = x) (hx : x ≠ 0) : cmpT (.mk k n s l) (.mk k' n' s' l') = x := by rw [cmpT_mk, h, if_pos hx]

set_option maxHeartbeats 4000000 in
set_option maxRecDepth 100000 in
theorem rcmp_in : ∀ (N : Nat) (t : VT), sizT t ≤ N → ∀ (t' : VT) (c c' : VC) (w : World), ValIs w t c → ValIs w t' c' →
    Calls Tryz.prog 38 #[c.val, c'.val] w fun e w' => e = .returned (.int .i64 (cmpT t t')) ∧ Chg NoS w w' := by
  intro N
  induction N with
  | zero =>
    intro t ht
    obtain ⟨k, n, s, l⟩ := t
    rw [sizT_mk] at ht
    omega
  | succ N ih =>
    intro t ht t' c c' w hv hv'
    obtain ⟨tk, tn, ts, l⟩ := t
    obtain ⟨tk', tn', ts', l'⟩ := t'
    obtain ⟨h1, h2, h3, hg, hl, hr⟩ := hv.inv
    obtain ⟨h1', h2', h3', hg', hl', hr'⟩ := hv'.inv
    obtain ⟨k, n, s, A, len, cap⟩ := c
    obtain ⟨k', n', s', A', len', cap'⟩ := c'
    simp only [] at h1 h2 h3 hl hr h1' h2' h3' hl' hr'
    subst h1 h2 h3 h1' h2' h3'
    rw [sizT_mk] at ht
    have hcap := hg.cap
    have hlm := hg.len
    have hcap' := hg'.cap
    have hlm' := hg'.len
    simp only [] at hcap hlm hcap' hlm'
    unfold maxLen at hlm hlm'
    unfold VC.val
    simp only []
    by_cases hk : k < k'
    · have HD := keepf (cmpT_head (l := l) (l' := l') (show cmpH k n s k' n' s' = -1 from by unfold cmpH; rw [if_pos hk]) (by decide))
      have d1 : decide (k < k') = true := by simpa using hk
      clear hv hv' hg hg' hl hl' hr hr' ih ht hk
      go_enter Tryz.func38, Tryz.ntmps38
      go_wp2_with fail
      go_ret
      exact ⟨ret_v64 (by rw [HD.out]), ((Chg.refl NoS w).alloc _).alloc _⟩
    have d1 : decide (k < k') = false := by simpa using hk
    by_cases hk2 : k = k'
    · subst hk2
      by_cases hn : n < n'
      · have HD := keepf (cmpT_head (l := l) (l' := l') (show cmpH k n s k n' s' = -1 from by unfold cmpH; rw [if_neg hk, if_neg (by simp), if_pos hn]) (by decide))
        have d2 : decide (n < n') = true := by simpa using hn
        clear hv hv' hg hg' hl hl' hr hr' ih ht hk hn
        go_enter Tryz.func38, Tryz.ntmps38
        go_wp2_with fail
        go_ret
        exact ⟨ret_v64 (by rw [HD.out]), ((Chg.refl NoS w).alloc _).alloc _⟩
      have d2 : decide (n < n') = false := by simpa using hn
      by_cases hn2 : n = n'
      · subst hn2
        cases hs : Op.bytesLess s.toList s'.toList with
        | true =>
          have HD := keepf (cmpT_head (l := l) (l' := l') (show cmpH k n s k n s' = -1 from by unfold cmpH; rw [if_neg hk, if_neg (by simp), if_neg hn, if_neg (by simp), if_pos hs]) (by decide))
          clear hv hv' hg hg' hl hl' hr hr' ih ht hk hn
          go_enter Tryz.func38, Tryz.ntmps38
          go_wp2_with fail
          go_ret
          exact ⟨ret_v64 (by rw [HD.out]), ((Chg.refl NoS w).alloc _).alloc _⟩
        | false =>
          by_cases hs2 : s = s'
          · subst hs2
            have HH := keepf (show cmpH k n s k n s = 0 from by unfold cmpH; rw [if_neg hk, if_neg (by simp), if_neg hn, if_neg (by simp), if_neg (by rw [hs]; decide), if_neg (by simp)])
            have HD := keepf (show cmpT (.mk k n s l) (.mk k n s l') = cmpL l l' from by rw [cmpT_mk, HH.out, if_neg (by simp)])
            have HL := keepf hl
            have HL' := keepf hl'
            have HR := keepf hr
            have HR' := keepf hr'
            have HIH := keepf (fun (t : VT) (ht' : sizT t ≤ sizL l) => ih t (by omega))
            have HB := keepf ((Blk.new w 24 #[.int .i64 k, .int .i64 n, .string s, .slice A len cap]).alloc (.cells #[.int .i64 k, .int .i64 n, .string s, .slice A' len' cap'] 24))
            have hb2 := Blk.new (w.alloc (.cells #[.int .i64 k, .int .i64 n, .string s, .slice A len cap] 24)) 24 #[.int .i64 k, .int .i64 n, .string s, .slice A' len' cap']
            rw [World.size_alloc] at hb2
            have HB' := keepf hb2
            have HC0 := keepf (((Chg.refl NoS w).alloc (.cells #[.int .i64 k, .int .i64 n, .string s, .slice A len cap] 24)).alloc (.cells #[.int .i64 k, .int .i64 n, .string s, .slice A' len' cap'] 24))
            obtain ⟨W0, hW⟩ : ∃ W0, W0 = (w.alloc (.cells #[.int .i64 k, .int .i64 n, .string s, .slice A len cap] 24)).alloc (.cells #[.int .i64 k, .int .i64 n, .string s, .slice A' len' cap'] 24) := ⟨_, rfl⟩
            obtain ⟨g, hgg⟩ : ∃ g, g = w.heap.size := ⟨_, rfl⟩
            rw [← hW] at HB HB' HC0
            rw [← hgg] at HB HB'
            clear hv hv' hg hg' hl hl' hr hr' ih ht hk hn hb2
            go_enter Tryz.func38, Tryz.ntmps38
            go_upto_region 6 with fail
            rw [← hgg, ← hW]
            clear hgg hW
            go_loopw [5] (fun vj wr => ∃ j : Nat, j ≤ len ∧ j ≤ len' ∧ vj = .int .i64 (j : Nat) ∧ Hid (Chg NoS W0 wr) ∧ Hid (RowIs w A j (l.drop j)) ∧ Hid (RowIs w A' j (l'.drop j)) ∧ Hid (cmpL l l' = cmpL (l.drop j) (l'.drop j))) (fun vj _ => len - (intOf vj).toNat)
            case atStart => exact ⟨0, by omega, by omega, rfl, Chg.refl _ _, by rw [List.drop_zero]; exact HR.out, by rw [List.drop_zero]; exact HR'.out, keepf (by rw [List.drop_zero, List.drop_zero])⟩
            case round =>
              obtain ⟨j, hj, hj', rfl, HCW, HRW, HRW', HFW⟩ := hrel
              have HBW := keepf (HB.out.chg HCW.out (fun e => e))
              have HBW' := keepf (HB'.out.chg HCW.out (fun e => e))
              have HCR := keepf (HC0.out.trans HCW.out (fun _ _ e => e))
              have q3 := HBW.out.cell 3
              have p3 := HBW'.out.cell 3
              simp at q3 p3
              by_cases h1 : j < len
              · by_cases h2 : j < len'
                · obtain ⟨u, hu, hd⟩ := drop_vt (l := l) (k := j) (by rw [HL.out]; exact h1)
                  obtain ⟨u', hu', hd'⟩ := drop_vt (l := l') (k := j) (by rw [HL'.out]; exact h2)
                  obtain ⟨b, off, rfl⟩ : ∃ b off, A = some ⟨b, off, none⟩ := by
                    have h := HR.out
                    cases hll : l with
                    | nil => rw [hll] at hu; simp at hu
                    | cons t0 l0 => rw [hll] at h; exact h.start
                  obtain ⟨b', off', rfl⟩ : ∃ b off, A' = some ⟨b, off, none⟩ := by
                    have h := HR'.out
                    cases hll : l' with
                    | nil => rw [hll] at hu'; simp at hu'
                    | cons t0 l0 => rw [hll] at h; exact h.start
                  have hrw := HRW.out
                  have hrw' := HRW'.out
                  rw [hd] at hrw
                  rw [hd'] at hrw'
                  obtain ⟨ek, en, es, eA, el, ec, c0, c1, c2, c3, hve, hre⟩ := hrw.at_ HCR.out
                  obtain ⟨fk, fn, fs, fA, fl, fc, x0, x1, x2, x3, hvf, hrf⟩ := hrw'.at_ HCR.out
                  have HX := keepf (fun (W : World) (h : Chg NoS wr W) => HIH.out u (sizL_at hu) u' ⟨ek, en, es, eA, el, ec⟩ ⟨fk, fn, fs, fA, fl, fc⟩ W (hve.chg h) (hvf.chg h))
                  unfold VC.val at HX
                  simp only [] at HX
                  have HRN := keepf hre
                  have HRN' := keepf hrf
                  have HFN := keepf (show cmpL l l' = if cmpT u u' ≠ 0 then cmpT u u' else cmpL (l.drop (j + 1)) (l'.drop (j + 1)) from by rw [HFW.out, hd, hd', cmpL_cons])
                  obtain ⟨r, hr9⟩ : ∃ r, r = cmpT u u' := ⟨_, rfl⟩
                  rw [← hr9] at HX HFN
                  have i1 : (j : Int) < len := by omega
                  have i2 : (j : Int) < len' := by omega
                  clear hrw hrw' hve hvf hre hrf hd hd' hu hu' hr9
                  go_upto_region 8 with fail
                  refine wp_region_still_tail 10 (by kernel_rfl) (by kernel_rfl) ?_
                  simp only [List.take_succ_cons, List.take_zero, List.drop_succ_cons, List.drop_zero]
                  change wpStill _ _ wr.drew _ _ _
                  repeat still_step
                  refine wpStill_nil ?_
                  change wpList _ _ _ _ _ wr.drew
                  by_cases hr0 : r = 0
                  · subst hr0
                    have HFM := keepf (show cmpL l l' = cmpL (l.drop (j + 1)) (l'.drop (j + 1)) from by rw [HFN.out, if_neg (by simp)])
                    go_wp2_with (go_at_call 38; refine (HX.out _ (Chg.refl NoS wr).drew).mono ?_; rintro e w3 ⟨rfl, hc3⟩; have HC3 := keepf ((HCW.out.drew).trans hc3 (fun _ _ e => e)); clear hc3)
                    go_roundw
                    case rel => exact ⟨j + 1, by omega, by omega, by go_num, HC3, HRN, HRN', HFM⟩
                    case measure => simp [intOf]; omega
                  · have HFM := keepf (show cmpL l l' = r from by rw [HFN.out, if_pos hr0])
                    have v2 : (r != 0) = true := by simpa using hr0
                    have v3 : (r == 0) = false := by simpa using hr0
                    clear hr0
                    go_wp2_with (go_at_call 38; refine (HX.out _ (Chg.refl NoS wr).drew).mono ?_; rintro e w3 ⟨rfl, hc3⟩; have HC3 := keepf (((HCR.out).drew).trans hc3 (fun _ _ e => e)); clear hc3)
                    go_ret
                    exact ⟨ret_v64 (by rw [HD.out, HFM.out]), HC3.out⟩
                · obtain ⟨u, hu, hd⟩ := drop_vt (l := l) (k := j) (by rw [HL.out]; exact h1)
                  have hz1 : l'.drop j = [] := List.drop_of_length_le (by rw [HL'.out]; omega)
                  have HE := keepf (show cmpL l l' = 1 from by rw [HFW.out, hd, hz1, cmpL])
                  clear hz1
                  obtain rfl : j = len' := by omega
                  have d5 : decide ((len : Int) < (j : Int)) = false := by simp; omega
                  have d6 : decide ((j : Int) < (len : Int)) = true := by simp; omega
                  have d7 : decide (len < j) = false := by simp; omega
                  have d8 : decide (j < len) = true := by simp; omega
                  clear hd hu h2
                  go_wp2_with fail
                  go_ret
                  exact ⟨ret_v64 (by rw [HD.out, HE.out]), HCR.out⟩
              · obtain rfl : j = len := by omega
                by_cases h2 : j < len'
                · obtain ⟨u', hu', hd'⟩ := drop_vt (l := l') (k := j) (by rw [HL'.out]; exact h2)
                  have hz1 : l.drop j = [] := List.drop_of_length_le (Nat.le_of_eq HL.out)
                  have HE := keepf (show cmpL l l' = -1 from by rw [HFW.out, hd', hz1, cmpL])
                  clear hz1
                  have d5 : decide ((j : Int) < (len' : Int)) = true := by simp; omega
                  have d6 : decide (j < len') = true := by simp; omega
                  clear hd' hu'
                  go_wp2_with fail
                  go_ret
                  exact ⟨ret_v64 (by rw [HD.out, HE.out]), HCR.out⟩
                · obtain rfl : j = len' := by omega
                  have hz1 : l.drop j = [] := List.drop_of_length_le (Nat.le_of_eq HL.out)
                  have hz2 : l'.drop j = [] := List.drop_of_length_le (Nat.le_of_eq HL'.out)
                  have HE := keepf (show cmpL l l' = 0 from by rw [HFW.out, hz1, hz2, cmpL])
                  clear hz1 hz2
                  go_wp2_with fail
                  go_ret
                  exact ⟨ret_v64 (by rw [HD.out, HE.out]), HCR.out⟩
          · have HD := keepf (cmpT_head (l := l) (l' := l') (show cmpH k n s k n s' = 1 from by unfold cmpH; rw [if_neg hk, if_neg (by simp), if_neg hn, if_neg (by simp), if_neg (by rw [hs]; decide), if_pos hs2]) (by decide))
            have hs3 : ¬ s.toList = s'.toList := str_ne11 hs2
            have hs4 : (s.toList == s'.toList) = false := by simpa using hs3
            clear hv hv' hg hg' hl hl' hr hr' ih ht hk hn hs2
            go_enter Tryz.func38, Tryz.ntmps38
            go_wp2_with fail
            go_ret
            exact ⟨ret_v64 (by rw [HD.out]), ((Chg.refl NoS w).alloc _).alloc _⟩
      · have HD := keepf (cmpT_head (l := l) (l' := l') (show cmpH k n s k n' s' = 1 from by unfold cmpH; rw [if_neg hk, if_neg (by simp), if_neg hn, if_pos hn2]) (by decide))
        have e2 : (n == n') = false := by simpa using hn2
        have e3 : (n != n') = true := by simpa using hn2
        clear hv hv' hg hg' hl hl' hr hr' ih ht hk hn hn2
        go_enter Tryz.func38, Tryz.ntmps38
        go_wp2_with fail
        go_ret
        exact ⟨ret_v64 (by rw [HD.out]), ((Chg.refl NoS w).alloc _).alloc _⟩
    · have HD := keepf (cmpT_head (l := l) (l' := l') (show cmpH k n s k' n' s' = 1 from by unfold cmpH; rw [if_neg hk, if_pos hk2]) (by decide))
      have e2 : (k == k') = false := by simpa using hk2
      have e3 : (k != k') = true := by simpa using hk2
      clear hv hv' hg hg' hl hl' hr hr' ih ht hk hk2
      go_enter Tryz.func38, Tryz.ntmps38
      go_wp2_with fail
      go_ret
      exact ⟨ret_v64 (by rw [HD.out]), ((Chg.refl NoS w).alloc _).alloc _⟩

theorem rcmp_any (t t' : VT) (c c' : VC) (w : World) (hv : ValIs w t c) (hv' : ValIs w t' c') :
    Calls Tryz.prog 38 #[c.val, c'.val] w fun e w' => e = .returned (.int .i64 (cmpT t t')) ∧ Chg NoS w w' := rcmp_in _ t (Nat.le_refl _) t' c c' w hv hv'

end Go.Proofs.YtcehpobjnbgpdaaGreatDoor

/- The document's own Find and Get. -/
namespace Go.Proofs.YtcehpobjnbgpdaaGreatDoor
open Go.RowKit
set_option linter.unusedVariables false
set_option linter.unusedSimpArgs false

def hitT (key : ByteArray) (t : VT) : Prop := t.kind = 5 ∧ t.str = key

open Classical in

/-- Which pair has the name, the first one. -/
noncomputable def findL (key : ByteArray) : List VT → Option Nat
  | [] => none
  | [t] => if hitT key t then some 0 else none
  | t :: _ :: l => if hitT key t then some 0 else (findL key l).map (· + 1)

theorem findL_nil (key : ByteArray) : findL key [] = none := by rw [findL]

theorem findL_hit {key : ByteArray} {t : VT} {l : List VT} (h : hitT key t) : findL key (t :: l) = some 0 := by
  cases l with
  | nil => rw [findL, if_pos h]
  | cons u l => rw [findL, if_pos h]

theorem findL_no {key : ByteArray} {t : VT} {l : List VT} (h : ¬ hitT key t) : findL key (t :: l) = (findL key (l.drop 1)).map (· + 1) := by
  cases l with
  | nil => rw [findL, if_neg h, List.drop_nil, findL_nil]; rfl
  | cons u l => rw [findL, if_neg h, List.drop_succ_cons, List.drop_zero]

theorem findL_lt (key : ByteArray) : ∀ (N : Nat) (l : List VT), l.length ≤ N → ∀ j, findL key l = some j → 2 * j < l.length := by
  intro N
  induction N using Nat.strongRecOn with
  | _ N ih =>
    intro l hl j h
    cases l with
    | nil => rw [findL_nil] at h; cases h
    | cons t l =>
      by_cases ht : hitT key t
      · rw [findL_hit ht] at h; cases h; simp
      · rw [findL_no ht] at h
        cases hf : findL key (l.drop 1) with
        | none => rw [hf] at h; cases h
        | some i =>
          rw [hf] at h
          simp only [Option.map_some, Option.some.injEq] at h
          subst h
          rw [List.length_cons] at hl
          have h2 := ih (N - 1) (by omega) (l.drop 1) (by rw [List.length_drop]; omega) i hf
          rw [List.length_drop] at h2
          rw [List.length_cons]
          omega

theorem sizT_pos (t : VT) : 1 ≤ sizT t := by
  obtain ⟨k, n, s, l⟩ := t
  rw [sizT_mk]
  omega

theorem sizL_len : ∀ (l : List VT), l.length ≤ sizL l := by
  intro l
  induction l with
  | nil => exact Nat.zero_le _
  | cons t l ih =>
    rw [sizL_cons, List.length_cons]
    have := sizT_pos t
    omega

/-- Where a name stands, below 0: nowhere. -/
noncomputable def findI (k : Int) (l : List VT) (key : ByteArray) : Int := if k = 7 then (match findL key l with | some j => ((2 * j : Nat) : Int) | none => -1) else -1

set_option maxHeartbeats 4000000 in
set_option maxRecDepth 100000 in
theorem rfind_any (c : VC) (l : List VT) (key : ByteArray) (w : World) (hv : ValIs w (.mk c.k c.n c.s l) c) (hsz : sizL l ≤ 1000000000) :
    Calls Tryz.prog 134 #[c.val, .string key] w fun e w' => e = .returned (.int .i64 (findI c.k l key)) ∧ Chg NoS w w' := by
  obtain ⟨_, _, _, hg, hl, hr⟩ := hv.inv
  obtain ⟨k, n, s, A, len, cap⟩ := c
  simp only [] at hl hr
  have hcap := hg.cap
  have hlm := hg.len
  simp only [] at hcap hlm
  unfold maxLen at hlm
  unfold VC.val
  simp only []
  have HB := keepf (Blk.new w 24 #[.int .i64 k, .int .i64 n, .string s, .slice A len cap])
  have HC0 := keepf ((Chg.refl NoS w).alloc (.cells #[.int .i64 k, .int .i64 n, .string s, .slice A len cap] 24))
  obtain ⟨W0, hW⟩ : ∃ W0, W0 = w.alloc (.cells #[.int .i64 k, .int .i64 n, .string s, .slice A len cap] 24) := ⟨_, rfl⟩
  obtain ⟨g, hgg⟩ : ∃ g, g = w.heap.size := ⟨_, rfl⟩
  rw [← hW] at HB HC0
  rw [← hgg] at HB
  have p0 := HB.out.cell 0
  have p3 := HB.out.cell 3
  simp at p0 p3
  have hl9 : len ≤ 1000000000 := by have := sizL_len l; omega
  have HL := keepf hl
  have HR := keepf hr
  clear hv hg hl hr hsz hlm
  by_cases h7 : k = 7
  · subst h7
    have HF := keepf (show findI 7 l key = (match findL key l with | some j => ((2 * j : Nat) : Int) | none => -1) from if_pos rfl)
    go_enter Tryz.func134, Tryz.ntmps134
    go_upto_region 1 with fail
    rw [← hgg, ← hW]
    clear hgg hW
    go_upto_region 2 with fail
    go_loop [5] (fun vk => ∃ j : Nat, 2 * j ≤ len + 1 ∧ vk = .int .i64 ((2 * j : Nat) : Int) ∧ Hid (findL key l = (findL key (l.drop (2 * j))).map (· + j))) (fun vk => len + 1 - (intOf vk).toNat)
    case atStart => exact ⟨0, by omega, by go_num, by show _ = _; rw [Nat.mul_zero, List.drop_zero]; simp⟩
    case round =>
      obtain ⟨j, hj, rfl, HN⟩ := hrel
      obtain ⟨q, hq⟩ : ∃ q, q = 2 * j := ⟨_, rfl⟩
      rw [← hq] at hj HN ⊢
      have HQ := keepf hq
      clear hq
      by_cases h1 : q < len
      · obtain ⟨t, ht, hd⟩ := drop_vt (l := l) (k := q) (by rw [HL.out]; exact h1)
        obtain ⟨b, off, rfl⟩ : ∃ b off, A = some ⟨b, off, none⟩ := by
          have h := HR.out
          cases hll : l with
          | nil => rw [hll] at ht; simp at ht
          | cons t0 l0 => rw [hll] at h; exact h.start
        obtain ⟨eA, el, ec, c0, _, c2, _, _⟩ := HR.out.nth HC0.out ht
        have i1 : (q : Int) < len := by omega
        obtain ⟨tk, htk⟩ : ∃ tk, t.kind = tk := ⟨_, rfl⟩
        obtain ⟨ts, hts⟩ : ∃ ts, t.str = ts := ⟨_, rfl⟩
        rw [htk] at c0
        rw [hts] at c2
        have HDD := keepf hd
        by_cases hh : tk = 5 ∧ ts = key
        · obtain ⟨rfl, rfl⟩ := hh
          have HE : Hid (findI 7 l ts = (q : Int)) := by
            show _ = _
            rw [HF.out, HN.out, hd, findL_hit ⟨htk, hts⟩]
            show (((2 * (0 + j) : Nat) : Int)) = _
            rw [HQ.out, Nat.zero_add]
          clear ht htk hts hd HN
          go_wp2_with fail
          go_ret
          exact ⟨ret_v64 HE.out.symm, HC0.out⟩
        · have HNN : Hid (findL key l = (findL key (l.drop (q + 2))).map (· + (j + 1))) := by
            show _ = _
            rw [HN.out, hd, findL_no (fun h => hh ⟨by rw [← htk]; exact h.1, by rw [← hts]; exact h.2⟩), List.drop_drop, Option.map_map]
            congr 1
            funext x
            show x + 1 + j = x + (j + 1)
            omega
          by_cases h5 : tk = 5
          · subst h5
            have hsk : ¬ ts.toList = key.toList := str_ne11 (fun h => hh ⟨rfl, h⟩)
            have f1 : (ts.toList == key.toList) = false := by simpa using hsk
            clear ht htk hts hd HN hh
            go_wp2_with fail
            go_round
            case rel => exact ⟨j + 1, by have := HQ.out; omega, by have := HQ.out; first | (go_num; done) | (go_num; omega), by have h := HNN.out; rw [HQ.out] at h; exact h⟩
            case measure => simp [intOf]; omega
          · have e5 : (tk == 5) = false := by simpa using h5
            clear ht htk hts hd HN hh h5
            go_wp2_with fail
            go_round
            case rel => exact ⟨j + 1, by have := HQ.out; omega, by have := HQ.out; first | (go_num; done) | (go_num; omega), by have h := HNN.out; rw [HQ.out] at h; exact h⟩
            case measure => simp [intOf]; omega
      · have HE : Hid (findI 7 l key = -1) := by
          show _ = _
          rw [HF.out, HN.out, List.drop_of_length_le (by rw [HL.out]; omega), findL_nil]
          rfl
        have d1 : decide ((q : Int) < len) = false := by simp; omega
        have d1' : decide (q < len) = false := by simp; omega
        go_wp2_with fail
        go_ret
        exact ⟨ret_v64 HE.out.symm, HC0.out⟩
  · have e7 : (k == 7) = false := by simpa using h7
    have HE := keepf (show findI k l key = -1 from if_neg h7)
    clear h7
    go_enter Tryz.func134, Tryz.ntmps134
    go_upto_region 1 with fail
    rw [← hgg, ← hW]
    clear hgg hW
    go_upto_region 2 with fail
    go_loop [5] (fun vk => vk = .int .i64 0) (fun _ => 0)
    case atStart => rfl
    case round =>
      obtain rfl := hrel
      go_wp2_with fail
      go_ret
      exact ⟨ret_v64 HE.out.symm, HC0.out⟩

end Go.Proofs.YtcehpobjnbgpdaaGreatDoor

/- A value's block (api.Value) of the call's own, known whole. -/
namespace Go.Proofs.YtcehpobjnbgpdaaGreatDoor
open Go.RowKit
set_option linter.unusedVariables false

/-- A block of the call's own that is known whole, and that no other block has changed. -/
structure PB (w W : World) (g : Nat) (cs : Array Value) : Prop where
  blk : Blk W g 24 cs
  new : w.heap.size ≤ g

theorem PB.call {w W W' : World} {g : Nat} {cs : Array Value} (h : PB w W g cs) (hc : Chg NoS W W') : PB w W' g cs := ⟨h.blk.chg hc (fun h => h), h.new⟩

theorem PB.alloc {w W : World} {g : Nat} {cs : Array Value} (h : PB w W g cs) (o : Obj) : PB w (W.alloc o) g cs := ⟨h.blk.alloc o, h.new⟩

theorem PB.drew {w W : World} {g : Nat} {cs : Array Value} (h : PB w W g cs) : PB w W.drew g cs := ⟨h.blk.drew, h.new⟩

theorem PB.set {w W : World} {g : Nat} {cs : Array Value} (h : PB w W g cs) (i : Nat) (u : Value) : PB w (W.setCell ⟨g, i, none⟩ u) g (cs.setIfInBounds i u) := ⟨h.blk.set_ i u, h.new⟩

theorem PB.far {w W : World} {g g' : Nat} {cs : Array Value} (h : PB w W g cs) (hg : g ≠ g') (i : Nat) (u : Value) : PB w (W.setCell ⟨g', i, none⟩ u) g cs := ⟨h.blk.far (p := ⟨g', i, none⟩) hg u, h.new⟩

theorem PB.chg {w W : World} {g : Nat} {cs : Array Value} (h : PB w W g cs) (hc : Chg NoS w W) (i : Nat) (u : Value) : Chg NoS w (W.setCell ⟨g, i, none⟩ u) :=
  hc.setCell (p := ⟨g, i, none⟩) (fun h2 => absurd h2 (Nat.not_lt.2 h.new)) u

theorem PB.set4 {w W : World} {g : Nat} {cs : Array Value} {a b c d : Value} (h : PB w W g cs) (hc : Chg NoS w W) (hz : cs.size = 4) :
    PB w ((((W.setCell ⟨g, 0, none⟩ a).setCell ⟨g, 1, none⟩ b).setCell ⟨g, 2, none⟩ c).setCell ⟨g, 3, none⟩ d) g #[a, b, c, d] ∧ Chg NoS w ((((W.setCell ⟨g, 0, none⟩ a).setCell ⟨g, 1, none⟩ b).setCell ⟨g, 2, none⟩ c).setCell ⟨g, 3, none⟩ d) := by
  have h4 := (((h.set 0 a).set 1 b).set 2 c).set 3 d
  refine ⟨?_, ((((h.set 0 a).set 1 b).set 2 c).chg ((((h.set 0 a).set 1 b).chg ((h.set 0 a).chg (h.chg hc 0 a) 1 b) 2 c)) 3 d)⟩
  obtain ⟨l⟩ := cs
  match l, hz with
  | [x0, x1, x2, x3], _ => exact h4

theorem PB.far4 {w W : World} {g g' : Nat} {cs : Array Value} {a b c d : Value} (h : PB w W g cs) (hg : g ≠ g') :
    PB w ((((W.setCell ⟨g', 0, none⟩ a).setCell ⟨g', 1, none⟩ b).setCell ⟨g', 2, none⟩ c).setCell ⟨g', 3, none⟩ d) g cs := (((h.far hg 0 a).far hg 1 b).far hg 2 c).far hg 3 d

end Go.Proofs.YtcehpobjnbgpdaaGreatDoor

/- The document's own Get. -/
namespace Go.Proofs.YtcehpobjnbgpdaaGreatDoor
open Go.RowKit
set_option linter.unusedVariables false
set_option linter.unusedSimpArgs false

/-- Nothing. -/
def nilT : VT := .mk 0 0 ⟨#[]⟩ []

theorem nil_is (w : World) : ValIs w nilT ⟨0, 0, ⟨#[]⟩, none, 0, 0⟩ := .mk ⟨0, 0, ⟨#[]⟩, none, 0, 0⟩ [] ⟨by decide, by decide, by decide, fun _ => ⟨rfl, rfl⟩, Nat.le_refl _, Nat.zero_le _⟩ rfl (.nil _ _)

/-- What a value has of a name, and whether it has it. -/
noncomputable def getT (k : Int) (l : List VT) (key : ByteArray) : VT × Bool := if k = 7 then (match findL key l with | some j => ((l[2 * j + 1]?).getD nilT, true) | none => (nilT, false)) else (nilT, false)

theorem get_no {k : Int} {l : List VT} {key : ByteArray} (h : findI k l key < 0) : getT k l key = (nilT, false) := by
  unfold findI at h
  unfold getT
  by_cases h7 : k = 7
  · rw [if_pos h7] at h ⊢
    cases hf : findL key l with
    | none => rfl
    | some j => rw [hf] at h; simp only [] at h; omega
  · rw [if_neg h7]

theorem get_at {k : Int} {l : List VT} {key : ByteArray} (h : ¬ findI k l key < 0) : ∃ j : Nat, findI k l key = ((2 * j : Nat) : Int) ∧ 2 * j < l.length ∧ getT k l key = ((l[2 * j + 1]?).getD nilT, true) := by
  unfold findI at h ⊢
  unfold getT
  by_cases h7 : k = 7
  · rw [if_pos h7] at h ⊢
    rw [if_pos h7]
    cases hf : findL key l with
    | none => rw [hf] at h; simp at h
    | some j => exact ⟨j, rfl, findL_lt key _ l (Nat.le_refl _) j hf, rfl⟩
  · rw [if_neg h7] at h
    exact absurd (by decide) h

/-- A tree that is told, and whether it is one. -/
def GetTo (w : World) (t : VT × Bool) (e : Ending) (w' : World) : Prop := ∃ c' : VC, e = .returned (.tuple #[c'.val, .bool t.2]) ∧ ValIs w' t.1 c' ∧ Chg NoS w w'

theorem GetTo.of {w w' : World} {t : VT × Bool} {u : VT} {b : Bool} (h : t = (u, b)) (c : VC) (hv : ValIs w' u c) (hc : Chg NoS w w') : GetTo w t (.returned (.tuple #[c.val, .bool b])) w' := by
  subst h
  exact ⟨c, rfl, hv, hc⟩

end Go.Proofs.YtcehpobjnbgpdaaGreatDoor

/- Rows of values (api.Value) of the call's own that grow, and the tree that such a row makes. -/
namespace Go.Proofs.YtcehpobjnbgpdaaGreatDoor
open Go.RowKit
set_option linter.unusedVariables false
set_option linter.unusedSimpArgs false

def vcells (es : List VC) : List Value := es.flatMap VC.cells

theorem vcells_nil : vcells [] = [] := rfl

theorem vcells_app (a b : List VC) : vcells (a ++ b) = vcells a ++ vcells b := by simp [vcells]

theorem vcells_one (e : VC) : vcells [e] = e.cells := by simp [vcells]

theorem vcells_len (es : List VC) : (vcells es).length = es.length * 4 := by
  induction es with
  | nil => rfl
  | cons e es ih =>
    rw [show vcells (e :: es) = e.cells ++ vcells es from rfl, List.length_append, ih, List.length_cons, show e.cells.length = 4 from rfl]
    omega

theorem vcells_cell (es : List VC) : ∀ u ∈ vcells es, u.oneCell' = true := by
  intro u hu
  obtain ⟨e, _, h⟩ := List.mem_flatMap.1 hu
  unfold VC.cells at h
  simp only [List.mem_cons, List.not_mem_nil, or_false] at h
  rcases h with rfl | rfl | rfl | rfl <;> rfl

theorem vcells_at : ∀ {es : List VC} {j i : Nat} {e : VC}, es[j]? = some e → i < 4 → (vcells es)[j * 4 + i]? = e.cells[i]? := by
  intro es
  induction es with
  | nil => intro j i e h; simp at h
  | cons x es ih =>
    intro j i e h hi
    rw [show vcells (x :: es) = x.cells ++ vcells es from rfl]
    cases j with
    | zero =>
      simp at h
      subst h
      rw [Nat.zero_mul, Nat.zero_add, List.getElem?_append_left (by exact hi)]
    | succ j =>
      have h4 : x.cells.length = 4 := rfl
      rw [List.getElem?_append_right (by rw [h4]; omega), h4, show (j + 1) * 4 + i - 4 = j * 4 + i from by omega]
      exact ih (by simpa using h) hi

/-- A row of values of the call's own; its trees lie in the world from which the call began. -/
structure GV (w wr : World) (es : List VC) (ts : List VT) (n : Nat) (A : Option Addr) (c : Nat) : Prop where
  own : wr.ownsRow 0 24 4 (.slice A n c) n (vcells es)
  chg : Chg NoS w wr
  new : ∀ a, A = some a → w.heap.size ≤ a.block
  len : es.length = n
  tlen : ts.length = n
  is : ∀ (j : Nat) (t : VT) (e : VC), ts[j]? = some t → es[j]? = some e → ValIs w t e

theorem GV.start {w wr : World} (h : Chg NoS w wr) : GV w wr [] [] 0 none 0 := ⟨own_nil wr 0 _ 4, h, fun _ h => (by cases h), rfl, rfl, fun j t e h => (by simp at h)⟩

theorem GV.start0 {w wr : World} (h : Chg NoS w wr) : GV w (wr.alloc (.cells #[] 24)) [] [] 0 (some ⟨wr.heap.size, 0, none⟩) 0 :=
  ⟨⟨rfl, .inr ⟨wr.heap.size, 0, #[], rfl, Nat.zero_le _, heap_alloc_new wr _, Nat.le_refl _, Nat.zero_le _, rfl, rfl⟩⟩, h.alloc _, fun a ha => (by cases ha; exact h.size), rfl, rfl, fun j t e h => (by simp at h)⟩

theorem GV.call {w wr w2 : World} {es : List VC} {ts : List VT} {n c : Nat} {A : Option Addr} (h : GV w wr es ts n A c) (hc : Chg NoS wr w2) : GV w w2 es ts n A c :=
  ⟨own_chg (S := NoS) h.own hc (fun _ _ e => e), h.chg.trans hc (fun _ _ e => e), h.new, h.len, h.tlen, h.is⟩

theorem GV.far {w wr : World} {es : List VC} {ts : List VT} {n c g : Nat} {A : Option Addr} (h : GV w wr es ts n A c) (hne : (Value.slice A n c).ownBlock ≠ some g) (hg : w.heap.size ≤ g) (i : Nat) (u : Value) : GV w (wr.setCell ⟨g, i, none⟩ u) es ts n A c :=
  ⟨own_chg (S := fun x => x = g) h.own (Chg.setCell (S := fun x => x = g) (Chg.refl (fun x => x = g) wr) (p := ⟨g, i, none⟩) (fun _ => rfl) u) (fun g' hg' e => hne (by rw [hg', e])), h.chg.setCell (p := ⟨g, i, none⟩) (fun h2 => absurd h2 (Nat.not_lt.2 hg)) u, h.new, h.len, h.tlen, h.is⟩

/-- What the row reads as. -/
theorem GV.row {w wr : World} {es : List VC} {ts : List VT} {n c : Nat} {A : Option Addr} (h : GV w wr es ts n A c) : RowIs wr A 0 ts := by
  have hsrc := src_own h.own
  rcases A with _ | ad
  · have h0 := (hsrc.2.1 rfl).1
    have h1 := h.tlen
    rw [h0] at h1
    rw [List.eq_nil_of_length_eq_zero h1]
    exact .nil _ _
  · have key : ∀ (m j : Nat), j + m = n → RowIs wr (some ad) j (ts.drop j) := by
      intro m
      induction m with
      | zero =>
        intro j hj
        rw [List.drop_of_length_le (by rw [h.tlen]; omega)]
        exact .nil _ _
      | succ m ih =>
        intro j hj
        have hjt : j < ts.length := by rw [h.tlen]; omega
        have hje : j < es.length := by rw [h.len]; omega
        rw [List.drop_eq_getElem_cons hjt]
        refine .cons ad j _ _ es[j] (fun i hi => ?_) ((h.is j _ _ (List.getElem?_eq_getElem hjt) (List.getElem?_eq_getElem hje)).chg h.chg) (ih (j + 1) (by omega))
        have h1 := vcells_at (List.getElem?_eq_getElem hje) hi
        rw [List.getElem?_eq_getElem (show i < es[j].cells.length from hi)] at h1 ⊢
        exact hsrc.2.2 ad rfl _ _ h1
    have := key n 0 (by omega)
    rwa [List.drop_zero] at this

theorem GV.good {w wr : World} {es : List VC} {ts : List VT} {n c : Nat} {A : Option Addr} (h : GV w wr es ts n A c) (hn : n ≤ maxLen) : (A = none → n = 0 ∧ c = 0) ∧ n ≤ c := by
  rcases h.own.2 with ⟨h1, h0⟩ | ⟨g', cap, cur, h1, hb, hh, h2, h3, _⟩
  · simp only [Value.slice.injEq] at h1
    obtain ⟨rfl, _, rfl⟩ := h1
    exact ⟨fun _ => ⟨h0, rfl⟩, by omega⟩
  · simp only [Value.slice.injEq] at h1
    obtain ⟨rfl, _, rfl⟩ := h1
    exact ⟨fun e => (by cases e), h2⟩

/-- The value that has the row. -/
theorem GV.val {w wr : World} {es : List VC} {ts : List VT} {n c : Nat} {A : Option Addr} (h : GV w wr es ts n A c) (hn : n ≤ maxLen) (k v : Int) (s : ByteArray) (hk : -9223372036854775808 ≤ k ∧ k ≤ 9223372036854775807) (hv : -9223372036854775808 ≤ v ∧ v ≤ 9223372036854775807) (hs : s.size ≤ maxLen) :
    ValIs wr (.mk k v s ts) ⟨k, v, s, A, n, c⟩ :=
  .mk ⟨k, v, s, A, n, c⟩ ts ⟨hk, hv, hs, (h.good hn).1, (h.good hn).2, hn⟩ h.tlen h.row

theorem info_VC : (Tryz.prog.info? 24).map (fun i => (i.zero, i.size, i.bytes)) = some (some (.agg #[.int .i64 0, .int .i64 0, .string ⟨#[]⟩, .slice none 0 0]), 4, 56) := by kernel_rfl

theorem info_partsV {o : Option TypeInfo} {z : Value} {a b : Nat} (h : o.map (fun i => (i.zero, i.size, i.bytes)) = some (some z, a, b)) : ∃ i, o = some i ∧ i.zero = some z ∧ i.size = a ∧ i.bytes = b := by
  rcases o with _ | i
  · cases h
  · simp at h
    exact ⟨i, rfl, h.1, h.2.1, h.2.2⟩

/-- Values are appended. -/
theorem appV {w wr W : World} {ops : Array Oper} {rest : List Oper} {o : Oper} {a : Act} {Q : Exit → Act → World → Prop} {es new : List VC} {ts tn : List VT} {n c m cx : Nat} {A X : Option Addr} (hgd : o.guard = none) (s x : Operand)
    (ho : o.op = .call { callee := .builtin .append, args := #[s, x], argTypes := #[22, 22] }) (hs : a.eval s = .slice A n c) (hx : a.eval x = .slice X m cx)
    (h : GV w wr es ts n A c) (hc : Chg NoS wr W) (hn : n ≤ 2000000000) (hm : m ≤ 2000000000) (hsrc : Src W 4 X m cx (vcells new)) (hlen : new.length = m) (htl : tn.length = m) (his : ∀ (j : Nat) (t : VT) (e : VC), tn[j]? = some t → new[j]? = some e → ValIs w t e)
    (k : ∀ A3 c3 w', GV w w' (es ++ new) (ts ++ tn) (n + m) A3 c3 → (∀ (g : Nat) (T : TypeId) (cs : Array Value), Blk W g T cs → (Value.slice A n c).ownBlock ≠ some g → Blk w' g T cs ∧ (Value.slice A3 (n + m) c3).ownBlock ≠ some g) → wpList Tryz.prog ops Q rest (a.put o.dst (.slice A3 (n + m) c3)) w') :
    wpList Tryz.prog ops Q (o :: rest) a W := by
  obtain ⟨i0, hi, hz0, hz1, hz2⟩ := info_partsV info_VC
  refine wpList_append_src hgd s x 22 ho 24 i0 _ 4 56 Tryz.underlying22 hi hz0 hz1 hz2 rfl (by decide) (.slice A n c) n (vcells es) hs (own_chg (S := NoS) h.own hc (fun _ _ e => e)) X m cx (vcells new) hx hsrc (vcells_cell _) (by unfold maxLen; omega) (by omega) ?_
  intro S2 w4 hown4 hgr4 hat4
  obtain ⟨A4, c4, rfl, hA4⟩ := own_slice hown4
  refine k A4 c4 w4 ⟨by rw [vcells_app]; exact hown4, ?_, ?_, by rw [List.length_append, h.len, hlen], by rw [List.length_append, h.tlen, htl], fun j t e ht he => ?_⟩ (fun g T cs hb hne => ⟨hb.grown hgr4 (fun e => hne e.symm), fun e => ?_⟩)
  · refine (h.chg.trans hc (fun _ _ e => e)).grown hgr4 (fun kk e hk => ?_)
    rcases A with _ | b
    · simp [Value.ownBlock] at e
    · have e2 : b.block = kk := by simpa [Value.ownBlock] using e
      have := h.new b rfl
      omega
  · rintro b rfl
    have hsz := h.chg.size
    have hsz2 := hc.size
    rcases hat4 with e | e
    · rcases A with _ | d
      · simp [Value.ownBlock] at e
      · have e2 : b.block = d.block := by simpa [Value.ownBlock] using e
        rw [e2]
        exact h.new d rfl
    · have e2 : b.block = W.heap.size := by simpa [Value.ownBlock] using e
      omega
  · by_cases hj : j < n
    · rw [List.getElem?_append_left (by rw [h.tlen]; exact hj)] at ht
      rw [List.getElem?_append_left (by rw [h.len]; exact hj)] at he
      exact h.is j t e ht he
    · rw [List.getElem?_append_right (by rw [h.tlen]; omega), h.tlen] at ht
      rw [List.getElem?_append_right (by rw [h.len]; omega), h.len] at he
      exact his _ t e ht he
  · rcases hat4 with h2 | h2
    · exact hne (h2.symm.trans e)
    · have h3 := hb.lt
      rw [h2] at e
      cases e
      exact absurd h3 (Nat.lt_irrefl _)

theorem PB.kept {w W w' : World} {g : Nat} {cs : Array Value} {A A3 : Option Addr} {n c n3 c3 : Nat} (h : PB w W g cs) (k : ∀ (g : Nat) (T : TypeId) (cs : Array Value), Blk W g T cs → (Value.slice A n c).ownBlock ≠ some g → Blk w' g T cs ∧ (Value.slice A3 n3 c3).ownBlock ≠ some g) (hne : (Value.slice A n c).ownBlock ≠ some g) : PB w w' g cs ∧ (Value.slice A3 n3 c3).ownBlock ≠ some g :=
  ⟨⟨(k g _ cs h.blk hne).1, h.new⟩, (k g _ cs h.blk hne).2⟩

/-- One value's cells in a block of their own. -/
theorem src_one {W : World} {B : Nat} {e : VC} (h : ∀ i, i < 4 → W.cell? ⟨B, i, none⟩ = e.cells[i]?) : Src W 4 (some ⟨B, 0, none⟩) 1 1 (vcells [e]) := by
  refine ⟨by rw [vcells_len]; rfl, fun e => (by cases e), fun ad ha j u hj => ?_⟩
  cases ha
  rw [vcells_one] at hj
  have hj4 : j < 4 := (List.getElem?_eq_some_iff.1 hj).1
  have hadd : (⟨B, 0, none⟩ : Addr).add j = ⟨B, j, none⟩ := by unfold Addr.add; split <;> simp_all
  rw [hadd, h j hj4, hj]

end Go.Proofs.YtcehpobjnbgpdaaGreatDoor

/- The document's own Drop. -/
namespace Go.Proofs.YtcehpobjnbgpdaaGreatDoor
open Go.RowKit
set_option linter.unusedVariables false
set_option linter.unusedSimpArgs false

/-- A row's elements as they lie. -/
theorem RowIs.list {w : World} {b off : Nat} : ∀ {l : List VT} {j : Nat}, RowIs w (some ⟨b, off, none⟩) j l → ∃ es : List VC, es.length = l.length ∧ (∀ (i : Nat) (e : VC), es[i]? = some e → ∀ m, m < 4 → w.cell? ⟨b, off + (j + i) * 4 + m, none⟩ = e.cells[m]?) ∧ ∀ (i : Nat) (t : VT) (e : VC), l[i]? = some t → es[i]? = some e → ValIs w t e := by
  intro l
  induction l with
  | nil => intro j _; exact ⟨[], rfl, fun i e h => (by simp at h), fun i t e h => (by simp at h)⟩
  | cons t l ih =>
    intro j h
    obtain ⟨e, c0, c1, c2, c3, hv, hr⟩ := h.plain
    obtain ⟨es, hl, hc, hi⟩ := ih hr
    refine ⟨e :: es, by rw [List.length_cons, List.length_cons, hl], fun i x hx m hm => ?_, fun i u x hu hx => ?_⟩
    · cases i with
      | zero =>
        simp at hx
        subst hx
        rw [Nat.add_zero]
        match m, hm with
        | 0, _ => exact c0
        | 1, _ => exact c1
        | 2, _ => exact c2
        | 3, _ => exact c3
      | succ i =>
        have := hc i x (by simpa using hx) m hm
        rw [show j + 1 + i = j + (i + 1) from by omega] at this
        exact this
    · cases i with
      | zero => simp at hu hx; subst hu; subst hx; exact hv
      | succ i => exact hi i u x (by simpa using hu) (by simpa using hx)

/-- A piece of a row that lies. -/
theorem src_piece {w W : World} {b off p m cx : Nat} {es : List VC} (hc : ∀ (i : Nat) (e : VC), es[i]? = some e → ∀ m, m < 4 → w.cell? ⟨b, off + (0 + i) * 4 + m, none⟩ = e.cells[m]?) (hw : Chg NoS w W) (hp : p + m ≤ es.length) :
    Src W 4 (some ⟨b, off + p * 4, none⟩) m cx (vcells ((es.drop p).take m)) := by
  have hlen : ((es.drop p).take m).length = m := by rw [List.length_take, List.length_drop]; omega
  refine ⟨by rw [vcells_len, hlen], fun e => (by cases e), fun ad ha j u hj => ?_⟩
  cases ha
  have hj4 : j < m * 4 := by
    have := (List.getElem?_eq_some_iff.1 hj).1
    rw [vcells_len, hlen] at this
    exact this
  have hi : j / 4 < m := by omega
  have he : ((es.drop p).take m)[j / 4]? = es[p + j / 4]? := by rw [List.getElem?_take_of_lt hi, List.getElem?_drop]
  have hes : es[p + j / 4]? = some (es[p + j / 4]'(by omega)) := List.getElem?_eq_getElem (by omega)
  have h1 := vcells_at (he.trans hes) (show j % 4 < 4 from Nat.mod_lt _ (by decide))
  rw [show j / 4 * 4 + j % 4 = j from by omega, hj] at h1
  have h2 := hc _ _ hes (j % 4) (Nat.mod_lt _ (by decide))
  rw [← h1] at h2
  have hadd : (⟨b, off + p * 4, none⟩ : Addr).add j = ⟨b, off + (0 + (p + j / 4)) * 4 + j % 4, none⟩ := by
    unfold Addr.add
    split
    · next h => subst h; simp
    · simp; omega
  rw [hadd]
  exact (hw.cell (p := ⟨b, _, none⟩) (cell_lt h2) (fun h => h)).trans h2

/-- A value without a name. -/
noncomputable def dropT : VT → ByteArray → VT
  | .mk k n s l, key => if findI k l key < 0 then .mk k n s l else .mk k n s (l.take (findI k l key).toNat ++ l.drop ((findI k l key).toNat + 2))

theorem drop_no {k n : Int} {s : ByteArray} {l : List VT} {key : ByteArray} (h : findI k l key < 0) : dropT (.mk k n s l) key = .mk k n s l := by rw [dropT, if_pos h]

theorem drop_hit {k n : Int} {s : ByteArray} {l : List VT} {key : ByteArray} {q : Nat} (h : findI k l key = (q : Int)) : dropT (.mk k n s l) key = .mk k n s (l.take q ++ l.drop (q + 2)) := by
  rw [dropT, if_neg (by omega), h, Int.toNat_natCast]

/-- A tree that is told. -/
def TreeTo (w : World) (t : VT) (e : Ending) (w' : World) : Prop := ∃ c' : VC, e = .returned c'.val ∧ ValIs w' t c' ∧ Chg NoS w w'

end Go.Proofs.YtcehpobjnbgpdaaGreatDoor

/- The order of values is total: plain mathematics. -/
namespace Go.Proofs.YtcehpobjnbgpdaaGreatDoor
set_option linter.unusedVariables false
set_option linter.unusedSimpArgs false

/-- What a comparison may be that is an order. -/
structure CmpAt (x y z xy yz xz yx : Int) : Prop where
  val : xy = -1 ∨ xy = 0 ∨ xy = 1
  swap : yx = 0 - xy
  tr : xy ≤ 0 → yz ≤ 0 → xz ≤ 0 ∧ (xy < 0 ∨ yz < 0 → xz < 0)

def cmpI (a b : Int) : Int := if a < b then -1 else if a ≠ b then 1 else 0

def cmpS (a b : ByteArray) : Int := if Op.bytesLess a.toList b.toList then -1 else if a ≠ b then 1 else 0

theorem cmpI_val (a b : Int) : cmpI a b = -1 ∨ cmpI a b = 0 ∨ cmpI a b = 1 := by unfold cmpI; split <;> (try split) <;> simp

theorem cmpI_swap (a b : Int) : cmpI b a = 0 - cmpI a b := by unfold cmpI; split <;> split <;> (try split) <;> omega

theorem cmpI_tr (a b c : Int) : cmpI a b ≤ 0 → cmpI b c ≤ 0 → cmpI a c ≤ 0 ∧ (cmpI a b < 0 ∨ cmpI b c < 0 → cmpI a c < 0) := by
  unfold cmpI
  intro h1 h2
  repeat' split at *
  all_goals omega

theorem toList_inj {a b : ByteArray} (h : a.toList = b.toList) : a = b := by
  by_cases e : a = b
  · exact e
  · exact absurd h (str_ne11 e)

theorem cmpS_lt (a b : ByteArray) : cmpS a b = -1 ↔ a.toList < b.toList := by
  unfold cmpS
  rw [Go.Proofs.bytesLess_eq]
  by_cases h : a.toList < b.toList
  · simp [h]
  · simp only [h, decide_false, Bool.false_eq_true, if_false, iff_false]
    split <;> simp

theorem cmpS_eq (a b : ByteArray) : cmpS a b = 0 ↔ a = b := by
  unfold cmpS
  rw [Go.Proofs.bytesLess_eq]
  by_cases e : a = b
  · subst e
    simp [List.lt_irrefl]
  · simp only [e, ne_eq, not_false_eq_true, if_true, iff_false]
    split <;> simp

theorem cmpS_val (a b : ByteArray) : cmpS a b = -1 ∨ cmpS a b = 0 ∨ cmpS a b = 1 := by unfold cmpS; split <;> (try split) <;> simp

theorem cmpS_gt (a b : ByteArray) : cmpS a b = 1 ↔ b.toList < a.toList := by
  constructor
  · intro h
    have h1 : ¬ a.toList < b.toList := fun e => by rw [(cmpS_lt a b).2 e] at h; cases h
    have h2 : a ≠ b := fun e => by rw [(cmpS_eq a b).2 e] at h; cases h
    rcases Classical.em (b.toList < a.toList) with h3 | h3
    · exact h3
    · exact absurd (toList_inj (List.le_antisymm (List.not_lt.1 h3) (List.not_lt.1 h1))) h2
  · intro h
    rcases cmpS_val a b with e | e | e
    · exact absurd ((cmpS_lt a b).1 e) (List.lt_asymm h)
    · rw [(cmpS_eq a b).1 e] at h; exact absurd h (List.lt_irrefl _)
    · exact e

theorem cmpS_swap (a b : ByteArray) : cmpS b a = 0 - cmpS a b := by
  rcases cmpS_val a b with e | e | e
  · rw [e, (cmpS_gt b a).2 ((cmpS_lt a b).1 e)]; rfl
  · rw [e, (cmpS_eq b a).2 ((cmpS_eq a b).1 e).symm]; rfl
  · rw [e, (cmpS_lt b a).2 ((cmpS_gt a b).1 e)]; rfl

theorem cmpS_tr (a b c : ByteArray) : cmpS a b ≤ 0 → cmpS b c ≤ 0 → cmpS a c ≤ 0 ∧ (cmpS a b < 0 ∨ cmpS b c < 0 → cmpS a c < 0) := by
  intro h1 h2
  rcases cmpS_val a b with e | e | e
  · rcases cmpS_val b c with e2 | e2 | e2
    · have h3 := (cmpS_lt a c).2 (List.lt_trans ((cmpS_lt a b).1 e) ((cmpS_lt b c).1 e2)); omega
    · have h3 := (cmpS_eq b c).1 e2; subst h3; omega
    · omega
  · have h3 := (cmpS_eq a b).1 e; subst h3; omega
  · omega

/-- One order behind another. -/
theorem lex_tr {f1 f2 f3 g1 g2 g3 : Int} (v1 : f1 = -1 ∨ f1 = 0 ∨ f1 = 1) (v2 : f2 = -1 ∨ f2 = 0 ∨ f2 = 1) (hf : f1 ≤ 0 → f2 ≤ 0 → f3 ≤ 0 ∧ (f1 < 0 ∨ f2 < 0 → f3 < 0)) (hz : f1 = 0 → f2 = 0 → f3 = 0) (hg : g1 ≤ 0 → g2 ≤ 0 → g3 ≤ 0 ∧ (g1 < 0 ∨ g2 < 0 → g3 < 0)) :
    (if f1 ≠ 0 then f1 else g1) ≤ 0 → (if f2 ≠ 0 then f2 else g2) ≤ 0 → (if f3 ≠ 0 then f3 else g3) ≤ 0 ∧ ((if f1 ≠ 0 then f1 else g1) < 0 ∨ (if f2 ≠ 0 then f2 else g2) < 0 → (if f3 ≠ 0 then f3 else g3) < 0) := by
  intro h1 h2
  by_cases a1 : f1 = 0
  · have n1 : ¬ f1 ≠ 0 := fun e => e a1
    rw [if_neg n1] at h1 ⊢
    by_cases a2 : f2 = 0
    · have n2 : ¬ f2 ≠ 0 := fun e => e a2
      have n3 : ¬ f3 ≠ 0 := fun e => e (hz a1 a2)
      rw [if_neg n2] at h2 ⊢
      rw [if_neg n3]
      exact hg h1 h2
    · rw [if_pos a2] at h2 ⊢
      have h3 := hf (by omega) h2
      have p3 : f3 ≠ 0 := by omega
      rw [if_pos p3]
      omega
  · rw [if_pos a1] at h1 ⊢
    by_cases a2 : f2 = 0
    · have n2 : ¬ f2 ≠ 0 := fun e => e a2
      rw [if_neg n2] at h2 ⊢
      have h3 := hf h1 (by omega)
      have p3 : f3 ≠ 0 := by omega
      rw [if_pos p3]
      omega
    · rw [if_pos a2] at h2 ⊢
      have h3 := hf h1 h2
      have p3 : f3 ≠ 0 := by omega
      rw [if_pos p3]
      omega

theorem cmpH_eq (k n : Int) (s : ByteArray) (k' n' : Int) (s' : ByteArray) : cmpH k n s k' n' s' = if cmpI k k' ≠ 0 then cmpI k k' else if cmpI n n' ≠ 0 then cmpI n n' else cmpS s s' := by
  unfold cmpH cmpI cmpS
  by_cases h1 : k < k'
  · simp [h1]
  · by_cases h2 : k = k'
    · by_cases h3 : n < n'
      · simp [h1, h2, h3]
      · by_cases h4 : n = n'
        · simp [h2, h4]
        · simp [h2, h3, h4]
    · simp [h1, h2]

theorem zero_tr {xy yz xz yx zy zx : Int} (hs1 : yx = 0 - xy) (hs2 : zy = 0 - yz) (hs3 : zx = 0 - xz) (h1 : xy ≤ 0 → yz ≤ 0 → xz ≤ 0) (h2 : zy ≤ 0 → yx ≤ 0 → zx ≤ 0) : xy = 0 → yz = 0 → xz = 0 := by
  intro a b
  have c := h1 (by omega) (by omega)
  have d := h2 (by omega) (by omega)
  omega

theorem cmpI_zero (a b c : Int) : cmpI a b = 0 → cmpI b c = 0 → cmpI a c = 0 := zero_tr (cmpI_swap a b) (cmpI_swap b c) (cmpI_swap a c) (fun x y => (cmpI_tr a b c x y).1) (fun x y => (cmpI_tr c b a x y).1)

theorem cmpS_zero (a b c : ByteArray) : cmpS a b = 0 → cmpS b c = 0 → cmpS a c = 0 := zero_tr (cmpS_swap a b) (cmpS_swap b c) (cmpS_swap a c) (fun x y => (cmpS_tr a b c x y).1) (fun x y => (cmpS_tr c b a x y).1)

def cmpNS (n : Int) (s : ByteArray) (n' : Int) (s' : ByteArray) : Int := if cmpI n n' ≠ 0 then cmpI n n' else cmpS s s'

theorem lex_val {f g : Int} (hf : f = -1 ∨ f = 0 ∨ f = 1) (hg : g = -1 ∨ g = 0 ∨ g = 1) : (if f ≠ 0 then f else g) = -1 ∨ (if f ≠ 0 then f else g) = 0 ∨ (if f ≠ 0 then f else g) = 1 := by
  split
  · exact hf
  · exact hg

theorem lex_swap {f g f' g' : Int} (hf : f' = 0 - f) (hg : g' = 0 - g) : (if f' ≠ 0 then f' else g') = 0 - (if f ≠ 0 then f else g) := by
  by_cases h : f = 0
  · have n1 : ¬ f ≠ 0 := fun e => e h
    have n2 : ¬ f' ≠ 0 := fun e => e (by omega)
    rw [if_neg n1, if_neg n2, hg]
  · have p2 : f' ≠ 0 := by omega
    rw [if_pos h, if_pos p2, hf]

theorem cmpNS_tr (n : Int) (s : ByteArray) (n' : Int) (s' : ByteArray) (n2 : Int) (s2 : ByteArray) : cmpNS n s n' s' ≤ 0 → cmpNS n' s' n2 s2 ≤ 0 → cmpNS n s n2 s2 ≤ 0 ∧ (cmpNS n s n' s' < 0 ∨ cmpNS n' s' n2 s2 < 0 → cmpNS n s n2 s2 < 0) :=
  lex_tr (cmpI_val _ _) (cmpI_val _ _) (cmpI_tr n n' n2) (cmpI_zero n n' n2) (cmpS_tr s s' s2)

theorem cmpH_lex (k n : Int) (s : ByteArray) (k' n' : Int) (s' : ByteArray) : cmpH k n s k' n' s' = if cmpI k k' ≠ 0 then cmpI k k' else cmpNS n s n' s' := cmpH_eq k n s k' n' s'

theorem cmpH_val (k n : Int) (s : ByteArray) (k' n' : Int) (s' : ByteArray) : cmpH k n s k' n' s' = -1 ∨ cmpH k n s k' n' s' = 0 ∨ cmpH k n s k' n' s' = 1 := by
  rw [cmpH_lex]
  exact lex_val (cmpI_val _ _) (lex_val (cmpI_val _ _) (cmpS_val _ _))

theorem cmpH_swap (k n : Int) (s : ByteArray) (k' n' : Int) (s' : ByteArray) : cmpH k' n' s' k n s = 0 - cmpH k n s k' n' s' := by
  rw [cmpH_lex, cmpH_lex]
  exact lex_swap (cmpI_swap k k') (lex_swap (cmpI_swap n n') (cmpS_swap s s'))

theorem cmpH_tr (k n : Int) (s : ByteArray) (k' n' : Int) (s' : ByteArray) (k2 n2 : Int) (s2 : ByteArray) : cmpH k n s k' n' s' ≤ 0 → cmpH k' n' s' k2 n2 s2 ≤ 0 → cmpH k n s k2 n2 s2 ≤ 0 ∧ (cmpH k n s k' n' s' < 0 ∨ cmpH k' n' s' k2 n2 s2 < 0 → cmpH k n s k2 n2 s2 < 0) := by
  rw [cmpH_lex, cmpH_lex, cmpH_lex]
  exact lex_tr (cmpI_val _ _) (cmpI_val _ _) (cmpI_tr k k' k2) (cmpI_zero k k' k2) (cmpNS_tr n s n' s' n2 s2)

theorem cmpH_zero (k n : Int) (s : ByteArray) (k' n' : Int) (s' : ByteArray) (k2 n2 : Int) (s2 : ByteArray) : cmpH k n s k' n' s' = 0 → cmpH k' n' s' k2 n2 s2 = 0 → cmpH k n s k2 n2 s2 = 0 :=
  zero_tr (cmpH_swap k n s k' n' s') (cmpH_swap k' n' s' k2 n2 s2) (cmpH_swap k n s k2 n2 s2) (fun x y => (cmpH_tr k n s k' n' s' k2 n2 s2 x y).1) (fun x y => (cmpH_tr k2 n2 s2 k' n' s' k n s x y).1)

mutual
theorem cmpT_val : ∀ (a b : VT), cmpT a b = -1 ∨ cmpT a b = 0 ∨ cmpT a b = 1
  | .mk k n s l, .mk k' n' s' l' => by
    rw [cmpT_mk]
    exact lex_val (cmpH_val _ _ _ _ _ _) (cmpL_val l l')
theorem cmpL_val : ∀ (l l' : List VT), cmpL l l' = -1 ∨ cmpL l l' = 0 ∨ cmpL l l' = 1
  | [], [] => by rw [cmpL]; exact .inr (.inl rfl)
  | [], _ :: _ => by rw [cmpL]; exact .inl rfl
  | _ :: _, [] => by rw [cmpL]; exact .inr (.inr rfl)
  | t :: l, t' :: l' => by
    rw [cmpL_cons]
    exact lex_val (cmpT_val t t') (cmpL_val l l')
end

mutual
theorem cmpT_swap : ∀ (a b : VT), cmpT b a = 0 - cmpT a b
  | .mk k n s l, .mk k' n' s' l' => by
    rw [cmpT_mk, cmpT_mk]
    exact lex_swap (cmpH_swap _ _ _ _ _ _) (cmpL_swap l l')
theorem cmpL_swap : ∀ (l l' : List VT), cmpL l' l = 0 - cmpL l l'
  | [], [] => by rw [cmpL]; rfl
  | [], _ :: _ => by rw [cmpL, cmpL]; rfl
  | _ :: _, [] => by rw [cmpL, cmpL]; rfl
  | t :: l, t' :: l' => by
    rw [cmpL_cons, cmpL_cons]
    exact lex_swap (cmpT_swap t t') (cmpL_swap l l')
end

theorem cmpT_self (a : VT) : cmpT a a = 0 := by have := cmpT_swap a a; omega

mutual
theorem cmpT_tr : ∀ (a b c : VT), (cmpT a b ≤ 0 → cmpT b c ≤ 0 → cmpT a c ≤ 0 ∧ (cmpT a b < 0 ∨ cmpT b c < 0 → cmpT a c < 0)) ∧ (cmpT a b = 0 → cmpT b c = 0 → cmpT a c = 0)
  | .mk k n s l, .mk k' n' s' l', .mk k2 n2 s2 l2 => by
    rw [cmpT_mk, cmpT_mk, cmpT_mk]
    have h := cmpL_tr l l' l2
    refine ⟨lex_tr (cmpH_val _ _ _ _ _ _) (cmpH_val _ _ _ _ _ _) (cmpH_tr k n s k' n' s' k2 n2 s2) (cmpH_zero k n s k' n' s' k2 n2 s2) h.1, fun h1 h2 => ?_⟩
    by_cases a1 : cmpH k n s k' n' s' = 0
    · by_cases a2 : cmpH k' n' s' k2 n2 s2 = 0
      · have a3 := cmpH_zero k n s k' n' s' k2 n2 s2 a1 a2
        rw [if_neg (fun e => e a1)] at h1
        rw [if_neg (fun e => e a2)] at h2
        rw [if_neg (fun e => e a3)]
        exact h.2 h1 h2
      · rw [if_pos a2] at h2; exact absurd h2 a2
    · rw [if_pos a1] at h1; exact absurd h1 a1
theorem cmpL_tr : ∀ (a b c : List VT), (cmpL a b ≤ 0 → cmpL b c ≤ 0 → cmpL a c ≤ 0 ∧ (cmpL a b < 0 ∨ cmpL b c < 0 → cmpL a c < 0)) ∧ (cmpL a b = 0 → cmpL b c = 0 → cmpL a c = 0)
  | [], b, c => by
    rcases b with _ | ⟨t', l'⟩ <;> rcases c with _ | ⟨t2, l2⟩ <;> simp [cmpL]
  | t :: l, b, c => by
    rcases b with _ | ⟨t', l'⟩
    · simp [cmpL]
    · rcases c with _ | ⟨t2, l2⟩
      · simp [cmpL]
      · rw [cmpL_cons, cmpL_cons, cmpL_cons]
        have hT := cmpT_tr t t' t2
        have h := cmpL_tr l l' l2
        refine ⟨lex_tr (cmpT_val _ _) (cmpT_val _ _) hT.1 hT.2 h.1, fun h1 h2 => ?_⟩
        by_cases a1 : cmpT t t' = 0
        · by_cases a2 : cmpT t' t2 = 0
          · have a3 := hT.2 a1 a2
            rw [if_neg (fun e => e a1)] at h1
            rw [if_neg (fun e => e a2)] at h2
            rw [if_neg (fun e => e a3)]
            exact h.2 h1 h2
          · rw [if_pos a2] at h2; exact absurd h2 a2
        · rw [if_pos a1] at h1; exact absurd h1 a1
end

end Go.Proofs.YtcehpobjnbgpdaaGreatDoor

