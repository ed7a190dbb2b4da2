/- Merged by program: VDep VNms VAln VChk. -/
import Derived.Test.YtcehpobjnbgpdaaGreatDoorG06
import Derived.Test.YtcehpobjnbgpdaaGreatDoorG13
import Derived.Test.YtcehpobjnbgpdaaGreatDoorShelf
import Derived.BigQuiet
/- The program's Depth, and depthUpto. -/
namespace Go.Proofs.YtcehpobjnbgpdaaGreatDoor
open Go.RowKit
set_option linter.unusedVariables false
set_option linter.unusedSimpArgs false

def stepD (most : Nat) (t : VT) (d : Nat) (st : Nat) : Nat × Bool := (max st d, decide (d < most ∧ (t.kind = 6 ∨ t.kind = 7)))

/-- What the two boxes hold. -/
structure DJ (w0 : World) (g2 g1 most : Nat) (st : Nat) (W : World) : Prop where
  a : Blk W g2 3 #[.int .i64 (st : Nat)]
  b : Blk W g1 3 #[.int .i64 (most : Nat)]
  ne : g1 ≠ g2
  new : w0.heap.size ≤ g2
  chg : Chg NoS w0 W

theorem DJ.call {w0 W W' : World} {g2 g1 most st : Nat} (h : DJ w0 g2 g1 most st W) (hc : Chg NoS W W') : DJ w0 g2 g1 most st W' := ⟨h.a.chg hc (fun e => e), h.b.chg hc (fun e => e), h.ne, h.new, h.chg.trans hc (fun _ _ e => e)⟩

theorem DJ.set {w0 W : World} {g2 g1 most st : Nat} (h : DJ w0 g2 g1 most st W) (n : Nat) : DJ w0 g2 g1 most n (W.setCell ⟨g2, 0, none⟩ (.int .i64 (n : Nat))) :=
  ⟨h.a.set_ 0 _, h.b.far (p := ⟨g2, 0, none⟩) h.ne _, h.ne, h.new, h.chg.setCell (p := ⟨g2, 0, none⟩) (fun h2 => absurd h2 (Nat.not_lt.2 h.new)) _⟩

set_option maxHeartbeats 2000000 in
theorem dep1_any (w0 : World) (g2 g1 most : Nat) (t : VT) (c : VC) (d st : Nat) (W : World) (hv : ValIs W t c) (hj : DJ w0 g2 g1 most st W) :
    Calls Tryz.prog 79 #[c.val, .int .i64 (d : Nat), .pointer (some ⟨g2, 0, none⟩), .pointer (some ⟨g1, 0, none⟩)] W fun e w' => e = .returned (.bool (stepD most t d st).2) ∧ DJ w0 g2 g1 most (stepD most t d st).1 w' ∧ Chg (fun i => i = g2) W w' := by
  obtain ⟨tk, tn, ts, l⟩ := t
  obtain ⟨h1, h2, h3, _, _, _⟩ := hv.inv
  obtain ⟨ck, cn, cs, A, len, cap⟩ := c
  simp only [] at h1 h2 h3
  subst h1 h2 h3
  have HJ := keepf (hj.call ((Chg.refl NoS W).alloc (.cells #[.int .i64 ck, .int .i64 cn, .string cs, .slice A len cap] 24)))
  have hl := hj.a.lt
  have hne : ¬ W.heap.size = g2 := by omega
  have x0 := HJ.out.a.cell 0
  have y0 := HJ.out.b.cell 0
  have x1 := HJ.out.a.frozen 0
  simp at x0 y0
  have HC := keepf (((Chg.refl (fun i => i = g2) W).alloc (.cells #[.int .i64 ck, .int .i64 cn, .string cs, .slice A len cap] 24)))
  have HB := keepf (Blk.new W 24 #[.int .i64 ck, .int .i64 cn, .string cs, .slice A len cap])
  obtain ⟨m, hm⟩ : ∃ m : Nat, m = max st d := ⟨_, rfl⟩
  have HJ2 := keepf (HJ.out.set m)
  have HB2 := keepf (HB.out.far (p := ⟨g2, 0, none⟩) hne (.int .i64 (m : Nat)))
  have HC2 := keepf (HC.out.setCell (p := ⟨g2, 0, none⟩) (fun _ => rfl) (.int .i64 (m : Nat)))
  have z0 := HB2.out.cell 0
  have z1 := HJ2.out.b.cell 0
  simp at z0 z1
  have HST := keepf (show (stepD most (.mk ck cn cs l) d st).1 = m from hm.symm)
  have HS2 := keepf (show (stepD most (.mk ck cn cs l) d st).2 = decide (d < most ∧ (ck = 6 ∨ ck = 7)) from rfl)
  rw [HST.out, HS2.out]
  unfold VC.val
  simp only []
  clear hj hv hl hne HST HS2
  have HM : Hid (max (st : Int) (d : Int) = (m : Nat)) := by show _ = _; rw [hm]; omega
  clear hm
  by_cases h1 : d < most
  · have e1 : decide ((d : Int) < (most : Int)) = true := by simpa using h1
    have e1' : decide (d < most) = true := by simpa using h1
    by_cases h6 : ck = 6
    · subst h6
      have HK := keepf h1
      clear h1
      go_enter Tryz.func79, Tryz.ntmps79
      go_upto_region 2 with fail
      rw [HM.out]
      go_wp2_with fail
      go_ret
      exact ⟨by first | rfl | simp [HK.out], HJ2.out, HC2.out⟩
    · have e6 : (ck == 6) = false := by simpa using h6
      by_cases h7 : ck = 7
      · subst h7
        have HK := keepf h1
        clear h1 h6
        go_enter Tryz.func79, Tryz.ntmps79
        go_upto_region 2 with fail
        rw [HM.out]
        go_wp2_with fail
        go_ret
        exact ⟨by first | rfl | simp [HK.out], HJ2.out, HC2.out⟩
      · have e7 : (ck == 7) = false := by simpa using h7
        have HK6 := keepf h6
        have HK7 := keepf h7
        clear h1 h6 h7
        go_enter Tryz.func79, Tryz.ntmps79
        go_upto_region 2 with fail
        rw [HM.out]
        go_wp2_with fail
        go_ret
        exact ⟨by first | rfl | simp [HK6.out, HK7.out], HJ2.out, HC2.out⟩
  · have e1 : decide ((d : Int) < (most : Int)) = false := by simpa using h1
    have e1' : decide (d < most) = false := by simpa using h1
    have HK := keepf h1
    clear h1
    go_enter Tryz.func79, Tryz.ntmps79
    go_upto_region 2 with fail
    rw [HM.out]
    go_wp2_with fail
    go_ret
    exact ⟨by first | rfl | simp [HK.out], HJ2.out, HC2.out⟩

theorem dep_see (w0 : World) (g2 g1 most : Nat) : SeeOf w0 79 #[.pointer (some ⟨g2, 0, none⟩), .pointer (some ⟨g1, 0, none⟩)] (fun i => i = g2) (DJ w0 g2 g1 most) (stepD most) where
  chg := fun _ _ h => h.chg
  keep := fun _ _ _ h hc => h.call hc
  low := fun _ _ h i hi => hi ▸ h.a.lt
  see := fun t c d st W hv hj _ => dep1_any w0 g2 g1 most t c d st W hv hj

theorem depthL_max : ∀ (l : List VT) (a : Nat), 1 ≤ a → depthL a l = max a (depthL 1 l)
  | [], a => fun h => by rw [depthL, depthL]; omega
  | t :: l, a => fun h => by
    have h1 := depthT_le t
    have e1 := depthL_max l (depthT t + 1) (by omega)
    have e2 := depthL_max l a h
    rw [depthL_cons, depthL_cons, if_pos (show 1 < depthT t + 1 by omega)]
    split
    · rw [e1]; omega
    · rw [e1, e2]; omega

theorem depthL_two (t : VT) (l : List VT) : depthL 1 (t :: l) = max (depthT t + 1) (depthL 1 l) := by
  have h1 := depthT_le t
  rw [depthL_cons, if_pos (show 1 < depthT t + 1 by omega), depthL_max l (depthT t + 1) (by omega)]

mutual
theorem walkD_T (most : Nat) : ∀ (t : VT) (d st : Nat), 1 ≤ d → d ≤ most → walkT (stepD most) t d st = max st (min most (d - 1 + depthT t))
  | .mk k n s l, d, st => fun h1 h2 => by
    by_cases h : d < most ∧ (k = 6 ∨ k = 7)
    · rw [walkT_on (show (stepD most (.mk k n s l) d st).2 = true from decide_eq_true h)]
      show walkL (stepD most) l (d + 1) (max st d) = _
      rw [walkD_L most l (d + 1) (max st d) (by omega) (by omega) (by omega), depthT, if_pos h.2]
      have := (depthL_le l 1 (Nat.le_refl _)).1
      omega
    · rw [walkT_no (show (stepD most (.mk k n s l) d st).2 = false from decide_eq_false h)]
      show max st d = _
      have h4 := (depthT_le (.mk k n s l)).1
      by_cases h3 : d = most
      · omega
      · have h5 : ¬ (k = 6 ∨ k = 7) := fun e => h ⟨by omega, e⟩
        rw [depthT, if_neg h5]
        omega
theorem walkD_L (most : Nat) : ∀ (l : List VT) (d st : Nat), 2 ≤ d → d ≤ most → d - 1 ≤ st → walkL (stepD most) l d st = max st (min most (d - 2 + depthL 1 l))
  | [], d, st => fun h1 h2 h3 => by rw [walkL, depthL]; omega
  | t :: l, d, st => fun h1 h2 h3 => by
    have h4 := (depthT_le t).1
    rw [walkL_cons, walkD_T most t d st (by omega) h2, walkD_L most l d _ h1 h2 (by omega), depthL_two]
    omega
end

set_option maxHeartbeats 2000000 in
set_option maxRecDepth 100000 in
theorem depu_any (t : VT) (c : VC) (most : Nat) (w : World) (hv : ValIs w t c) (hs : sizT t ≤ 1000000000) (hm : 1 ≤ most) :
    Calls Tryz.prog 44 #[c.val, .int .i64 (most : Nat)] w fun e w' => e = .returned (.int .i64 ((min most (depthT t) : Nat) : Int)) ∧ Chg NoS w w' := by
  have HV := keepf hv
  obtain ⟨ck, cn, cs, A, len, cap⟩ := c
  unfold VC.val
  simp only []
  have HB := keepf (((Blk.new w 24 #[.int .i64 ck, .int .i64 cn, .string cs, .slice A len cap]).alloc (.cells #[.int .i64 (most : Nat)] 3)).alloc (.cells #[.int .i64 0] 3))
  have hb1 := (Blk.new (w.alloc (.cells #[.int .i64 ck, .int .i64 cn, .string cs, .slice A len cap] 24)) 3 #[.int .i64 (most : Nat)]).alloc (.cells #[.int .i64 0] 3)
  have hb2 := (Blk.new ((w.alloc (.cells #[.int .i64 ck, .int .i64 cn, .string cs, .slice A len cap] 24)).alloc (.cells #[.int .i64 (most : Nat)] 3)) 3 #[.int .i64 ((0 : Nat) : Int)])
  simp only [World.size_alloc] at hb1 hb2
  have HJ := keepf ((⟨hb2, hb1, by omega, by omega, (((Chg.refl NoS w).alloc _).alloc _).alloc _⟩ : DJ w (w.heap.size + 1 + 1) (w.heap.size + 1) most 0 _))
  have x0 := HB.out.cell 0
  have x1 := HB.out.cell 1
  have x2 := HB.out.cell 2
  have x3 := HB.out.cell 3
  simp at x0 x1 x2 x3
  have HX := keepf (walk_any w 79 _ (fun args w => rfl) _ _ _ (dep_see w (w.heap.size + 1 + 1) (w.heap.size + 1) most) t ⟨ck, cn, cs, A, len, cap⟩ 1 0 _ HV.out HJ.out (by omega))
  rw [walkD_T most t 1 0 (Nat.le_refl _) hm] at HX
  have HE := keepf (show max 0 (min most (1 - 1 + depthT t)) = min most (depthT t) by omega)
  rw [HE.out] at HX
  unfold VC.val at HX
  simp only [] at HX
  clear hb1 hb2
  go_enter Tryz.func44, Tryz.ntmps44
  go_wp2_with (go_at_call 45; refine HX.out.mono ?_; rintro e w4 ⟨rfl, hj4, hc4⟩; have q0 := hj4.a.cell 0; simp at q0; have HJ4 := keepf hj4; clear hj4 hc4)
  go_ret
  exact ⟨rfl, HJ4.out.chg⟩

end Go.Proofs.YtcehpobjnbgpdaaGreatDoor

/- The program's check of a dictionary's names; and strings.Contains at the byte 0. -/
namespace Go.Proofs.YtcehpobjnbgpdaaGreatDoor
open Go.RowKit
set_option linter.unusedVariables false
set_option linter.unusedSimpArgs false

/-- What has been found of the names before the pair j. -/
def nmR (l : List VT) (j : Nat) (r : Int) : Prop := (∀ i t, i < j → l[2 * i]? = some t → t.kind = 5) ∧ ((r = 0 ∧ ∀ i t u, i + 1 < j → l[2 * i]? = some t → l[2 * i + 2]? = some u → Op.bytesLess t.str.toList u.str.toList = true) ∨ (r = 16 ∧ ¬ riseO l))

theorem nmR_zero (l : List VT) : nmR l 0 0 := ⟨fun i t h => absurd h (Nat.not_lt_zero i), .inl ⟨rfl, fun i t u h => absurd h (by omega)⟩⟩

theorem nmR_kind {l : List VT} {j q : Nat} {t : VT} {r : Int} (hn : nmR l j r) (hq : q = 2 * j) (ht : l[q]? = some t) (h5 : t.kind = 5) : ∀ i u, i < j + 1 → l[2 * i]? = some u → u.kind = 5 := by
  intro i u hi hu
  rcases Nat.lt_or_ge i j with h | h
  · exact hn.1 i u h hu
  · obtain rfl : i = j := by omega
    rw [← hq, ht] at hu
    cases hu
    exact h5

theorem nmR_one {l : List VT} {t : VT} {r : Int} (hn : nmR l 0 r) (ht : l[0]? = some t) (h5 : t.kind = 5) : nmR l 1 r := by
  refine ⟨nmR_kind hn (q := 0) rfl ht h5, ?_⟩
  rcases hn.2 with ⟨rfl, h⟩ | h
  · exact .inl ⟨rfl, fun i t u h => absurd h (by omega)⟩
  · exact .inr h

theorem nmR_up {l : List VT} {j p q : Nat} {t u : VT} {r : Int} (hn : nmR l (j + 1) r) (hp : p = 2 * j) (hq : q = 2 * (j + 1)) (ht : l[p]? = some t) (hu : l[q]? = some u) (h5 : u.kind = 5) (hl : Op.bytesLess t.str.toList u.str.toList = true) : nmR l (j + 1 + 1) r := by
  refine ⟨nmR_kind hn hq hu h5, ?_⟩
  rcases hn.2 with ⟨rfl, h⟩ | h
  · refine .inl ⟨rfl, fun i t' u' hi hit hiu => ?_⟩
    rcases Nat.lt_or_ge (i + 1) (j + 1) with h2 | h2
    · exact h i t' u' h2 hit hiu
    · obtain rfl : i = j := by omega
      rw [← hp, ht] at hit
      rw [show 2 * i + 2 = q by omega, hu] at hiu
      cases hit
      cases hiu
      exact hl
  · exact .inr h

theorem nmR_no {l : List VT} {j p q : Nat} {t u : VT} {r : Int} (hn : nmR l (j + 1) r) (hp : p = 2 * j) (hq : q = 2 * (j + 1)) (ht : l[p]? = some t) (hu : l[q]? = some u) (h5 : u.kind = 5) (hl : Op.bytesLess t.str.toList u.str.toList = false) : nmR l (j + 1 + 1) 16 := by
  refine ⟨nmR_kind hn hq hu h5, .inr ⟨rfl, fun h => ?_⟩⟩
  have h2 := h j t u (by rw [← hp]; exact ht) (by rw [show 2 * j + 2 = q by omega]; exact hu)
  rw [hl] at h2
  cases h2

theorem nmR_end {l : List VT} {j : Nat} {r : Int} (hn : nmR l j r) (he : l.length % 2 = 0) (hj : l.length ≤ 2 * j) : dictO 0 0 l = r := by
  have h1 : namesO l := fun i t hit => hn.1 i t (by have h := (List.getElem?_eq_some_iff.1 hit).1; omega) hit
  rcases hn.2 with ⟨rfl, h⟩ | ⟨rfl, h⟩
  · exact dict_ok he h1 (fun i t u hit hiu => h i t u (by have h := (List.getElem?_eq_some_iff.1 hiu).1; omega) hit hiu)
  · exact dict_key he h1 h

set_option maxHeartbeats 4000000 in
set_option maxRecDepth 100000 in
theorem names_any (l : List VT) (A : Option Addr) (len cap : Nat) (w0 w : World) (hl : l.length = len) (hr : RowIs w0 A 0 l) (hlm : len ≤ maxLen) (hc : Chg NoS w0 w) :
    Calls Tryz.prog 82 #[.slice A len cap] w fun e w' => e = .returned (.int .i64 (dictO 0 0 l)) ∧ Chg NoS w w' := by
  unfold maxLen at hlm
  obtain ⟨r, hr2⟩ : ∃ r : Nat, len % 2 = r := ⟨_, rfl⟩
  have t1 : (len : Int).tmod 2 = (r : Int) := by rw [Int.tmod_eq_emod_of_nonneg (by omega)]; omega
  have t2 : (len : Int) % 2 = (r : Int) := by omega
  have HC := keepf hc
  clear hc
  by_cases h2 : r = 0
  · subst h2
    have HEV := keepf (show l.length % 2 = 0 from by rw [hl]; exact hr2)
    have HL := keepf hl
    have HR := keepf hr
    have HLE := keepf hr2
    clear hr2 hl hr
    go_enter Tryz.func82, Tryz.ntmps82
    go_upto_region 5 with fail
    go_loopw [3, 4] (fun ve va wr => ∃ (j : Nat) (r : Int), 2 * j ≤ len ∧ ve = .int .i64 r ∧ va = .int .i64 ((2 * j : Nat) : Int) ∧ Hid (Chg NoS w wr) ∧ Hid (nmR l j r)) (fun _ va _ => len - (intOf va).toNat)
    case atStart => exact ⟨0, 0, by omega, rfl, by go_num, Chg.refl _ _, nmR_zero l⟩
    case round =>
      obtain ⟨j, r, hj, rfl, rfl, HCW, HN⟩ := hrel
      obtain ⟨q, hq⟩ : ∃ q, q = 2 * j := ⟨_, rfl⟩
      rw [← hq] at hj ⊢
      have HQ := keepf hq
      clear hq
      have HCR := keepf (HC.out.trans HCW.out (fun _ _ e => e))
      by_cases h1 : q < len
      · obtain ⟨u, hu, _⟩ := drop_vt (l := l) (k := q) (by rw [HL.out]; exact h1)
        obtain ⟨b, off, rfl⟩ : ∃ b off, A = some ⟨b, off, none⟩ := by
          have h := HR.out
          cases hll : l with
          | nil => rw [hll] at hu; simp at hu
          | cons t0 l0 => rw [hll] at h; exact h.start
        obtain ⟨eA, el, ec, c0, _, c2, _, _⟩ := HR.out.nth HCR.out hu
        have i1 : (q : Int) < len := by omega
        obtain ⟨uk, huk⟩ : ∃ uk, u.kind = uk := ⟨_, rfl⟩
        obtain ⟨us, hus⟩ : ∃ us, u.str = us := ⟨_, rfl⟩
        rw [huk] at c0
        rw [hus] at c2
        have HU := keepf hu
        have HUK := keepf huk
        have HUS := keepf hus
        clear hu huk hus
        by_cases h5 : uk = 5
        · subst h5
          cases j with
          | zero =>
            obtain rfl : q = 0 := HQ.out
            simp only [Nat.zero_mul, Nat.add_zero] at c0 c2
            have HNN := keepf (nmR_one HN.out HU.out HUK.out)
            have d0 : decide ((0 : Int) < 0) = false := by decide
            go_upto_region 9 with fail
            go_quiet (fail)
            go_wp2_with fail
            go_roundw
            case rel => exact ⟨1, r, by have := HLE.out; omega, rfl, by go_num, HCW.out.drewN nq, HNN.out⟩
            case measure => simp [intOf]; omega
          | succ m =>
            obtain ⟨p, hp⟩ : ∃ p, p = 2 * m := ⟨_, rfl⟩
            have hqp : (q : Int) - 2 = (p : Int) := by have := HQ.out; omega
            have hp3 : p < len := by have := HQ.out; omega
            have HPP := keepf hp
            clear hp
            obtain ⟨t, ht, _⟩ := drop_vt (l := l) (k := p) (by rw [HL.out]; exact hp3)
            obtain ⟨eA', el', ec', _, _, c2', _, _⟩ := HR.out.nth HCR.out ht
            have k1 : IntKind.i64.wrap (p : Int) = (p : Int) := by rw [IntKind.wrap_i64]; omega
            have k2 : IntKind.i64.wrap ((q : Int) - 2) = (p : Int) := by rw [hqp, k1]
            have i2 : (p : Int) < len := by omega
            have i3 : (0 : Int) ≤ (q : Int) - 2 := by omega
            have i4 : (q : Int) - 2 < len := by omega
            have d0 : decide ((0 : Int) < (q : Int)) = true := by simp; omega
            have d0' : decide (0 < q) = true := by simp; omega
            obtain ⟨ts, hts⟩ : ∃ ts, t.str = ts := ⟨_, rfl⟩
            rw [hts] at c2'
            have HT := keepf ht
            have HTS := keepf hts
            clear ht hts
            by_cases hb : Op.bytesLess ts.toList us.toList = true
            · have HNN := keepf (nmR_up HN.out HPP.out HQ.out HT.out HU.out HUK.out (by rw [HTS.out, HUS.out]; exact hb))
              go_upto_region 9 with fail
              go_quiet (fail)
              go_wp2_with fail
              go_roundw
              case rel => exact ⟨m + 1 + 1, r, by have := HLE.out; have := HQ.out; omega, rfl, by have := HQ.out; first | (go_num; done) | (go_num; omega), HCW.out.drewN nq, HNN.out⟩
              case measure => simp [intOf]; omega
            · have hb2 : Op.bytesLess ts.toList us.toList = false := by simpa using hb
              have HNN := keepf (nmR_no HN.out HPP.out HQ.out HT.out HU.out HUK.out (by rw [HTS.out, HUS.out]; exact hb2))
              clear hb
              go_upto_region 9 with fail
              go_quiet (fail)
              go_wp2_with fail
              go_roundw
              case rel => exact ⟨m + 1 + 1, 16, by have := HLE.out; have := HQ.out; omega, rfl, by have := HQ.out; first | (go_num; done) | (go_num; omega), HCW.out.drewN nq, HNN.out⟩
              case measure => simp [intOf]; omega
        · have e5 : (uk == 5) = false := by simpa using h5
          have e5' : (uk != 5) = true := by simpa using h5
          have HE := keepf (dict_arg (n := 0) (sz := 0) (l := l) (.inr (.inr (.inr (fun h => h5 (by rw [← HUK.out]; exact h j u (by rw [← HQ.out]; exact HU.out)))))))
          clear h5
          go_wp2_with fail
          go_ret
          exact ⟨ret_v64 HE.out.symm, HCW.out⟩
      · have HE := keepf (nmR_end HN.out HEV.out (by rw [HL.out]; have := HQ.out; omega))
        have d1 : decide ((q : Int) < len) = false := by simp; omega
        have d1' : decide (q < len) = false := by simp; omega
        go_wp2_with fail
        go_ret
        exact ⟨ret_v64 HE.out.symm, HCW.out⟩
  · have e2 : ((r : Int) == 0) = false := by simpa using h2
    have e2' : ((r : Int) != 0) = true := by simpa using h2
    have HE := keepf (dict_arg (n := 0) (sz := 0) (l := l) (.inr (.inr (.inl (by rw [hl, hr2]; exact h2)))))
    clear h2 hr2 hl hr
    go_enter Tryz.func82, Tryz.ntmps82
    go_wp2_with fail
    go_ret
    exact ⟨ret_v64 HE.out.symm, Chg.refl _ _⟩

theorem has0_iff (s : ByteArray) : (∀ d ∈ sl s, d ≠ 0) ↔ Lib.indexByte s.data.toList 0 = -1 := by
  have e1 : sl s = s.data.toList.map UInt8.toNat := rfl
  constructor
  · intro h
    have hge := Lib.indexByte_ge s.data.toList 0
    by_cases h2 : Lib.indexByte s.data.toList 0 = -1
    · exact h2
    · obtain ⟨o, ho⟩ : ∃ o : Nat, Lib.indexByte s.data.toList 0 = o := ⟨(Lib.indexByte s.data.toList 0).toNat, by omega⟩
      have h3 := (Lib.indexByte_some ho).1
      have h4 := List.mem_of_getElem? h3
      exact absurd rfl (h 0 (by rw [e1]; exact List.mem_map.2 ⟨0, h4, rfl⟩))
  · intro h d hd
    rw [e1] at hd
    obtain ⟨x, hx, rfl⟩ := List.mem_map.1 hd
    obtain ⟨k, hk⟩ := List.getElem?_of_mem hx
    intro h0
    have h3 : x = 0 := UInt8.toNat_inj.1 h0
    subst h3
    exact Lib.indexByte_none h k hk

theorem cont0_any (s : ByteArray) (w : World) : Calls Tryz.prog 81 #[.string s, .string ⟨#[0]⟩] w fun e w' => e = .returned (.bool (decide (¬ ∀ d ∈ sl s, d ≠ 0))) ∧ w' = w := by
  have HI := keepf (fun W => Go.Proofs.Tryz.stringslite_Index_one s 0 W)
  have hge := Lib.indexByte_ge s.data.toList 0
  obtain ⟨z, hz⟩ : ∃ z, Lib.indexByte s.data.toList 0 = z := ⟨_, rfl⟩
  have hd : decide (¬ ∀ d ∈ sl s, d ≠ 0) = decide (0 ≤ z) := by
    apply decide_eq_decide.2
    rw [has0_iff, hz]
    rw [hz] at hge
    omega
  rw [hz] at HI
  rw [hd]
  clear hz hge hd
  have HS : Hid (∀ W, Calls Tryz.prog 117 #[.string s, .string ⟨#[0]⟩] W fun e w' => e = .returned (.int .i64 z) ∧ w' = W) := by
    show ∀ W, _
    intro W
    go_enter Tryz.func117, Tryz.ntmps117
    go_wp2_with (go_at_call 137; refine (HI.out _).mono ?_; rintro e w2 ⟨rfl, rfl⟩)
    go_ret
    exact ⟨rfl, rfl⟩
  go_enter Tryz.func81, Tryz.ntmps81
  go_wp2_with (go_at_call 117; refine (HS.out _).mono ?_; rintro e w2 ⟨rfl, rfl⟩)
  go_ret
  exact ⟨rfl, rfl⟩

end Go.Proofs.YtcehpobjnbgpdaaGreatDoor

/- The program's check of a value by itself. -/
namespace Go.Proofs.YtcehpobjnbgpdaaGreatDoor
open Go.RowKit
set_option linter.unusedVariables false
set_option linter.unusedSimpArgs false

theorem own_x {k : Int} (h0 : k ≠ 0) (h1 : k ≠ 1) (h2 : k ≠ 2) (h3 : k ≠ 3) (h4 : k ≠ 4) (h5 : k ≠ 5) (h6 : k ≠ 6) (h7 : k ≠ 7) (h8 : k ≠ 8) (n : Int) (s : ByteArray) (l : List VT) : ownO k n s l = 2 := by
  rw [ownO, if_neg h0, if_neg h1, if_neg (by omega), if_neg h4, if_neg h5, if_neg h6, if_neg h7, if_neg h8]

set_option maxHeartbeats 8000000 in
set_option maxRecDepth 100000 in
theorem alone_any (c : VC) (l : List VT) (w : World) (hv : ValIs w (.mk c.k c.n c.s l) c) :
    Calls Tryz.prog 47 #[c.val] w fun e w' => e = .returned (.int .i64 (ownO c.k c.n c.s l)) ∧ Chg NoS w w' := by
  obtain ⟨_, _, _, hg, hl, hr⟩ := hv.inv
  obtain ⟨k, n, s, A, len, cap⟩ := c
  simp only [] at hl hr
  have hlm := hg.len
  have hss := hg.s
  simp only [] at hlm hss
  unfold maxLen at hss
  unfold VC.val
  simp only []
  have HC0 := keepf ((Chg.refl NoS w).alloc (.cells #[.int .i64 k, .int .i64 n, .string s, .slice A len cap] 24))
  have HN := keepf (fun (W : World) (h : Chg NoS w W) => names_any l A len cap w W hl hr hlm h)
  have HT := keepf (fun W => cont0_any s W)
  have HK := keepf (fun W => chk_any k n s A len cap W)
  have HL := keepf hl
  obtain ⟨tb, htb⟩ : ∃ tb, s.toList.isEmpty = tb := ⟨_, rfl⟩
  obtain ⟨lb, hlb⟩ : ∃ lb, ((len : Int) == 0) = lb := ⟨_, rfl⟩
  have HTB : Hid ((tb = true ∧ s.size = 0) ∨ (tb = false ∧ ¬ s.size = 0)) := by
    show _ ∨ _
    by_cases h : s.size = 0
    · rw [str_nil h] at htb; subst htb; exact .inl ⟨by simp [ByteArray.toList_eq], h⟩
    · rw [str_em11 h] at htb; subst htb; exact .inr ⟨rfl, h⟩
  have HLB : Hid ((lb = true ∧ l.length = 0) ∨ (lb = false ∧ ¬ l.length = 0)) := by
    show _ ∨ _
    rw [hl]
    by_cases h : len = 0
    · subst h; subst hlb; exact .inl ⟨rfl, rfl⟩
    · have : ((len : Int) == 0) = false := by simpa using h
      rw [this] at hlb; subst hlb; exact .inr ⟨rfl, h⟩
  clear hv hg hr hlm hl
  go_enter Tryz.func47, Tryz.ntmps47
  go_upto_region 2 with fail
  go_quiet (fail)
  go_upto_region 3 with fail
  clear htb hlb

  by_cases k0 : k = 0
  · subst k0
    by_cases c1 : n < 0
    · have d1 : decide (n < 0) = true := by simpa using c1
      have HE : Hid (ownO 0 n s l = 2) := by
        show _ = _
        have a := HTB.out
        have b := HLB.out
        (try simp only [reduceCtorEq, eq_self, false_and, true_and, or_false, false_or, Bool.true_eq_false, Bool.false_eq_true] at a); (try simp only [reduceCtorEq, eq_self, false_and, true_and, or_false, false_or, Bool.true_eq_false, Bool.false_eq_true] at b)
        rw [own_0]
        split <;> first | rfl | (exfalso; omega)
      clear c1
      go_wp2_with (fail)
      go_ret
      exact ⟨ret_v64 HE.out.symm, HC0.out.drewN nq⟩
    have d1 : decide (n < 0) = false := by simpa using c1
    by_cases c2 : 0 < n
    · have d2 : decide (0 < n) = true := by simpa using c2
      have HE : Hid (ownO 0 n s l = 2) := by
        show _ = _
        have a := HTB.out
        have b := HLB.out
        (try simp only [reduceCtorEq, eq_self, false_and, true_and, or_false, false_or, Bool.true_eq_false, Bool.false_eq_true] at a); (try simp only [reduceCtorEq, eq_self, false_and, true_and, or_false, false_or, Bool.true_eq_false, Bool.false_eq_true] at b)
        rw [own_0]
        split <;> first | rfl | (exfalso; omega)
      clear c1 c2
      go_wp2_with (fail)
      go_ret
      exact ⟨ret_v64 HE.out.symm, HC0.out.drewN nq⟩
    have d2 : decide (0 < n) = false := by simpa using c2
    cases tb with
    | false =>
      have HE : Hid (ownO 0 n s l = 2) := by
        show _ = _
        have a := HTB.out
        have b := HLB.out
        (try simp only [reduceCtorEq, eq_self, false_and, true_and, or_false, false_or, Bool.true_eq_false, Bool.false_eq_true] at a); (try simp only [reduceCtorEq, eq_self, false_and, true_and, or_false, false_or, Bool.true_eq_false, Bool.false_eq_true] at b)
        rw [own_0]
        split <;> first | rfl | (exfalso; omega)
      clear c1 c2
      go_wp2_with (fail)
      go_ret
      exact ⟨ret_v64 HE.out.symm, HC0.out.drewN nq⟩
    | true =>
      cases lb with
      | false =>
        have HE : Hid (ownO 0 n s l = 2) := by
          show _ = _
          have a := HTB.out
          have b := HLB.out
          (try simp only [reduceCtorEq, eq_self, false_and, true_and, or_false, false_or, Bool.true_eq_false, Bool.false_eq_true] at a); (try simp only [reduceCtorEq, eq_self, false_and, true_and, or_false, false_or, Bool.true_eq_false, Bool.false_eq_true] at b)
          rw [own_0]
          split <;> first | rfl | (exfalso; omega)
        clear c1 c2
        go_wp2_with (fail)
        go_ret
        exact ⟨ret_v64 HE.out.symm, HC0.out.drewN nq⟩
      | true =>
        have HE : Hid (ownO 0 n s l = 0) := by
          show _ = _
          have a := HTB.out
          have b := HLB.out
          (try simp only [reduceCtorEq, eq_self, false_and, true_and, or_false, false_or, Bool.true_eq_false, Bool.false_eq_true] at a); (try simp only [reduceCtorEq, eq_self, false_and, true_and, or_false, false_or, Bool.true_eq_false, Bool.false_eq_true] at b)
          rw [own_0]
          split <;> first | rfl | (exfalso; omega)
        clear c1 c2
        go_wp2_with (fail)
        go_ret
        exact ⟨ret_v64 HE.out.symm, HC0.out.drewN nq⟩
  have e0 : (k == 0) = false := by simpa using k0
  by_cases k1 : k = 1
  · subst k1
    by_cases c1 : n < 0
    · have d1 : decide (n < 0) = true := by simpa using c1
      have HE : Hid (ownO 1 n s l = 2) := by
        show _ = _
        have a := HTB.out
        have b := HLB.out
        (try simp only [reduceCtorEq, eq_self, false_and, true_and, or_false, false_or, Bool.true_eq_false, Bool.false_eq_true] at a); (try simp only [reduceCtorEq, eq_self, false_and, true_and, or_false, false_or, Bool.true_eq_false, Bool.false_eq_true] at b)
        rw [own_1]
        split <;> first | rfl | (exfalso; omega)
      clear c1
      go_wp2_with (fail)
      go_ret
      exact ⟨ret_v64 HE.out.symm, HC0.out.drewN nq⟩
    have d1 : decide (n < 0) = false := by simpa using c1
    by_cases c2 : 1 < n
    · have d2 : decide (1 < n) = true := by simpa using c2
      have HE : Hid (ownO 1 n s l = 2) := by
        show _ = _
        have a := HTB.out
        have b := HLB.out
        (try simp only [reduceCtorEq, eq_self, false_and, true_and, or_false, false_or, Bool.true_eq_false, Bool.false_eq_true] at a); (try simp only [reduceCtorEq, eq_self, false_and, true_and, or_false, false_or, Bool.true_eq_false, Bool.false_eq_true] at b)
        rw [own_1]
        split <;> first | rfl | (exfalso; omega)
      clear c1 c2
      go_wp2_with (fail)
      go_ret
      exact ⟨ret_v64 HE.out.symm, HC0.out.drewN nq⟩
    have d2 : decide (1 < n) = false := by simpa using c2
    cases tb with
    | false =>
      have HE : Hid (ownO 1 n s l = 2) := by
        show _ = _
        have a := HTB.out
        have b := HLB.out
        (try simp only [reduceCtorEq, eq_self, false_and, true_and, or_false, false_or, Bool.true_eq_false, Bool.false_eq_true] at a); (try simp only [reduceCtorEq, eq_self, false_and, true_and, or_false, false_or, Bool.true_eq_false, Bool.false_eq_true] at b)
        rw [own_1]
        split <;> first | rfl | (exfalso; omega)
      clear c1 c2
      go_wp2_with (fail)
      go_ret
      exact ⟨ret_v64 HE.out.symm, HC0.out.drewN nq⟩
    | true =>
      cases lb with
      | false =>
        have HE : Hid (ownO 1 n s l = 2) := by
          show _ = _
          have a := HTB.out
          have b := HLB.out
          (try simp only [reduceCtorEq, eq_self, false_and, true_and, or_false, false_or, Bool.true_eq_false, Bool.false_eq_true] at a); (try simp only [reduceCtorEq, eq_self, false_and, true_and, or_false, false_or, Bool.true_eq_false, Bool.false_eq_true] at b)
          rw [own_1]
          split <;> first | rfl | (exfalso; omega)
        clear c1 c2
        go_wp2_with (fail)
        go_ret
        exact ⟨ret_v64 HE.out.symm, HC0.out.drewN nq⟩
      | true =>
        have HE : Hid (ownO 1 n s l = 0) := by
          show _ = _
          have a := HTB.out
          have b := HLB.out
          (try simp only [reduceCtorEq, eq_self, false_and, true_and, or_false, false_or, Bool.true_eq_false, Bool.false_eq_true] at a); (try simp only [reduceCtorEq, eq_self, false_and, true_and, or_false, false_or, Bool.true_eq_false, Bool.false_eq_true] at b)
          rw [own_1]
          split <;> first | rfl | (exfalso; omega)
        clear c1 c2
        go_wp2_with (fail)
        go_ret
        exact ⟨ret_v64 HE.out.symm, HC0.out.drewN nq⟩
  have e1 : (k == 1) = false := by simpa using k1
  by_cases k2 : k = 2
  · subst k2
    have HE : Hid (ownO 2 n s l = chkOf 2 n s.size len) := by
      show _ = _
      rw [own_2, HL.out]
    go_wp2_with (go_at_call 80; refine (HK.out _).mono ?_; rintro e w3 ⟨rfl, hc3⟩; have HC3 := keepf ((HC0.out.drewN nq).trans hc3 (fun _ _ e => e)); clear hc3)
    go_ret
    exact ⟨ret_v64 HE.out.symm, HC3.out⟩
  have e2 : (k == 2) = false := by simpa using k2
  by_cases k3 : k = 3
  · subst k3
    have HE : Hid (ownO 3 n s l = chkOf 3 n s.size len) := by
      show _ = _
      rw [own_3, HL.out]
    go_wp2_with (go_at_call 80; refine (HK.out _).mono ?_; rintro e w3 ⟨rfl, hc3⟩; have HC3 := keepf ((HC0.out.drewN nq).trans hc3 (fun _ _ e => e)); clear hc3)
    go_ret
    exact ⟨ret_v64 HE.out.symm, HC3.out⟩
  have e3 : (k == 3) = false := by simpa using k3
  by_cases k4 : k = 4
  · subst k4
    by_cases c1 : n < 0
    · have d1 : decide (n < 0) = true := by simpa using c1
      have HE : Hid (ownO 4 n s l = 2) := by
        show _ = _
        have a := HTB.out
        have b := HLB.out
        (try simp only [reduceCtorEq, eq_self, false_and, true_and, or_false, false_or, Bool.true_eq_false, Bool.false_eq_true] at a); (try simp only [reduceCtorEq, eq_self, false_and, true_and, or_false, false_or, Bool.true_eq_false, Bool.false_eq_true] at b)
        rw [own_4]
        split <;> first | rfl | (exfalso; omega)
      clear c1
      go_wp2_with (fail)
      go_ret
      exact ⟨ret_v64 HE.out.symm, HC0.out.drewN nq⟩
    have d1 : decide (n < 0) = false := by simpa using c1
    by_cases c2 : 0 < n
    · have d2 : decide (0 < n) = true := by simpa using c2
      have HE : Hid (ownO 4 n s l = 2) := by
        show _ = _
        have a := HTB.out
        have b := HLB.out
        (try simp only [reduceCtorEq, eq_self, false_and, true_and, or_false, false_or, Bool.true_eq_false, Bool.false_eq_true] at a); (try simp only [reduceCtorEq, eq_self, false_and, true_and, or_false, false_or, Bool.true_eq_false, Bool.false_eq_true] at b)
        rw [own_4]
        split <;> first | rfl | (exfalso; omega)
      clear c1 c2
      go_wp2_with (fail)
      go_ret
      exact ⟨ret_v64 HE.out.symm, HC0.out.drewN nq⟩
    have d2 : decide (0 < n) = false := by simpa using c2
    cases lb with
    | false =>
      have HE : Hid (ownO 4 n s l = 2) := by
        show _ = _
        have a := HTB.out
        have b := HLB.out
        (try simp only [reduceCtorEq, eq_self, false_and, true_and, or_false, false_or, Bool.true_eq_false, Bool.false_eq_true] at a); (try simp only [reduceCtorEq, eq_self, false_and, true_and, or_false, false_or, Bool.true_eq_false, Bool.false_eq_true] at b)
        rw [own_4]
        split <;> first | rfl | (exfalso; omega)
      clear c1 c2
      go_wp2_with (fail)
      go_ret
      exact ⟨ret_v64 HE.out.symm, HC0.out.drewN nq⟩
    | true =>
      have HE : Hid (ownO 4 n s l = 0) := by
        show _ = _
        have a := HTB.out
        have b := HLB.out
        (try simp only [reduceCtorEq, eq_self, false_and, true_and, or_false, false_or, Bool.true_eq_false, Bool.false_eq_true] at a); (try simp only [reduceCtorEq, eq_self, false_and, true_and, or_false, false_or, Bool.true_eq_false, Bool.false_eq_true] at b)
        rw [own_4]
        split <;> first | rfl | (exfalso; omega)
      clear c1 c2
      go_wp2_with (fail)
      go_ret
      exact ⟨ret_v64 HE.out.symm, HC0.out.drewN nq⟩
  have e4 : (k == 4) = false := by simpa using k4
  by_cases k5 : k = 5
  · subst k5
    by_cases c0 : 127 < s.size
    · have d0 : decide (127 < (s.size : Int)) = true := by simp; omega
      have d0' : decide (127 < s.size) = true := by simpa using c0
      have HE : Hid (ownO 5 n s l = 17) := by
        show _ = _
        rw [own_5, if_pos (fun h => by have := h.2; omega)]
      clear c0
      go_wp2_with (fail)
      go_ret
      exact ⟨ret_v64 HE.out.symm, HC0.out.drewN nq⟩
    have d0 : decide (127 < (s.size : Int)) = false := by simp; omega
    have d0' : decide (127 < s.size) = false := by simpa using c0
    by_cases cz : ∀ d ∈ sl s, d ≠ 0
    · have HTX := keepf (show textO s from ⟨cz, by omega⟩)
      rw [show decide (¬ ∀ d ∈ sl s, d ≠ 0) = false from decide_eq_false (fun h => h cz)] at HT
      clear cz c0
      by_cases c1 : n < 0
      · have d1 : decide (n < 0) = true := by simpa using c1
        have HE : Hid (ownO 5 n s l = 2) := by
          show _ = _
          have a := HTB.out
          have b := HLB.out
          (try simp only [reduceCtorEq, eq_self, false_and, true_and, or_false, false_or, Bool.true_eq_false, Bool.false_eq_true] at a); (try simp only [reduceCtorEq, eq_self, false_and, true_and, or_false, false_or, Bool.true_eq_false, Bool.false_eq_true] at b)
          rw [own_5, if_neg (fun h => h HTX.out)]
          split <;> first | rfl | (exfalso; omega)
        clear c1
        go_wp2_with (go_at_call 81; refine (HT.out _).mono ?_; rintro e w3 ⟨rfl, rfl⟩)
        go_ret
        exact ⟨ret_v64 HE.out.symm, HC0.out.drewN nq⟩
      have d1 : decide (n < 0) = false := by simpa using c1
      by_cases c2 : 0 < n
      · have d2 : decide (0 < n) = true := by simpa using c2
        have HE : Hid (ownO 5 n s l = 2) := by
          show _ = _
          have a := HTB.out
          have b := HLB.out
          (try simp only [reduceCtorEq, eq_self, false_and, true_and, or_false, false_or, Bool.true_eq_false, Bool.false_eq_true] at a); (try simp only [reduceCtorEq, eq_self, false_and, true_and, or_false, false_or, Bool.true_eq_false, Bool.false_eq_true] at b)
          rw [own_5, if_neg (fun h => h HTX.out)]
          split <;> first | rfl | (exfalso; omega)
        clear c1 c2
        go_wp2_with (go_at_call 81; refine (HT.out _).mono ?_; rintro e w3 ⟨rfl, rfl⟩)
        go_ret
        exact ⟨ret_v64 HE.out.symm, HC0.out.drewN nq⟩
      have d2 : decide (0 < n) = false := by simpa using c2
      cases lb with
      | false =>
        have HE : Hid (ownO 5 n s l = 2) := by
          show _ = _
          have a := HTB.out
          have b := HLB.out
          (try simp only [reduceCtorEq, eq_self, false_and, true_and, or_false, false_or, Bool.true_eq_false, Bool.false_eq_true] at a); (try simp only [reduceCtorEq, eq_self, false_and, true_and, or_false, false_or, Bool.true_eq_false, Bool.false_eq_true] at b)
          rw [own_5, if_neg (fun h => h HTX.out)]
          split <;> first | rfl | (exfalso; omega)
        clear c1 c2
        go_wp2_with (go_at_call 81; refine (HT.out _).mono ?_; rintro e w3 ⟨rfl, rfl⟩)
        go_ret
        exact ⟨ret_v64 HE.out.symm, HC0.out.drewN nq⟩
      | true =>
        have HE : Hid (ownO 5 n s l = 0) := by
          show _ = _
          have a := HTB.out
          have b := HLB.out
          (try simp only [reduceCtorEq, eq_self, false_and, true_and, or_false, false_or, Bool.true_eq_false, Bool.false_eq_true] at a); (try simp only [reduceCtorEq, eq_self, false_and, true_and, or_false, false_or, Bool.true_eq_false, Bool.false_eq_true] at b)
          rw [own_5, if_neg (fun h => h HTX.out)]
          split <;> first | rfl | (exfalso; omega)
        clear c1 c2
        go_wp2_with (go_at_call 81; refine (HT.out _).mono ?_; rintro e w3 ⟨rfl, rfl⟩)
        go_ret
        exact ⟨ret_v64 HE.out.symm, HC0.out.drewN nq⟩
    · rw [show decide (¬ ∀ d ∈ sl s, d ≠ 0) = true from decide_eq_true cz] at HT
      have HE : Hid (ownO 5 n s l = 17) := by
        show _ = _
        rw [own_5, if_pos (fun h => cz h.1)]
      clear c0 cz
      go_wp2_with (go_at_call 81; refine (HT.out _).mono ?_; rintro e w3 ⟨rfl, rfl⟩)
      go_ret
      exact ⟨ret_v64 HE.out.symm, HC0.out.drewN nq⟩
  have e5 : (k == 5) = false := by simpa using k5
  by_cases k6 : k = 6
  · subst k6
    by_cases c1 : n < 0
    · have d1 : decide (n < 0) = true := by simpa using c1
      have HE : Hid (ownO 6 n s l = 2) := by
        show _ = _
        have a := HTB.out
        have b := HLB.out
        (try simp only [reduceCtorEq, eq_self, false_and, true_and, or_false, false_or, Bool.true_eq_false, Bool.false_eq_true] at a); (try simp only [reduceCtorEq, eq_self, false_and, true_and, or_false, false_or, Bool.true_eq_false, Bool.false_eq_true] at b)
        rw [own_6]
        split <;> first | rfl | (exfalso; omega)
      clear c1
      go_wp2_with (fail)
      go_ret
      exact ⟨ret_v64 HE.out.symm, HC0.out.drewN nq⟩
    have d1 : decide (n < 0) = false := by simpa using c1
    by_cases c2 : 0 < n
    · have d2 : decide (0 < n) = true := by simpa using c2
      have HE : Hid (ownO 6 n s l = 2) := by
        show _ = _
        have a := HTB.out
        have b := HLB.out
        (try simp only [reduceCtorEq, eq_self, false_and, true_and, or_false, false_or, Bool.true_eq_false, Bool.false_eq_true] at a); (try simp only [reduceCtorEq, eq_self, false_and, true_and, or_false, false_or, Bool.true_eq_false, Bool.false_eq_true] at b)
        rw [own_6]
        split <;> first | rfl | (exfalso; omega)
      clear c1 c2
      go_wp2_with (fail)
      go_ret
      exact ⟨ret_v64 HE.out.symm, HC0.out.drewN nq⟩
    have d2 : decide (0 < n) = false := by simpa using c2
    cases tb with
    | false =>
      have HE : Hid (ownO 6 n s l = 2) := by
        show _ = _
        have a := HTB.out
        have b := HLB.out
        (try simp only [reduceCtorEq, eq_self, false_and, true_and, or_false, false_or, Bool.true_eq_false, Bool.false_eq_true] at a); (try simp only [reduceCtorEq, eq_self, false_and, true_and, or_false, false_or, Bool.true_eq_false, Bool.false_eq_true] at b)
        rw [own_6]
        split <;> first | rfl | (exfalso; omega)
      clear c1 c2
      go_wp2_with (fail)
      go_ret
      exact ⟨ret_v64 HE.out.symm, HC0.out.drewN nq⟩
    | true =>
      have HE : Hid (ownO 6 n s l = 0) := by
        show _ = _
        have a := HTB.out
        have b := HLB.out
        (try simp only [reduceCtorEq, eq_self, false_and, true_and, or_false, false_or, Bool.true_eq_false, Bool.false_eq_true] at a); (try simp only [reduceCtorEq, eq_self, false_and, true_and, or_false, false_or, Bool.true_eq_false, Bool.false_eq_true] at b)
        rw [own_6]
        split <;> first | rfl | (exfalso; omega)
      clear c1 c2
      go_wp2_with (fail)
      go_ret
      exact ⟨ret_v64 HE.out.symm, HC0.out.drewN nq⟩
  have e6 : (k == 6) = false := by simpa using k6
  by_cases k7 : k = 7
  · subst k7
    by_cases c1 : n < 0
    · have d1 : decide (n < 0) = true := by simpa using c1
      have HE : Hid (ownO 7 n s l = 2) := by
        show _ = _
        have a := HTB.out
        (try simp only [reduceCtorEq, eq_self, false_and, true_and, or_false, false_or, Bool.true_eq_false, Bool.false_eq_true] at a)
        rw [own_7]
        exact dict_arg (by omega)
      clear c1
      go_wp2_with (fail)
      go_ret
      exact ⟨ret_v64 HE.out.symm, HC0.out.drewN nq⟩
    have d1 : decide (n < 0) = false := by simpa using c1
    by_cases c2 : 0 < n
    · have d2 : decide (0 < n) = true := by simpa using c2
      have HE : Hid (ownO 7 n s l = 2) := by
        show _ = _
        have a := HTB.out
        (try simp only [reduceCtorEq, eq_self, false_and, true_and, or_false, false_or, Bool.true_eq_false, Bool.false_eq_true] at a)
        rw [own_7]
        exact dict_arg (by omega)
      clear c1 c2
      go_wp2_with (fail)
      go_ret
      exact ⟨ret_v64 HE.out.symm, HC0.out.drewN nq⟩
    have d2 : decide (0 < n) = false := by simpa using c2
    cases tb with
    | false =>
      have HE : Hid (ownO 7 n s l = 2) := by
        show _ = _
        have a := HTB.out
        (try simp only [reduceCtorEq, eq_self, false_and, true_and, or_false, false_or, Bool.true_eq_false, Bool.false_eq_true] at a)
        rw [own_7]
        exact dict_arg (by omega)
      clear c1 c2
      go_wp2_with (fail)
      go_ret
      exact ⟨ret_v64 HE.out.symm, HC0.out.drewN nq⟩
    | true =>
      have HE : Hid (ownO 7 n s l = dictO 0 0 l) := by
        show _ = _
        have a := HTB.out
        (try simp only [reduceCtorEq, eq_self, false_and, true_and, or_false, false_or, Bool.true_eq_false, Bool.false_eq_true] at a)
        rw [own_7, show n = 0 by omega, show s.size = 0 by omega]
      clear c1 c2
      go_wp2_with (go_at_call 82; refine (HN.out _ (by exact HC0.out.drewN nq)).mono ?_; rintro e w3 ⟨rfl, hc3⟩; have HC3 := keepf ((HC0.out.drewN nq).trans hc3 (fun _ _ e => e)); clear hc3)
      go_ret
      exact ⟨ret_v64 HE.out.symm, HC3.out⟩
  have e7 : (k == 7) = false := by simpa using k7
  by_cases k8 : k = 8
  · subst k8
    by_cases c1 : n < 1
    · have d1 : decide (n < 1) = true := by simpa using c1
      have HE : Hid (ownO 8 n s l = 2) := by
        show _ = _
        have a := HTB.out
        have b := HLB.out
        (try simp only [reduceCtorEq, eq_self, false_and, true_and, or_false, false_or, Bool.true_eq_false, Bool.false_eq_true] at a); (try simp only [reduceCtorEq, eq_self, false_and, true_and, or_false, false_or, Bool.true_eq_false, Bool.false_eq_true] at b)
        rw [own_8]
        split <;> first | rfl | (exfalso; omega)
      clear c1
      go_wp2_with (fail)
      go_ret
      exact ⟨ret_v64 HE.out.symm, HC0.out.drewN nq⟩
    have d1 : decide (n < 1) = false := by simpa using c1
    by_cases c2 : 4096 < n
    · have d2 : decide (4096 < n) = true := by simpa using c2
      have HE : Hid (ownO 8 n s l = 2) := by
        show _ = _
        have a := HTB.out
        have b := HLB.out
        (try simp only [reduceCtorEq, eq_self, false_and, true_and, or_false, false_or, Bool.true_eq_false, Bool.false_eq_true] at a); (try simp only [reduceCtorEq, eq_self, false_and, true_and, or_false, false_or, Bool.true_eq_false, Bool.false_eq_true] at b)
        rw [own_8]
        split <;> first | rfl | (exfalso; omega)
      clear c1 c2
      go_wp2_with (fail)
      go_ret
      exact ⟨ret_v64 HE.out.symm, HC0.out.drewN nq⟩
    have d2 : decide (4096 < n) = false := by simpa using c2
    cases tb with
    | false =>
      have HE : Hid (ownO 8 n s l = 2) := by
        show _ = _
        have a := HTB.out
        have b := HLB.out
        (try simp only [reduceCtorEq, eq_self, false_and, true_and, or_false, false_or, Bool.true_eq_false, Bool.false_eq_true] at a); (try simp only [reduceCtorEq, eq_self, false_and, true_and, or_false, false_or, Bool.true_eq_false, Bool.false_eq_true] at b)
        rw [own_8]
        split <;> first | rfl | (exfalso; omega)
      clear c1 c2
      go_wp2_with (fail)
      go_ret
      exact ⟨ret_v64 HE.out.symm, HC0.out.drewN nq⟩
    | true =>
      cases lb with
      | false =>
        have HE : Hid (ownO 8 n s l = 2) := by
          show _ = _
          have a := HTB.out
          have b := HLB.out
          (try simp only [reduceCtorEq, eq_self, false_and, true_and, or_false, false_or, Bool.true_eq_false, Bool.false_eq_true] at a); (try simp only [reduceCtorEq, eq_self, false_and, true_and, or_false, false_or, Bool.true_eq_false, Bool.false_eq_true] at b)
          rw [own_8]
          split <;> first | rfl | (exfalso; omega)
        clear c1 c2
        go_wp2_with (fail)
        go_ret
        exact ⟨ret_v64 HE.out.symm, HC0.out.drewN nq⟩
      | true =>
        have HE : Hid (ownO 8 n s l = 0) := by
          show _ = _
          have a := HTB.out
          have b := HLB.out
          (try simp only [reduceCtorEq, eq_self, false_and, true_and, or_false, false_or, Bool.true_eq_false, Bool.false_eq_true] at a); (try simp only [reduceCtorEq, eq_self, false_and, true_and, or_false, false_or, Bool.true_eq_false, Bool.false_eq_true] at b)
          rw [own_8]
          split <;> first | rfl | (exfalso; omega)
        clear c1 c2
        go_wp2_with (fail)
        go_ret
        exact ⟨ret_v64 HE.out.symm, HC0.out.drewN nq⟩
  have e8 : (k == 8) = false := by simpa using k8
  have HE : Hid (ownO k n s l = 2) := by
    show _ = _
    exact own_x k0 k1 k2 k3 k4 k5 k6 k7 k8 n s l
  clear k0 k1 k2 k3 k4 k5 k6 k7 k8
  go_wp2_with (fail)
  go_ret
  exact ⟨ret_v64 HE.out.symm, HC0.out.drewN nq⟩

end Go.Proofs.YtcehpobjnbgpdaaGreatDoor

/- The program's Check of a value. -/
namespace Go.Proofs.YtcehpobjnbgpdaaGreatDoor
open Go.RowKit
set_option linter.unusedVariables false
set_option linter.unusedSimpArgs false

noncomputable def ownT : VT → Int | .mk k n s l => ownO k n s l

open Classical in

noncomputable def stepC (t : VT) (d : Nat) (st : Int) : Int × Bool := (if st = 0 then ownT t else st, decide ((if st = 0 then ownT t else st) = 0))

theorem stepC_z (k n : Int) (s : ByteArray) (l : List VT) (d : Nat) : (stepC (.mk k n s l) d 0).1 = ownO k n s l := by
  unfold stepC
  simp only [if_pos]
  rfl

/-- What the box of the error holds. -/
structure CJ (w0 : World) (g : Nat) (st : Int) (W : World) : Prop where
  a : Blk W g 27 #[.int .i64 st]
  new : w0.heap.size ≤ g
  chg : Chg NoS w0 W

theorem CJ.call {w0 W W' : World} {g : Nat} {st : Int} (h : CJ w0 g st W) (hc : Chg NoS W W') : CJ w0 g st W' := ⟨h.a.chg hc (fun e => e), h.new, h.chg.trans hc (fun _ _ e => e)⟩

theorem CJ.set {w0 W : World} {g : Nat} {st : Int} (h : CJ w0 g st W) (n : Int) : CJ w0 g n (W.setCell ⟨g, 0, none⟩ (.int .i64 n)) :=
  ⟨h.a.set_ 0 _, h.new, h.chg.setCell (p := ⟨g, 0, none⟩) (fun h2 => absurd h2 (Nat.not_lt.2 h.new)) _⟩

set_option maxHeartbeats 2000000 in
theorem chk1_any (w0 : World) (g : Nat) (t : VT) (c : VC) (d : Nat) (st : Int) (W : World) (hv : ValIs W t c) (hj : CJ w0 g st W) :
    Calls Tryz.prog 46 #[c.val, .int .i64 (d : Nat), .pointer (some ⟨g, 0, none⟩)] W fun e w' => e = .returned (.bool (stepC t d st).2) ∧ CJ w0 g (stepC t d st).1 w' ∧ Chg (fun i => i = g) W w' := by
  have HV := keepf hv
  obtain ⟨tk, tn, ts, l⟩ := t
  obtain ⟨h1, h2, h3, _, _, _⟩ := hv.inv
  obtain ⟨ck, cn, cs, A, len, cap⟩ := c
  simp only [] at h1 h2 h3
  subst h1 h2 h3
  have HJ := keepf (hj.call ((Chg.refl NoS W).alloc (.cells #[.int .i64 ck, .int .i64 cn, .string cs, .slice A len cap] 24)))
  have hl := hj.a.lt
  have hne : ¬ W.heap.size = g := by omega
  have x0 := HJ.out.a.cell 0
  have x1 := HJ.out.a.frozen 0
  simp at x0
  have HC := keepf (((Chg.refl (fun i => i = g) W).alloc (.cells #[.int .i64 ck, .int .i64 cn, .string cs, .slice A len cap] 24)))
  have HA := keepf (fun (W' : World) (h : Chg NoS W W') => alone_any ⟨ck, cn, cs, A, len, cap⟩ l W' (HV.out.chg h))
  unfold VC.val at HA ⊢
  simp only [] at HA ⊢
  clear hj hv hl
  by_cases h0 : st = 0
  · subst h0
    obtain ⟨z, hz⟩ : ∃ z, z = ownO ck cn cs l := ⟨_, rfl⟩
    have HS1 := keepf (show (stepC (.mk ck cn cs l) d 0).1 = z from by rw [hz]; exact stepC_z _ _ _ _ _)
    have HS2 := keepf (show (stepC (.mk ck cn cs l) d 0).2 = decide (z = 0) from by rw [hz]; unfold stepC; simp only [if_pos]; exact decide_eq_decide.2 Iff.rfl)
    rw [HS1.out, HS2.out]
    rw [← hz] at HA
    clear hz HS1 HS2
    go_enter Tryz.func46, Tryz.ntmps46
    go_upto_region 3 with (go_at_call 47; refine (HA.out _ ((Chg.refl NoS W).alloc _)).mono ?_; rintro e w3 ⟨rfl, hc3⟩; have HJ3 := keepf (HJ.out.call hc3); have HC3 := keepf (HC.out.trans (Chg.weak hc3) (fun _ _ e => e)); have y1 := HJ3.out.a.frozen 0; have y0 := HJ3.out.a.cell 0; simp at y0; clear hc3 x0 x1)
    have HJ4 := keepf (HJ3.out.set z)
    have HC4 := keepf (HC3.out.setCell (p := ⟨g, 0, none⟩) (fun _ => rfl) (.int .i64 z))
    have q0 := HJ4.out.a.cell 0
    simp at q0
    clear y0 y1
    by_cases hz0 : z = 0
    · subst hz0
      go_wp2_with fail
      go_ret
      exact ⟨rfl, HJ4.out, HC4.out⟩
    · have e0 : (z == 0) = false := by simpa using hz0
      have HZ := keepf hz0
      clear hz0
      go_wp2_with fail
      go_ret
      exact ⟨by simp [HZ.out], HJ4.out, HC4.out⟩
  · have e0 : (st == 0) = false := by simpa using h0
    have HS1 := keepf (show (stepC (.mk ck cn cs l) d st).1 = st from if_neg h0)
    have HS2 := keepf (show (stepC (.mk ck cn cs l) d st).2 = false from by unfold stepC; simp only [if_neg h0]; exact decide_eq_false h0)
    rw [HS1.out, HS2.out]
    clear h0 HS1 HS2
    go_enter Tryz.func46, Tryz.ntmps46
    go_wp2_with fail
    go_ret
    exact ⟨rfl, HJ.out, HC.out⟩

theorem chk_see (w0 : World) (g : Nat) : SeeOf w0 46 #[.pointer (some ⟨g, 0, none⟩)] (fun i => i = g) (CJ w0 g) stepC where
  chg := fun _ _ h => h.chg
  keep := fun _ _ _ h hc => h.call hc
  low := fun _ _ h i hi => hi ▸ h.a.lt
  see := fun t c d st W hv hj _ => chk1_any w0 g t c d st W hv hj

theorem own_leaf {k n : Int} {s : ByteArray} {l : List VT} (h : ownO k n s l = 0) (h6 : ¬ (k = 6 ∨ k = 7)) : l = [] := by
  have h2 : l.length = 0 := by
    unfold ownO at h
    split at h
    · split at h <;> omega
    · split at h
      · split at h <;> omega
      · split at h
        · unfold chkOf at h; split at h <;> omega
        · split at h
          · split at h <;> omega
          · split at h
            · split at h
              · omega
              · split at h <;> omega
            · split at h
              · omega
              · split at h
                · omega
                · split at h
                  · split at h <;> omega
                  · omega
  exact List.length_eq_zero_iff.1 h2

mutual
theorem walkC_T : ∀ (t : VT) (d : Nat) (st : Int), walkT stepC t d st = if st = 0 then firstT t else st
  | .mk k n s l, d, st => by
    by_cases h0 : st = 0
    · subst h0
      rw [if_pos rfl, firstT_mk]
      have e1 : (stepC (.mk k n s l) d 0).1 = ownO k n s l := stepC_z _ _ _ _ _
      by_cases hz : ownO k n s l = 0
      · rw [walkT_on (show (stepC (.mk k n s l) d 0).2 = true from decide_eq_true (by rw [if_pos rfl]; exact hz)), e1, hz, if_neg (fun h => h rfl), walkC_L l (d + 1) 0, if_pos rfl]
        by_cases h6 : k = 6 ∨ k = 7
        · rw [if_pos h6]
        · rw [if_neg h6, own_leaf hz h6, firstL]
      · rw [walkT_no (show (stepC (.mk k n s l) d 0).2 = false from decide_eq_false (by rw [if_pos rfl]; exact hz)), e1, if_pos hz]
    · rw [if_neg h0, walkT_no (show (stepC (.mk k n s l) d st).2 = false from decide_eq_false (by rw [if_neg h0]; exact h0))]
      exact if_neg h0
theorem walkC_L : ∀ (l : List VT) (d : Nat) (st : Int), walkL stepC l d st = if st = 0 then firstL l else st
  | [], d, st => by
    rw [walkL, firstL]
    split
    · next h => exact h
    · rfl
  | t :: l, d, st => by
    rw [walkL_cons, walkC_T t d st, walkC_L l d, firstL_cons]
    by_cases h0 : st = 0
    · rw [if_pos h0, if_pos h0]
      by_cases h1 : firstT t = 0
      · rw [if_pos h1, if_neg (fun h => h h1)]
      · rw [if_neg h1, if_pos h1]
    · rw [if_neg h0, if_neg h0, if_neg h0]
end

set_option maxHeartbeats 2000000 in
set_option maxRecDepth 100000 in
theorem check_any (t : VT) (c : VC) (w : World) (hv : ValIs w t c) (hs : sizT t ≤ 1000000) :
    Calls Tryz.prog 25 #[c.val] w fun e w' => e = .returned (.int .i64 (checkT t)) ∧ Chg NoS w w' := by
  have HV := keepf hv
  obtain ⟨ck, cn, cs, A, len, cap⟩ := c
  have HD := keepf (fun (W : World) (h : Chg NoS w W) => depu_any t ⟨ck, cn, cs, A, len, cap⟩ 65 W (HV.out.chg h) (by omega) (by omega))
  have HW := keepf (fun (W : World) (g : Nat) (h : CJ w g 0 W) => walk_any w 46 _ (fun args w => rfl) _ _ _ (chk_see w g) t ⟨ck, cn, cs, A, len, cap⟩ 1 0 W HV.out h (by omega))
  rw [walkC_T t 1 0, if_pos rfl] at HW
  have HB := keepf (Blk.new w 24 #[.int .i64 ck, .int .i64 cn, .string cs, .slice A len cap])
  have HC0 := keepf ((Chg.refl NoS w).alloc (.cells #[.int .i64 ck, .int .i64 cn, .string cs, .slice A len cap] 24))
  unfold VC.val at HD HW ⊢
  simp only [] at HD HW ⊢
  have hdp := (depthT_le t).1
  obtain ⟨D, hD⟩ : ∃ D : Nat, D = depthT t := ⟨_, rfl⟩
  rw [← hD] at HD hdp
  have ex : ∃ m : Nat, m = min 65 D := ⟨_, rfl⟩
  obtain ⟨m, hm⟩ := ex
  rw [← hm] at HD
  clear hv
  by_cases h64 : 64 < D
  · have HE := keepf (show checkT t = 15 from by unfold checkT; rw [← hD, if_pos h64])
    obtain rfl : m = 65 := by omega
    clear hD hm
    go_enter Tryz.func25, Tryz.ntmps25
    go_wp2_with (go_at_call 44; refine (HD.out _ HC0.out).mono ?_; rintro e w3 ⟨rfl, hc3⟩; have HC3 := keepf (HC0.out.trans hc3 (fun _ _ e => e)); clear hc3)
    go_ret
    exact ⟨ret_v64 HE.out.symm, HC3.out⟩
  · have HE := keepf (show checkT t = firstT t from by unfold checkT; rw [← hD, if_neg h64])
    have d1 : decide ((64 : Int) < (m : Int)) = false := by simp; omega
    have d1' : decide (64 < m) = false := by simp; omega
    clear hD hm h64
    go_enter Tryz.func25, Tryz.ntmps25
    go_upto_region 3 with (go_at_call 44; refine (HD.out _ HC0.out).mono ?_; rintro e w3 ⟨rfl, hc3⟩; have HC3 := keepf (HC0.out.trans hc3 (fun _ _ e => e)); have HB3 := keepf (HB.out.chg hc3 (fun e => e)); clear hc3)
    have HB4 := keepf (HB3.out.alloc (.cells #[.int .i64 0] 27))
    have HJ4 := keepf (⟨Blk.new w3 27 #[.int .i64 0], HC3.out.size, HC3.out.alloc _⟩ : CJ w w3.heap.size 0 _)
    have x0 := HB4.out.cell 0
    have x1 := HB4.out.cell 1
    have x2 := HB4.out.cell 2
    have x3 := HB4.out.cell 3
    simp at x0 x1 x2 x3
    go_wp2_with (go_at_call 45; refine (HW.out _ _ HJ4.out).mono ?_; rintro e w5 ⟨rfl, hj5, _⟩; have HJ5 := keepf hj5; have y0 := hj5.a.cell 0; simp at y0; clear hj5 x0 x1 x2 x3)
    go_ret
    exact ⟨ret_v64 HE.out.symm, HJ5.out.chg⟩

end Go.Proofs.YtcehpobjnbgpdaaGreatDoor

