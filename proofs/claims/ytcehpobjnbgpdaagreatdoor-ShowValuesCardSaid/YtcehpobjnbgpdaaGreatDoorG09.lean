/- Merged by program: RVt11 VDi2. -/
import Derived.Test.YtcehpobjnbgpdaaGreatDoorG07
import Derived.Test.YtcehpobjnbgpdaaGreatDoorG08
/- The document's own Put, where the name is found (written by mkrvt11.py), and in all. -/
namespace Go.Proofs.YtcehpobjnbgpdaaGreatDoor
open Go.RowKit
set_option linter.unusedVariables false
set_option linter.unusedSimpArgs false

/-- What is left of a row whose cell behind q is another. -/
def restR (q : Nat) (x : VT) (l : List VT) (k : Nat) : List VT := if k ≤ q then (l.take (q + 1)).drop k ++ x :: l.drop (q + 2) else l.drop k

theorem restR_end {q : Nat} {x : VT} {l : List VT} {k : Nat} (h : q < k) : restR q x l k = l.drop k := by rw [restR, if_neg (by omega)]

theorem restR_at {q : Nat} {x t : VT} {l : List VT} (h : l.drop q = t :: l.drop (q + 1)) : restR q x l q = t :: x :: restR q x l (q + 2) := by
  rw [restR_end (show q < q + 2 by omega), restR, if_pos (Nat.le_refl _), List.drop_take, h, show q + 1 - q = 1 by omega]
  rfl

theorem restR_two {q : Nat} {x t u : VT} {l : List VT} {k : Nat} (hk : k % 2 = 0) (hq : q % 2 = 0) (hne : k ≠ q) (h : l.drop k = t :: l.drop (k + 1)) (h2 : l.drop (k + 1) = u :: l.drop (k + 1 + 1)) : restR q x l k = t :: u :: restR q x l (k + 2) := by
  by_cases hlt : k < q
  · rw [restR, if_pos (by omega), restR, if_pos (by omega), List.drop_take, List.drop_take, h, h2, show q + 1 - k = (q + 1 - (k + 2)) + 1 + 1 by omega]
    rfl
  · rw [restR_end (by omega), restR_end (by omega), h, h2]

theorem restR_zero {j : Nat} {x : VT} {l : List VT} : restR (2 * j) x l 0 = replL j x l := by
  rw [restR, if_pos (Nat.zero_le _), List.drop_zero]
  rfl

set_option maxHeartbeats 8000000 in
set_option maxRecDepth 100000 in
theorem rput_some (c cx : VC) (l : List VT) (tx : VT) (key : ByteArray) (w : World) (hv : ValIs w (.mk c.k c.n c.s l) c) (hvx : ValIs w tx cx) (hsz : sizL l ≤ 1000000000) (hkey : key.size ≤ maxLen) (h7 : c.k = 7) {j : Nat} (hf : findL key l = some j) :
    Calls Tryz.prog 135 #[c.val, .string key, cx.val] w (TreeTo w (putT (.mk c.k c.n c.s l) key tx)) := by
  obtain ⟨_, _, _, hg, hl, hr⟩ := hv.inv
  have HF := keepf (fun W (h : ValIs W (.mk c.k c.n c.s l) c) => rfind_any c l key W h hsz)
  have HV := keepf hv
  have HVX := keepf hvx
  have HNM := keepf (nm_is w key hkey)
  have HGD := keepf hg
  obtain ⟨k, n, s, A, len, cap⟩ := c
  obtain ⟨xk, xn, xs, xA, xl, xc⟩ := cx
  simp only [] at hl hr
  have hcap := hg.cap
  simp only [] at hcap
  have hl9 : len ≤ 1000000000 := by have := sizL_len l; omega
  have HL := keepf hl
  have HR := keepf hr
  unfold VC.val at HF
  simp only [] at HF HV HVX h7 ⊢
  show Calls Tryz.prog 135 #[.agg #[.int .i64 k, .int .i64 n, .string s, .slice A len cap], .string key, .agg #[.int .i64 xk, .int .i64 xn, .string xs, .slice xA xl xc]] w _
  have HS0 := keepf (⟨⟨((Blk.new w 24 #[.int .i64 k, .int .i64 n, .string s, .slice A len cap]).alloc (.cells #[.int .i64 xk, .int .i64 xn, .string xs, .slice xA xl xc] 24)).alloc (.cells #[.int .i64 0, .int .i64 0, .string ⟨#[]⟩, .slice none 0 0] 24), Nat.le_refl _⟩,
    ⟨(Blk.new (w.alloc (.cells #[.int .i64 k, .int .i64 n, .string s, .slice A len cap] 24)) 24 #[.int .i64 xk, .int .i64 xn, .string xs, .slice xA xl xc]).alloc (.cells #[.int .i64 0, .int .i64 0, .string ⟨#[]⟩, .slice none 0 0] 24), by simp⟩,
    ⟨Blk.new ((w.alloc (.cells #[.int .i64 k, .int .i64 n, .string s, .slice A len cap] 24)).alloc (.cells #[.int .i64 xk, .int .i64 xn, .string xs, .slice xA xl xc] 24)) 24 #[.int .i64 0, .int .i64 0, .string ⟨#[]⟩, .slice none 0 0], by simp; omega⟩, GV.start (((Chg.refl NoS w).alloc _).alloc _ |>.alloc _), fun e => (by cases e), fun e => (by cases e), fun e => (by cases e)⟩ : PS w _ w.heap.size _ _ _ _ _ [] [] 0 none 0)
  have hs1 : (w.alloc (.cells #[.int .i64 k, .int .i64 n, .string s, .slice A len cap] 24)).heap.size = w.heap.size + 1 := by simp
  have hs2 : ((w.alloc (.cells #[.int .i64 k, .int .i64 n, .string s, .slice A len cap] 24)).alloc (.cells #[.int .i64 xk, .int .i64 xn, .string xs, .slice xA xl xc] 24)).heap.size = w.heap.size + 1 + 1 := by simp
  rw [hs1, hs2] at HS0
  obtain ⟨W0, hW⟩ : ∃ W, W = ((w.alloc (.cells #[.int .i64 k, .int .i64 n, .string s, .slice A len cap] 24)).alloc (.cells #[.int .i64 xk, .int .i64 xn, .string xs, .slice xA xl xc] 24)).alloc (.cells #[.int .i64 0, .int .i64 0, .string ⟨#[]⟩, .slice none 0 0] 24) := ⟨_, rfl⟩
  rw [← hW] at HS0
  obtain ⟨g, hg1⟩ : ∃ g, g = w.heap.size := ⟨_, rfl⟩
  obtain ⟨gx, hg2⟩ : ∃ g, g = w.heap.size + 1 := ⟨_, rfl⟩
  obtain ⟨go, hg3⟩ : ∃ g, g = w.heap.size + 1 + 1 := ⟨_, rfl⟩
  rw [← hg3, ← hg2, ← hg1] at HS0
  have HNE : Hid (g ≠ go ∧ g ≠ gx ∧ gx ≠ go) := ⟨by omega, by omega, by omega⟩
  subst h7
  have HFI := keepf (show findI 7 l key = (match findL key l with | some j => ((2 * j : Nat) : Int) | none => -1) from if_pos rfl)
  rw [hf] at HFI
  simp only [] at HFI
  obtain ⟨q, hq⟩ : ∃ q, q = 2 * j := ⟨_, rfl⟩
  have hqe : q % 2 = 0 := by omega
  have hql : q < len := by have := findL_lt key _ l (Nat.le_refl _) j hf; rw [hl] at this; omega
  rw [← hq] at HFI
  rw [HFI.out] at HF
  have HE := keepf (put_7 (n := n) (s := s) (key := key) (x := tx) (l := l))
  have hpl := putL_len key tx l
  rw [hl] at hpl
  have HPL := keepf hpl
  obtain ⟨L, hL⟩ : ∃ L, L = putL key tx l := ⟨_, rfl⟩
  rw [← hL] at HE HPL
  have HLL := keepf hL
  have HLN := keepf (show L = restR q tx l 0 from by rw [HLL.out]; unfold putL; rw [hf]; simp only []; rw [hq, restR_zero])
  clear hv hvx hg hr hsz hkey hpl hL hl hf hq
  go_enter Tryz.func135, Tryz.ntmps135
  go_upto_region 1 with fail
  rw [← hW, ← hg3, ← hg2, ← hg1]
  clear hW hg1 hg2 hg3 hs1 hs2
  have p0 := HS0.out.bv.blk.cell 0
  have p1 := HS0.out.bv.blk.cell 1
  have p2 := HS0.out.bv.blk.cell 2
  have p3 := HS0.out.bv.blk.cell 3
  simp at p0 p1 p2 p3
  go_upto_region 7 with (go_at_call 134; refine (HF.out _ (HV.out.chg HS0.out.gv.chg)).mono ?_; rintro e w2 ⟨rfl, hc2⟩; have HS2 := keepf (HS0.out.call hc2); clear hc2)
  clear p0 p1 p2 p3 HS0 HF
  have mm : ¬ ((q : Int) < 0) := by omega
  have mq : decide ((q : Int) < 0) = false := by simp
  go_loopw [7, 9, 10] (fun vo vd vk wr => ∃ (k m c2 : Nat) (A2 : Option Addr) (es : List VC) (ts : List VT), k ≤ len + 1 ∧ m ≤ k ∧ k % 2 = 0 ∧ vo = .slice A2 m c2 ∧ vd = .bool false ∧ vk = .int .i64 (k : Nat) ∧ Hid (PS w wr g gx go #[.int .i64 7, .int .i64 n, .string s, .slice A len cap] #[.int .i64 xk, .int .i64 xn, .string xs, .slice xA xl xc] #[.int .i64 0, .int .i64 0, .string ⟨#[]⟩, .slice none 0 0] es ts m A2 c2 ∧ L = ts ++ restR q tx l k)) (fun _ _ vk _ => len + 1 - (intOf vk).toNat)
  case atStart => exact ⟨0, 0, 0, none, [], [], by omega, by omega, by omega, rfl, rfl, by go_num, keepf ⟨HS2.out, by rw [HLN.out]; rfl⟩⟩
  case round =>
    obtain ⟨k, m, c2, A2, es, ts, hk, hm, hke, rfl, rfl, rfl, HI⟩ := hrel
    have p0 := HI.out.1.bv.blk.cell 0
    have x0 := HI.out.1.bx.blk.cell 0
    have p1 := HI.out.1.bv.blk.cell 1
    have x1 := HI.out.1.bx.blk.cell 1
    have p2 := HI.out.1.bv.blk.cell 2
    have x2 := HI.out.1.bx.blk.cell 2
    have p3 := HI.out.1.bv.blk.cell 3
    have x3 := HI.out.1.bx.blk.cell 3
    simp at p0 p1 p2 p3 x0 x1 x2 x3
    by_cases h1 : k < len
    · obtain ⟨t, ht, hd⟩ := drop_vt (l := l) (k := k) (by rw [HL.out]; exact h1)
      obtain ⟨b, off, rfl⟩ : ∃ b off, A = some ⟨b, off, none⟩ := by
        have h := HR.out
        cases hll : l with
        | nil => rw [hll] at ht; simp at ht
        | cons t0 l0 => rw [hll] at h; exact h.start
      obtain ⟨eA, el, ec, hve, hce⟩ := el_at HR.out ht
      obtain ⟨c0, c1, c2, c3⟩ := hce _ HI.out.1.gv.chg
      have HCE := keepf hce
      have HVE := keepf hve
      have i1 : (k : Int) < len := by omega
      obtain ⟨tk, htk⟩ : ∃ tk, t.kind = tk := ⟨_, rfl⟩
      obtain ⟨tn, htn⟩ : ∃ tn, t.num = tn := ⟨_, rfl⟩
      obtain ⟨tss, hts⟩ : ∃ ts, t.str = ts := ⟨_, rfl⟩
      rw [htk] at c0 HCE HVE
      rw [htn] at c1 HCE HVE
      rw [hts] at c2 HCE HVE
      have HD := keepf hd
      have HT := keepf ht
      clear hve hce
      have hkw : IntKind.i64.wrap ((k : Int) + 2) = (k : Int) + 2 := by rw [IntKind.wrap_i64]; omega
      have HK0 := keepf htk
      clear htk htn hts hd ht HK0
      by_cases hkq : k = q
      · subst hkq
        have HP0 := keepf HI.out.1
        go_wp2_with first
          | (at_builtin; refine appV (w := w) (new := [⟨tk, tn, tss, eA, el, ec⟩]) (tn := [t]) rfl (.tmp 56) (.tmp 62) rfl rfl rfl HP0.out.gv ((Chg.refl _ _).alloc _) (by first | omega | (simp only [List.length_cons, List.length_nil]; omega)) (by first | omega | (simp only [List.length_cons, List.length_nil]; omega)) (src_new _ _ [⟨tk, tn, tss, eA, el, ec⟩] _ rfl _ _ rfl) rfl rfl (is_one HVE.out) ?_; intro A2 cc2 w2 hg2 hk2; have HP2 := keepf (HP0.out.app _ hg2 hk2); clear hg2 hk2; have p3 := HP2.out.bv.blk.cell 3; have x0 := HP2.out.bx.blk.cell 0; have x1 := HP2.out.bx.blk.cell 1; have x2 := HP2.out.bx.blk.cell 2; have x3 := HP2.out.bx.blk.cell 3; simp at p3 x0 x1 x2 x3)
          | (at_builtin; refine appV (w := w) (new := [⟨xk, xn, xs, xA, xl, xc⟩]) (tn := [tx]) rfl (.tmp 67) (.tmp 69) rfl rfl rfl HP2.out.gv ((Chg.refl _ _).alloc _) (by first | omega | (simp only [List.length_cons, List.length_nil]; omega)) (by first | omega | (simp only [List.length_cons, List.length_nil]; omega)) (src_new _ _ [⟨xk, xn, xs, xA, xl, xc⟩] _ rfl _ _ rfl) rfl rfl (is_one HVX.out) ?_; intro A3 cc3 w3 hg3 hk3; have HP3 := keepf (HP2.out.app _ hg3 hk3); clear hg3 hk3)
        go_roundw
        case rel => exact ⟨k + 2, ((m + 1) + 1), cc3, A3, _, ((ts ++ [t]) ++ [tx]), by omega, by omega, by omega, rfl, rfl, by go_num, keepf ⟨HP3.out, by rw [HI.out.2, restR_at HD.out]; simp⟩⟩
        case measure => simp [intOf]; omega
      · have kq : ((k : Int) == (q : Int)) = false := by simp; omega
        by_cases hmore : k + 1 < len
        · obtain ⟨u, hu⟩ : ∃ u, u = k + 1 := ⟨_, rfl⟩
          have hul : u < len := by omega
          have HU := keepf hu
          have e1 : (k : Int) + 1 = (u : Int) := by omega
          have k1 : IntKind.i64.wrap (u : Int) = (u : Int) := by rw [IntKind.wrap_i64]; omega
          have i2 : (u : Int) < len := by omega
          obtain ⟨t2, ht2, hd2⟩ := drop_vt (l := l) (k := u) (by rw [HL.out]; exact hul)
          obtain ⟨fA, fl, fc, hvf, hcf⟩ := el_at HR.out ht2
          obtain ⟨uk, huk⟩ : ∃ tk, t2.kind = tk := ⟨_, rfl⟩
          obtain ⟨un, hun⟩ : ∃ tn, t2.num = tn := ⟨_, rfl⟩
          obtain ⟨us, hus⟩ : ∃ ts, t2.str = ts := ⟨_, rfl⟩
          rw [huk, hun, hus] at hvf
          rw [huk, hun, hus] at hcf
          have HCF := keepf hcf
          have HVF := keepf hvf
          have HD2 := keepf hd2
          have HT2 := keepf ht2
          clear hvf hcf hd2 ht2 hu huk hun hus
          have HP0 := keepf HI.out.1
          go_wp2_with first
            | (at_builtin; refine appV (w := w) (new := [⟨tk, tn, tss, eA, el, ec⟩]) (tn := [t]) rfl (.tmp 56) (.tmp 62) rfl rfl rfl HP0.out.gv ((Chg.refl _ _).alloc _) (by first | omega | (simp only [List.length_cons, List.length_nil]; omega)) (by first | omega | (simp only [List.length_cons, List.length_nil]; omega)) (src_new _ _ [⟨tk, tn, tss, eA, el, ec⟩] _ rfl _ _ rfl) rfl rfl (is_one HVE.out) ?_; intro A2 cc2 w2 hg2 hk2; have HP2 := keepf (HP0.out.app _ hg2 hk2); clear hg2 hk2; have p3 := HP2.out.bv.blk.cell 3; have x0 := HP2.out.bx.blk.cell 0; have x1 := HP2.out.bx.blk.cell 1; have x2 := HP2.out.bx.blk.cell 2; have x3 := HP2.out.bx.blk.cell 3; simp at p3 x0 x1 x2 x3; obtain ⟨f0, f1, f2, f3⟩ := HCF.out _ HP2.out.gv.chg)
            | (at_builtin; refine appV (w := w) (new := [⟨uk, un, us, fA, fl, fc⟩]) (tn := [t2]) rfl (.tmp 77) (.tmp 84) rfl rfl rfl HP2.out.gv ((Chg.refl _ _).alloc _) (by first | omega | (simp only [List.length_cons, List.length_nil]; omega)) (by first | omega | (simp only [List.length_cons, List.length_nil]; omega)) (src_new _ _ [⟨uk, un, us, fA, fl, fc⟩] _ rfl _ _ rfl) rfl rfl (is_one HVF.out) ?_; intro A3 cc3 w3 hg3 hk3; have HP3 := keepf (HP2.out.app _ hg3 hk3); clear hg3 hk3)
          go_roundw
          case rel => exact ⟨k + 2, ((m + 1) + 1), cc3, A3, _, ((ts ++ [t]) ++ [t2]), by omega, by omega, by omega, rfl, rfl, by go_num, keepf ⟨HP3.out, by rw [HI.out.2, restR_two hke hqe hkq HD.out (by rw [← HU.out]; exact HD2.out)]; simp⟩⟩
          case measure => simp [intOf]; omega
        · have hul : k + 1 = len := by omega
          have HZ1 := keepf (show l.drop (k + 1) = [] from List.drop_of_length_le (by rw [HL.out]; omega))
          have HZ2 := keepf (show l.drop (k + 2) = [] from List.drop_of_length_le (by rw [HL.out]; omega))
          have e1 : ¬ (k : Int) + 1 < len := by omega
          have d3 : decide ((k : Int) + 1 < len) = false := by simp; omega
          have k1 : IntKind.i64.wrap ((k : Int) + 1) = (k : Int) + 1 := by rw [IntKind.wrap_i64]; omega
          have HP0 := keepf HI.out.1
          go_wp2_with first
            | (at_builtin; refine appV (w := w) (new := [⟨tk, tn, tss, eA, el, ec⟩]) (tn := [t]) rfl (.tmp 56) (.tmp 62) rfl rfl rfl HP0.out.gv ((Chg.refl _ _).alloc _) (by first | omega | (simp only [List.length_cons, List.length_nil]; omega)) (by first | omega | (simp only [List.length_cons, List.length_nil]; omega)) (src_new _ _ [⟨tk, tn, tss, eA, el, ec⟩] _ rfl _ _ rfl) rfl rfl (is_one HVE.out) ?_; intro A2 cc2 w2 hg2 hk2; have HP2 := keepf (HP0.out.app _ hg2 hk2); clear hg2 hk2; have p3 := HP2.out.bv.blk.cell 3; have x0 := HP2.out.bx.blk.cell 0; have x1 := HP2.out.bx.blk.cell 1; have x2 := HP2.out.bx.blk.cell 2; have x3 := HP2.out.bx.blk.cell 3; simp at p3 x0 x1 x2 x3)
          go_roundw
          case rel => exact ⟨k + 2, (m + 1), cc2, A2, _, (ts ++ [t]), by omega, by omega, by omega, rfl, rfl, by go_num, keepf ⟨HP2.out, by rw [HI.out.2, restR_end (by omega), restR_end (by omega), HD.out, HZ1.out, HZ2.out]; simp⟩⟩
          case measure => simp [intOf]; omega
    · have i1 : ¬ (k : Int) < len := by omega
      have HDZ := keepf (show restR q tx l k = [] from by rw [restR_end (by omega)]; exact List.drop_of_length_le (by rw [HL.out]; omega))
      have HFIN := keepf (show L = ts from by rw [HI.out.2, HDZ.out]; show ts ++ [] = ts; rw [List.append_nil])
      have HPF := keepf HI.out.1
      obtain ⟨wF, hwF⟩ : ∃ W, W = wr := ⟨_, rfl⟩
      rw [← hwF] at HPF ⊢
      rw [← hwF] at p0 p1 p2 p3 x0 x1 x2 x3
      clear hwF HI h1
      go_upto_region 19 with fail
      have gz3 := HPF.out.bv.blk.frozen 3
      have q0 := HPF.out.bv.blk.cell 0
      have q1 := HPF.out.bv.blk.cell 1
      have q2 := HPF.out.bv.blk.cell 2
      have q3 := HPF.out.bv.blk.cell 3
      simp at q0 q1 q2 q3
      go_upto_region 20 with fail
      clear q0 q1 q2 q3 gz3
      have HB9 : Hid (PB w (wF.setCell ⟨g, 3, none⟩ (.slice A2 m c2)) g #[.int .i64 7, .int .i64 n, .string s, .slice A2 m c2]) := HPF.out.bv.set 3 _
      have HO9 := keepf (HPF.out.bo.far (Ne.symm HNE.out.1) 3 (.slice A2 m c2))
      have HG9 := keepf (HPF.out.gv.far HPF.out.nv HPF.out.bv.new 3 (.slice A2 m c2))
      have HC9 := keepf HG9.out.chg
      have HN9 := keepf HPF.out.no
      obtain ⟨w9, hw9⟩ : ∃ W, W = wF.setCell ⟨g, 3, none⟩ (.slice A2 m c2) := ⟨_, rfl⟩
      rw [← hw9] at HB9 HO9 HG9 HC9 ⊢
      clear hw9
      have q0 := HB9.out.blk.cell 0
      have q1 := HB9.out.blk.cell 1
      have q2 := HB9.out.blk.cell 2
      have q3 := HB9.out.blk.cell 3
      have z0 := HO9.out.blk.frozen 0
      have z1 := HO9.out.blk.frozen 1
      have z2 := HO9.out.blk.frozen 2
      have z3 := HO9.out.blk.frozen 3
      have y0 := HO9.out.blk.cell 0
      have y1 := HO9.out.blk.cell 1
      have y2 := HO9.out.blk.cell 2
      have y3 := HO9.out.blk.cell 3
      simp at q0 q1 q2 q3 y0 y1 y2 y3
      go_wp2_with fail
      try simp only [Exit.noGoto_ret]
      clear y0 y1 y2 y3
      obtain ⟨hb, hcc⟩ := HO9.out.set4 (a := .int .i64 7) (b := .int .i64 n) (c := .string s) (d := .slice A2 m c2) HC9.out rfl
      have hgv := (((HG9.out.far HN9.out HO9.out.new 0 (.int .i64 7)).far HN9.out HO9.out.new 1 (.int .i64 n)).far HN9.out HO9.out.new 2 (.string s)).far HN9.out HO9.out.new 3 (.slice A2 m c2)
      have r0 := hb.blk.cell 0
      have r1 := hb.blk.cell 1
      have r2 := hb.blk.cell 2
      have r3 := hb.blk.cell 3
      simp at r0 r1 r2 r3
      refine bodyPost_ret (v := .agg #[.int .i64 7, .int .i64 n, .string s, .slice A2 m c2]) (by simp [results, Tryz.results135, go_sem, r0, r1, r2, r3]) rfl ?_
      exact ⟨⟨7, n, s, A2, m, c2⟩, rfl, by rw [HE.out, HFIN.out]; exact hgv.val (by unfold maxLen; omega) 7 n s HGD.out.k HGD.out.n HGD.out.s, hcc⟩

/-- The document's own Put. -/
theorem rput_any (c cx : VC) (l : List VT) (tx : VT) (key : ByteArray) (w : World) (hv : ValIs w (.mk c.k c.n c.s l) c) (hvx : ValIs w tx cx) (hsz : sizL l ≤ 1000000000) (hkey : key.size ≤ maxLen) :
    Calls Tryz.prog 135 #[c.val, .string key, cx.val] w (TreeTo w (putT (.mk c.k c.n c.s l) key tx)) := by
  by_cases h7 : c.k = 7
  · cases hf : findL key l with
    | none => exact rput_none c cx l tx key w hv hvx hsz hkey h7 hf
    | some j => exact rput_some c cx l tx key w hv hvx hsz hkey h7 hf
  · exact rput_no c cx l tx key w hv hvx hsz hkey h7

end Go.Proofs.YtcehpobjnbgpdaaGreatDoor

/- The program's DictOf: the walk. -/
namespace Go.Proofs.YtcehpobjnbgpdaaGreatDoor
open Go.RowKit
set_option linter.unusedVariables false
set_option linter.unusedSimpArgs false

/-- What is left to be told of pairs in order: of those of one name the last one. -/
def emF (S : Nat → ByteArray) (V : Nat → VT) : List Nat → List VT
  | [] => []
  | [p] => [nmT (S p), V p]
  | p :: q :: r => (if S q = S p then [] else [nmT (S p), V p]) ++ emF S V (q :: r)

theorem emF_last {S : Nat → ByteArray} {V : Nat → VT} {p : Nat} : emF S V [p] = [nmT (S p), V p] ++ emF S V [] := rfl

theorem emF_eq {S : Nat → ByteArray} {V : Nat → VT} {p q : Nat} {r : List Nat} (h : S q = S p) : emF S V (p :: q :: r) = emF S V (q :: r) := by rw [emF, if_pos h]; rfl

theorem emF_ne {S : Nat → ByteArray} {V : Nat → VT} {p q : Nat} {r : List Nat} (h : S q ≠ S p) : emF S V (p :: q :: r) = [nmT (S p), V p] ++ emF S V (q :: r) := by rw [emF, if_neg h]

theorem PRow.blk {w : World} {g cap b off : Nat} {d : List Nat} (h : PRow w g cap b off d) : ∃ cs, Blk w g 22 cs ∧ ∀ w' : World, Blk w' g 22 cs → PRow w' g cap b off d := by
  rcases h.2 with ⟨h1, _⟩ | ⟨g', cap', cur, h1, h2, hh, h3⟩
  · cases h1
  · simp only [Value.slice.injEq, Option.some.injEq, Addr.mk.injEq] at h1
    obtain ⟨⟨rfl, _, _⟩, _, rfl⟩ := h1
    exact ⟨cur, hh, fun w' hb => ⟨h.1, .inr ⟨_, _, cur, rfl, h2, hb, h3⟩⟩⟩

/-- What holds while the dictionary is made: its box, the result's, its row, the pairs. -/
structure DX (w W : World) (g go gs c1 b off : Nat) (Q : List Nat) (cv cz : Array Value) (es : List VC) (ts : List VT) (m : Nat) (A : Option Addr) (c : Nat) : Prop where
  bx : Bx w W g go cv cz es ts m A c
  pr : PRow W gs c1 b off Q
  ng : (Value.slice A m c).ownBlock ≠ some gs
  n1 : gs ≠ g
  n2 : w.heap.size ≤ gs

theorem DX.call {w W W' : World} {g go gs c1 b off m c : Nat} {Q : List Nat} {cv cz : Array Value} {es : List VC} {ts : List VT} {A : Option Addr} (h : DX w W g go gs c1 b off Q cv cz es ts m A c) (hc : Chg NoS W W') : DX w W' g go gs c1 b off Q cv cz es ts m A c :=
  ⟨⟨h.bx.b.call hc, h.bx.o.call hc, h.bx.row.call hc, h.bx.nb, h.bx.no, h.bx.ne⟩, h.pr.chg hc (fun e => e), h.ng, h.n1, h.n2⟩

theorem DX.app {w W W' : World} {g go gs c1 b off m c m' c' : Nat} {Q : List Nat} {cv cz : Array Value} {es es' : List VC} {ts ts' : List VT} {A A' : Option Addr} (h : DX w W g go gs c1 b off Q cv cz es ts m A c) (hg : GV w W' es' ts' m' A' c')
    (k : ∀ (g : Nat) (T : TypeId) (cs : Array Value), Blk W g T cs → (Value.slice A m c).ownBlock ≠ some g → Blk W' g T cs ∧ (Value.slice A' m' c').ownBlock ≠ some g) : DX w W' g go gs c1 b off Q cv cz es' ts' m' A' c' := by
  obtain ⟨cs, hb, hp⟩ := h.pr.blk
  have h1 := k _ _ _ hb h.ng
  have h2 := h.bx.b.kept k h.bx.nb
  have h3 := h.bx.o.kept k h.bx.no
  exact ⟨⟨h2.1, h3.1, hg, h2.2, h3.2, h.bx.ne⟩, hp _ h1.1, h1.2, h.n1, h.n2⟩

theorem DX.put {w W : World} {g go gs c1 b off m c : Nat} {Q : List Nat} {k n : Int} {s : ByteArray} {v : Value} {cz : Array Value} {es : List VC} {ts : List VT} {A : Option Addr} (h : DX w W g go gs c1 b off Q #[.int .i64 k, .int .i64 n, .string s, v] cz es ts m A c) :
    DX w (W.setCell ⟨g, 3, none⟩ (.slice A m c)) g go gs c1 b off Q #[.int .i64 k, .int .i64 n, .string s, .slice A m c] cz es ts m A c := by
  refine ⟨h.bx.put, ?_, h.ng, h.n1, h.n2⟩
  exact h.pr.chg (K := fun i => i = g) ((Chg.refl (fun i => i = g) W).setCell (p := ⟨g, 3, none⟩) (fun _ => rfl) _) h.n1

/-- What is held in the region: the row in the box, the name's text, the value's cells. -/
theorem DX.held {w W : World} {g go gs c1 b off p m c m0 c0 : Nat} {Q : List Nat} {k n : Int} {s t : ByteArray} {cz : Array Value} {es : List VC} {ts : List VT} {A A0 : Option Addr} {v0 v1 v2 v3 : Value} (h : DX w W g go gs c1 b off Q #[.int .i64 k, .int .i64 n, .string s, .slice A0 m0 c0] cz es ts m A c)
    (hc : ∀ W, Chg NoS w W → W.cell? ⟨b, off + 2 * p * 4 + 2, none⟩ = some (.string t) ∧ W.cell? ⟨b, off + 2 * p * 4 + 4, none⟩ = some v0 ∧ W.cell? ⟨b, off + 2 * p * 4 + 4 + 1, none⟩ = some v1 ∧ W.cell? ⟨b, off + 2 * p * 4 + 4 + 2, none⟩ = some v2 ∧ W.cell? ⟨b, off + 2 * p * 4 + 4 + 3, none⟩ = some v3) :
    W.cell? ⟨g, 3, none⟩ = some (.slice A0 m0 c0) ∧ W.cell? ⟨b, off + 2 * p * 4 + 2, none⟩ = some (.string t) ∧ W.cell? ⟨b, off + 2 * p * 4 + 4, none⟩ = some v0 ∧ W.cell? ⟨b, off + 2 * p * 4 + 4 + 1, none⟩ = some v1 ∧ W.cell? ⟨b, off + 2 * p * 4 + 4 + 2, none⟩ = some v2 ∧ W.cell? ⟨b, off + 2 * p * 4 + 4 + 3, none⟩ = some v3 := by
  have h3 := h.bx.b.blk.cell 3
  simp at h3
  exact ⟨h3, hc W h.bx.row.chg⟩

theorem own_base {W : World} {B : Nat} {e : TypeId} {size : Nat} {v : Value} {n : Nat} {xs : List Value} (h : W.ownsRow B e size v n xs) : W.ownsRow 0 e size v n xs :=
  ⟨h.1, h.2.imp id (fun ⟨g, cap, cur, h1, _, h2⟩ => ⟨g, cap, cur, h1, Nat.zero_le _, h2⟩)⟩

/-- Collect's row, where something has come. -/
theorem col_row {W : World} {B b off m : Nat} {A1 : Option Addr} {c1 : Nat} (h : W.ownsRow B 22 1 (.slice A1 m c1) m (pcells b off m)) (h0 : 0 < m) : ∃ gs, A1 = some ⟨gs, 0, none⟩ ∧ B ≤ gs ∧ PRow W gs c1 b off (List.range m) := by
  rcases h.2 with ⟨_, h1⟩ | ⟨g, cap, cur, h1, h2, h3, h4⟩
  · omega
  · simp only [Value.slice.injEq] at h1
    obtain ⟨rfl, _, rfl⟩ := h1
    refine ⟨g, rfl, h2, ?_⟩
    unfold PRow
    rw [List.length_range]
    exact own_base h

def keyAt (l : List VT) (x : Nat) : ByteArray := ((l[2 * x]?).getD nilT).str

def valAt (l : List VT) (x : Nat) : VT := (l[2 * x + 1]?).getD nilT

/-- The tree of the dictionary that DictOf makes. -/
noncomputable def dictT (l : List VT) : List VT := emF (keyAt l) (valAt l) (sortR (keyAt l) (List.range (l.length / 2))).reverse

set_option maxHeartbeats 8000000 in
set_option maxRecDepth 100000 in
theorem dictOf_some (l : List VT) (b off len cap : Nat) (w : World) (hl : l.length = len) (hr : RowIs w (some ⟨b, off, none⟩) 0 l) (hcap : len ≤ cap) (h40 : len ≤ 40) (h2 : 2 ≤ len) (hks : ∀ t ∈ l, t.str.size ≤ maxLen) :
    Calls Tryz.prog 21 #[.slice (some ⟨b, off, none⟩) len cap] w (TreeTo w (.mk 7 0 ⟨#[]⟩ (dictT l))) := by
  obtain ⟨m, hm⟩ : ∃ m, m = len / 2 := ⟨_, rfl⟩
  obtain ⟨L2, hL2⟩ : ∃ L2, L2 = 2 * m := ⟨_, rfl⟩
  obtain ⟨S, hS⟩ : ∃ S, S = keyAt l := ⟨_, rfl⟩
  obtain ⟨V, hV⟩ : ∃ V, V = valAt l := ⟨_, rfl⟩
  obtain ⟨Q, hQ⟩ : ∃ Q, Q = (sortR S (List.range m)).reverse := ⟨_, rfl⟩
  have HDT := keepf (show dictT l = emF S V Q from by rw [hQ, hS, hV, hm, ← hl]; rfl)
  have HQM : Hid (∀ p ∈ Q, p < m) := fun p hp => by
    rw [hQ] at hp
    exact List.mem_range.1 (sortR_mem (List.mem_reverse.1 hp))
  have HQL : Hid (Q.length = m) := by show _ = _; rw [hQ, List.length_reverse, sortR_len, List.length_range]
  have HPC : Hid (∀ p, p < m → ∃ (x : VT) (xk xn : Int) (xs : ByteArray) (xA : Option Addr) (xl xc : Nat), V p = x ∧ ValIs w x ⟨xk, xn, xs, xA, xl, xc⟩ ∧ (S p).size ≤ maxLen ∧ ∀ W, Chg NoS w W → W.cell? ⟨b, off + 2 * p * 4 + 2, none⟩ = some (.string (S p)) ∧ W.cell? ⟨b, off + 2 * p * 4 + 4, none⟩ = some (.int .i64 xk) ∧ W.cell? ⟨b, off + 2 * p * 4 + 4 + 1, none⟩ = some (.int .i64 xn) ∧ W.cell? ⟨b, off + 2 * p * 4 + 4 + 2, none⟩ = some (.string xs) ∧ W.cell? ⟨b, off + 2 * p * 4 + 4 + 3, none⟩ = some (.slice xA xl xc)) := by
    show ∀ p, _
    intro p hp
    obtain ⟨t, ht, _⟩ := drop_vt (l := l) (k := 2 * p) (by omega)
    obtain ⟨x, hx, _⟩ := drop_vt (l := l) (k := 2 * p + 1) (by omega)
    obtain ⟨eA, el, ec, c0, c1, c2, c3, hve⟩ := hr.nth (Chg.refl NoS w) ht
    obtain ⟨xA, xl, xc, d0, d1, d2, d3, hvx⟩ := hr.nth (Chg.refl NoS w) hx
    have e1 : S p = t.str := by rw [hS]; unfold keyAt; rw [ht]; rfl
    have e2 : V p = x := by rw [hV]; unfold valAt; rw [hx]; rfl
    refine ⟨x, x.kind, x.num, x.str, xA, xl, xc, e2, hvx, by rw [e1]; exact hks t (List.mem_of_getElem? ht), fun W hW => ⟨?_, ?_, ?_, ?_, ?_⟩⟩
    · rw [e1]; exact (hW.cell (p := ⟨b, _, none⟩) (cell_lt c2) (fun h => h)).trans c2
    · rw [show off + 2 * p * 4 + 4 = off + (2 * p + 1) * 4 by omega]; exact (hW.cell (p := ⟨b, _, none⟩) (cell_lt d0) (fun h => h)).trans d0
    · rw [show off + 2 * p * 4 + 4 + 1 = off + (2 * p + 1) * 4 + 1 by omega]; exact (hW.cell (p := ⟨b, _, none⟩) (cell_lt d1) (fun h => h)).trans d1
    · rw [show off + 2 * p * 4 + 4 + 2 = off + (2 * p + 1) * 4 + 2 by omega]; exact (hW.cell (p := ⟨b, _, none⟩) (cell_lt d2) (fun h => h)).trans d2
    · rw [show off + 2 * p * 4 + 4 + 3 = off + (2 * p + 1) * 4 + 3 by omega]; exact (hW.cell (p := ⟨b, _, none⟩) (cell_lt d3) (fun h => h)).trans d3
  have hm0 : 0 < m := by omega
  have hm20 : m ≤ 20 := by omega
  have hbl : b < w.heap.size := by
    obtain ⟨x, xk, xn, xs, xA, xl, xc, _, _, _, hc⟩ := HPC.out 0 hm0
    exact cell_lt (hc w (Chg.refl _ _)).1
  have HBL := keepf hbl
  have t1 : (len : Int).tdiv 2 = (m : Int) := by rw [Int.tdiv_eq_ediv_of_nonneg (by omega)]; omega
  have t2 : (len : Int) / 2 = (m : Int) := by omega
  have t3 : (m : Int) * 2 = (L2 : Int) := by omega
  have i1 : (L2 : Int) ≤ cap := by omega
  have i2 : L2 ≤ cap := by omega
  have HCK := keepf (fun W => chunkV_any W (some ⟨b, off, none⟩) L2 cap)
  have HCO : Hid (∀ (W : World) (Bs Bn : Nat), W.cell? ⟨Bs, 0, none⟩ = some (.slice (some ⟨b, off, none⟩) L2 cap) → W.cell? ⟨Bn, 0, none⟩ = some (.int .i64 2) → Calls Tryz.prog 39 #[.func (.func 76) #[] #[.pointer (some ⟨Bs, 0, none⟩), .pointer (some ⟨Bn, 0, none⟩)]] W fun e w' =>
      ∃ v, e = .returned v ∧ w'.ownsRow W.heap.size 22 1 v m (pcells b off m) ∧ Below W.heap.size W w') := by
    show ∀ W : World, _
    intro W Bs Bn h1 h2
    exact collect_any m Bs Bn b off cap _ W (by omega) (fun _ => rfl) (by omega) (by rw [← hL2]; exact h1) h2
  have HO := keepf (⟨Blk.new w 24 #[.int .i64 0, .int .i64 0, .string ⟨#[]⟩, .slice none 0 0], Nat.le_refl _⟩ : PB w _ _ _)
  have HC1 := keepf ((Chg.refl NoS w).alloc (.cells #[.int .i64 0, .int .i64 0, .string ⟨#[]⟩, .slice none 0 0] 24))
  have hbs := (Blk.new (w.alloc (.cells #[.int .i64 0, .int .i64 0, .string ⟨#[]⟩, .slice none 0 0] 24)) 22 #[.slice (some ⟨b, off, none⟩) L2 cap]).alloc (.cells #[.int .i64 2] 3)
  have hbn := Blk.new ((w.alloc (.cells #[.int .i64 0, .int .i64 0, .string ⟨#[]⟩, .slice none 0 0] 24)).alloc (.cells #[.slice (some ⟨b, off, none⟩) L2 cap] 22)) 3 #[.int .i64 2]
  simp only [World.size_alloc] at hbs hbn
  have HCC := keepf (HCO.out _ _ _ (hbs.cell 0) (hbn.cell 0))
  have HQE := keepf hQ
  clear hbs hbn hm hL2 hS hV hQ hl hr HCO hbl
  go_enter Tryz.func21, Tryz.ntmps21
  go_upto_region 2 with (first
    | (go_at_call 40; refine (HCK.out _).mono ?_; rintro e w3 ⟨rfl, rfl⟩)
    | (go_at_call 39; refine HCC.out.mono ?_; rintro e w4 ⟨v, rfl, hrow, hb4⟩; obtain ⟨A1, c1, rfl, _⟩ := own_slice hrow; obtain ⟨gs, rfl, hgs, hpr⟩ := col_row hrow hm0; have HPR := keepf hpr; have HC4 := keepf (((HC1.out.alloc _).alloc _).trans (Chg.of_below (S := NoS) hb4) (fun _ _ e => e)); have HO4 := keepf (((HO.out.alloc _).alloc _).call (Chg.of_below (S := NoS) hb4)); have HGS := keepf hgs; clear hrow hb4 hpr hgs))
  have hgs1 : w.heap.size ≤ gs := by have h1 := HGS.out; simp only [World.size_alloc] at h1; omega
  have hbgs : b ≠ gs := by have h1 := HBL.out; omega
  obtain ⟨g0, hg0⟩ : ∃ g, g = w.heap.size := ⟨_, rfl⟩
  have hg04 : g0 ≠ gs := by have h1 := HGS.out; simp only [World.size_alloc] at h1; omega
  have hso := sortP_any 42 b off m gs c1 S w4 (fun args w => rfl) (dcmp_any b off gs m S w4 (fun x hx => by
    obtain ⟨_, _, _, _, _, _, _, _, _, _, hc⟩ := HPC.out x hx
    exact (hc w4 HC4.out).1) hbgs) (List.range m) w4 (by rw [List.length_range]; exact hm20) (fun x hx => List.mem_range.1 hx) HPR.out (Chg.refl _ _)
  rw [List.length_range, ← HQE.out] at hso
  have HSO := keepf hso
  rw [← hg0] at HO4 ⊢
  have HG0 := keepf hg0
  clear hso hg0 HGS HPR HCK HCC HO HC1
  go_upto_region 5 with (go_at_call 41; refine HSO.out.mono ?_; rintro e w5 ⟨rfl, hp5, hc5⟩; have HP5 := keepf hp5; have HC5 := keepf (HC4.out.trans hc5 (fun i hi e => by omega : ∀ i, i < w.heap.size → i = gs → NoS i)); have HO5 := keepf (⟨HO4.out.blk.chg hc5 hg04, HO4.out.new⟩ : PB w w5 g0 _); clear hp5 hc5)
  have HD0 : Hid (DX w (w5.alloc (.cells #[.int .i64 7, .int .i64 0, .string ⟨#[]⟩, .slice none 0 0] 24)) w5.heap.size g0 gs c1 b off Q #[.int .i64 7, .int .i64 0, .string ⟨#[]⟩, .slice none 0 0] #[.int .i64 0, .int .i64 0, .string ⟨#[]⟩, .slice none 0 0] [] [] 0 none 0) :=
    ⟨⟨⟨Blk.new _ _ _, HC5.out.size⟩, ⟨HO5.out.blk.alloc _, HO5.out.new⟩, GV.start (HC5.out.alloc _), fun e => (by cases e), fun e => (by cases e), fun e => by have := HO5.out.blk.lt; omega⟩, HP5.out.chg (K := NoS) ((Chg.refl _ _).alloc _) (fun e => e), fun e => (by cases e), fun e => by have := HP5.out.lt; omega, hgs1⟩
  obtain ⟨g4, hg4⟩ : ∃ g, g = w5.heap.size := ⟨_, rfl⟩
  rw [← hg4] at HD0 ⊢
  clear hg4
  go_loopw [20] (fun v wr => ∃ (q : Nat) (es : List VC) (ts : List VT) (N : Nat) (A3 : Option Addr) (c3 : Nat), q ≤ m ∧ v = .int .i64 q ∧ N ≤ 2 * q ∧ Hid (DX w wr g4 g0 gs c1 b off Q #[.int .i64 7, .int .i64 0, .string ⟨#[]⟩, .slice A3 N c3] #[.int .i64 0, .int .i64 0, .string ⟨#[]⟩, .slice none 0 0] es ts N A3 c3) ∧ Hid (ts ++ emF S V (Q.drop q) = emF S V Q)) (fun v _ => m - (intOf v).toNat)
  case atStart => exact ⟨0, [], [], 0, none, 0, by omega, by go_num, by omega, HD0, keepf (by rw [List.drop_zero]; rfl)⟩
  case round =>
    obtain ⟨q, es, ts, N, A3, c3, hq, rfl, hN2, HDX, HEM⟩ := hrel
    by_cases hlt : q < m
    · obtain ⟨p, hp⟩ : ∃ p, Q[q]? = some p := ⟨_, List.getElem?_eq_getElem (by rw [HQL.out]; exact hlt)⟩
      have hdr : Q.drop q = p :: Q.drop (q + 1) := by
        have h1 := (List.getElem?_eq_some_iff.1 hp)
        obtain ⟨h1, h3⟩ := h1
        rw [List.drop_eq_getElem_cons h1, h3]
      have hpm := HQM.out p (List.mem_of_getElem? hp)
      obtain ⟨x, xk, xn, xs, xA, xl, xc, hvx, hvi, hsz, hcl⟩ := HPC.out p hpm
      have HVX := keepf hvi
      have HNM := keepf (nm_is w (S p) hsz)
      have HCL := keepf hcl
      have HVV := keepf hvx
      have KK := hcl wr HDX.out.bx.row.chg
      have k1 := HDX.out.pr.cell hp
      unfold pcell at k1
      obtain ⟨k2, _⟩ := KK
      have j1 : (q : Int) < m := by omega
      obtain ⟨u, hu⟩ : ∃ u, u = q + 1 := ⟨_, rfl⟩
      have e1 : (q : Int) + 1 = (u : Int) := by omega
      have k0 : IntKind.i64.wrap (u : Int) = (u : Int) := by rw [IntKind.wrap_i64]; omega
      have HU := keepf hu
      clear hvi hcl hvx hu hsz hpm
      by_cases hlast : u = m
      · have HEN : Hid ((ts ++ [nmT (S p), x]) ++ emF S V (Q.drop (q + 1)) = emF S V Q) := by
          show _ = _
          rw [← HEM.out, hdr, List.drop_of_length_le (l := Q) (by rw [HQL.out]; have := HU.out; omega), emF_last, HVV.out, List.append_assoc]
        have f1 : ((u : Int) == (m : Int)) = true := by simp; omega
        have f2 : (u == m) = true := by simp; omega
        clear hdr hp hlast
        go_upto_region 7 with fail
        go_quiet (fail)
        go_upto_region 8 with fail
        have HXD := keepf (HDX.out.call (((Chg.refl NoS wr).drewN nq).drew))
        have HDD := keepf (HDX.out.call ((Chg.refl NoS wr).drewN nq))
        clear k1
        generalize wr.drewN nq = wq at *
        refine startZ (fun w' => w'.cell? ⟨g4, 3, none⟩ = some (.slice A3 N c3) ∧ w'.cell? ⟨b, off + 2 * p * 4 + 2, none⟩ = some (.string (S p)) ∧ w'.cell? ⟨b, off + 2 * p * 4 + 4, none⟩ = some (.int .i64 xk) ∧ w'.cell? ⟨b, off + 2 * p * 4 + 4 + 1, none⟩ = some (.int .i64 xn) ∧ w'.cell? ⟨b, off + 2 * p * 4 + 4 + 2, none⟩ = some (.string xs) ∧ w'.cell? ⟨b, off + 2 * p * 4 + 4 + 3, none⟩ = some (.slice xA xl xc)) 13 (by kernel_rfl) (HXD.out.held HCL.out) (fun hHeld => ?_)
        refine takeZ (i := 0) (oi := { dst := some 45, op := Go.Op.fieldAddr 24 (Go.Operand.tmp 4) 3, type := 0, pos := _, after := _, guard := none }) (v := ?_) rfl (by kernel_rfl) (by kernel_rfl) (by kernel_rfl) (by kernel_rfl) (fun _ _ _ h => h) (Or.inl ⟨by rfl, ?_⟩) (by assumption) ?_
        rotate_left
        · intro w hSw; (try dsimp only at hSw); (try obtain ⟨s0, s1, s2, s3, s4, s5⟩ := hSw); (first | (go_simp; done) | (go_simp; with_reducible rfl))
        try simp only [Act.put, List.setIfInBounds_toArray, List.set_cons_zero, List.set_cons_succ]
        refine takeZ (i := 1) (oi := { dst := some 46, op := Go.Op.load 22 (Go.Operand.tmp 45), type := 22, pos := _, after := _, guard := none }) (v := ?_) rfl (by kernel_rfl) (by kernel_rfl) (by kernel_rfl) (by kernel_rfl) (fun _ _ _ h => h) (Or.inl ⟨by rfl, ?_⟩) (by assumption) ?_
        rotate_left
        · intro w hSw; (try dsimp only at hSw); (try obtain ⟨s0, s1, s2, s3, s4, s5⟩ := hSw); (first | (go_simp; done) | (go_simp; with_reducible rfl))
        try simp only [Act.put, List.setIfInBounds_toArray, List.set_cons_zero, List.set_cons_succ]
        refine takeZ (i := 2) (oi := { dst := some 47, op := Go.Op.move (Go.Operand.tmp 6), type := 22, pos := _, after := _, guard := none }) (v := ?_) rfl (by kernel_rfl) (by kernel_rfl) (by kernel_rfl) (by kernel_rfl) (fun _ _ _ h => h) (Or.inl ⟨by rfl, ?_⟩) (by assumption) ?_
        rotate_left
        · intro w hSw; (try dsimp only at hSw); (try obtain ⟨s0, s1, s2, s3, s4, s5⟩ := hSw); (first | (go_simp; done) | (go_simp; with_reducible rfl))
        try simp only [Act.put, List.setIfInBounds_toArray, List.set_cons_zero, List.set_cons_succ]
        refine takeZ (i := 3) (oi := { dst := some 48, op := Go.Op.indexAddr 22 (Go.Operand.tmp 47) (Go.Operand.const (Go.Value.int Go.IntKind.i64 0)), type := 0, pos := _, after := _, guard := none }) (v := ?_) rfl (by kernel_rfl) (by kernel_rfl) (by kernel_rfl) (by kernel_rfl) (fun _ _ _ h => h) (Or.inl ⟨by rfl, ?_⟩) (by assumption) ?_
        rotate_left
        · intro w hSw; (try dsimp only at hSw); (try obtain ⟨s0, s1, s2, s3, s4, s5⟩ := hSw); (first | (go_simp; done) | (go_simp; with_reducible rfl))
        try simp only [Act.put, List.setIfInBounds_toArray, List.set_cons_zero, List.set_cons_succ]
        refine takeZ (i := 4) (oi := { dst := some 49, op := Go.Op.fieldAddr 24 (Go.Operand.tmp 48) 2, type := 0, pos := _, after := _, guard := none }) (v := ?_) rfl (by kernel_rfl) (by kernel_rfl) (by kernel_rfl) (by kernel_rfl) (fun _ _ _ h => h) (Or.inl ⟨by rfl, ?_⟩) (by assumption) ?_
        rotate_left
        · intro w hSw; (try dsimp only at hSw); (try obtain ⟨s0, s1, s2, s3, s4, s5⟩ := hSw); (first | (go_simp; done) | (go_simp; with_reducible rfl))
        try simp only [Act.put, List.setIfInBounds_toArray, List.set_cons_zero, List.set_cons_succ]
        refine takeZ (i := 5) (oi := { dst := some 50, op := Go.Op.load 9 (Go.Operand.tmp 49), type := 9, pos := _, after := _, guard := none }) (v := ?_) rfl (by kernel_rfl) (by kernel_rfl) (by kernel_rfl) (by kernel_rfl) (fun _ _ _ h => h) (Or.inl ⟨by rfl, ?_⟩) (by assumption) ?_
        rotate_left
        · intro w hSw; (try dsimp only at hSw); (try obtain ⟨s0, s1, s2, s3, s4, s5⟩ := hSw); (first | (go_simp; done) | (go_simp; with_reducible rfl))
        try simp only [Act.put, List.setIfInBounds_toArray, List.set_cons_zero, List.set_cons_succ]
        refine takeZ (i := 7) (oi := { dst := some 52, op := Go.Op.move (Go.Operand.tmp 6), type := 22, pos := _, after := _, guard := none }) (v := ?_) rfl (by kernel_rfl) (by kernel_rfl) (by kernel_rfl) (by kernel_rfl) (fun _ _ _ h => h) (Or.inl ⟨by rfl, ?_⟩) (by assumption) ?_
        rotate_left
        · intro w hSw; (try dsimp only at hSw); (try obtain ⟨s0, s1, s2, s3, s4, s5⟩ := hSw); (first | (go_simp; done) | (go_simp; with_reducible rfl))
        try simp only [Act.put, List.setIfInBounds_toArray, List.set_cons_zero, List.set_cons_succ]
        refine takeZ (i := 8) (oi := { dst := some 53, op := Go.Op.indexAddr 22 (Go.Operand.tmp 52) (Go.Operand.const (Go.Value.int Go.IntKind.i64 1)), type := 0, pos := _, after := _, guard := none }) (v := ?_) rfl (by kernel_rfl) (by kernel_rfl) (by kernel_rfl) (by kernel_rfl) (fun _ _ _ h => h) (Or.inl ⟨by rfl, ?_⟩) (by assumption) ?_
        rotate_left
        · intro w hSw; (try dsimp only at hSw); (try obtain ⟨s0, s1, s2, s3, s4, s5⟩ := hSw); (first | (go_simp; done) | (go_simp; with_reducible rfl))
        try simp only [Act.put, List.setIfInBounds_toArray, List.set_cons_zero, List.set_cons_succ]
        refine takeZ (i := 9) (oi := { dst := some 54, op := Go.Op.load 24 (Go.Operand.tmp 53), type := 24, pos := _, after := _, guard := none }) (v := ?_) rfl (by kernel_rfl) (by kernel_rfl) (by kernel_rfl) (by kernel_rfl) (fun _ _ _ h => h) (Or.inl ⟨by rfl, ?_⟩) (by assumption) ?_
        rotate_left
        · intro w hSw; (try dsimp only at hSw); (try obtain ⟨s0, s1, s2, s3, s4, s5⟩ := hSw); (first | (go_simp; done) | (go_simp; with_reducible rfl))
        try simp only [Act.put, List.setIfInBounds_toArray, List.set_cons_zero, List.set_cons_succ]
        refine oneZ (i := 6) (o := { dst := some 51, op := Go.Op.call { callee := Go.Callee.value (Go.Operand.func 22), args := #[Go.Operand.tmp 50], argTypes := #[9] }, type := 24, pos := _, after := _, guard := none }) (by kernel_rfl) rfl (by decide) (fun K hK => ?_)
        go_simp
        (go_at_call 22; refine (nameOf_any (S p) _).mono ?_; rintro e w7 ⟨rfl, hc7⟩; have hx7 := HXD.out.call hc7)
        refine hK.out _ _ (hx7.held HCL.out) (fun hHeld => ?_)
        clear hK K
        try simp only [Act.put, List.setIfInBounds_toArray, List.set_cons_zero, List.set_cons_succ]
        refine oneZ (i := 10) (o := { dst := some 55, op := Go.Op.buildSlice 22 2 #[(0, Go.Operand.tmp 51), (1, Go.Operand.tmp 54)], type := 22, pos := _, after := _, guard := none }) (by kernel_rfl) rfl (by decide) (fun K hK => ?_)
        go_simp
        refine hK.out _ _ ((hx7.call ((Chg.refl NoS w7).alloc _)).held HCL.out) (fun hHeld => ?_)
        clear hK K
        try simp only [Act.put, List.setIfInBounds_toArray, List.set_cons_zero, List.set_cons_succ]
        refine oneZ (i := 11) (o := { dst := some 56, op := Go.Op.call { callee := Go.Callee.builtin Go.Builtin.append, args := #[Go.Operand.tmp 46, Go.Operand.tmp 55], argTypes := #[22, 22] }, type := 22, pos := _, after := _, guard := none }) (by kernel_rfl) rfl (by decide) (fun K hK => ?_)
        (refine step_appV (w := w) (wr := w7) (new := [⟨5, 0, S p, none, 0, 0⟩, ⟨xk, xn, xs, xA, xl, xc⟩]) (tn := [nmT (S p), x]) (m := 2) (cx := 2) (X := some ⟨w7.heap.size, 0, none⟩) (A := A3) (n := N) (c := c3) rfl (.tmp 46) (.tmp 55) rfl rfl rfl hx7.bx.row ((Chg.refl NoS w7).alloc _) (by omega) (by omega) (pc_two HNM.out HVX.out (Blk.new w7 _ _)).src rfl rfl (is_two HNM.out HVX.out) ?_; intro A4 c4 w8 hg8 hk8; have hx8 := (hx7.call ((Chg.refl NoS w7).alloc _)).app hg8 hk8)
        refine hK.out _ _ (hx8.held HCL.out) (fun hHeld => ?_)
        clear hK K
        try simp only [Act.put, List.setIfInBounds_toArray, List.set_cons_zero, List.set_cons_succ]
        refine takeZ (i := 12) (oi := { dst := some 57, op := Go.Op.fieldAddr 24 (Go.Operand.tmp 4) 3, type := 0, pos := _, after := _, guard := none }) (v := ?_) rfl (by kernel_rfl) (by kernel_rfl) (by kernel_rfl) (by kernel_rfl) (fun _ _ _ h => h) (Or.inl ⟨by rfl, ?_⟩) (by assumption) ?_
        rotate_left
        · intro w hSw; (try dsimp only at hSw); (try obtain ⟨s0, s1, s2, s3, s4, s5⟩ := hSw); (first | (go_simp; done) | (go_simp; with_reducible rfl))
        try simp only [Act.put, List.setIfInBounds_toArray, List.set_cons_zero, List.set_cons_succ]
        refine lastZ (o := { dst := none, op := Go.Op.store 22 (Go.Operand.tmp 57) (Go.Operand.tmp 56), type := 0, pos := _, after := _, guard := none }) (by kernel_rfl) rfl (by kernel_rfl) (fun K hK => ?_)
        have z3 := hx8.bx.b.blk.frozen 3
        have q3 := hx8.bx.b.blk.cell 3
        simp at q3
        go_simp
        refine hK.out _ _ ?_
        clear hK K
        try simp only [Act.put, List.setIfInBounds_toArray, List.set_cons_zero, List.set_cons_succ]
        have HDN := keepf hx8.put
        clear z3 q3 hx7 hk8 hg8
        go_wp2_with fail
        go_roundw
        case rel => exact ⟨q + 1, _, ts ++ [nmT (S p), x], N + 2, A4, c4, by omega, by go_num, by omega, HDN, HEN⟩
        case measure => simp [intOf]; omega

      · obtain ⟨p2, hp2⟩ : ∃ p2, Q[u]? = some p2 := ⟨_, List.getElem?_eq_getElem (by rw [HQL.out]; have := HU.out; omega)⟩
        have hdr2 : Q.drop (q + 1) = p2 :: Q.drop (u + 1) := by
          have h1 := (List.getElem?_eq_some_iff.1 hp2)
          obtain ⟨h1, h3⟩ := h1
          rw [← HU.out, List.drop_eq_getElem_cons h1, h3]
        obtain ⟨_, _, _, _, _, _, _, _, _, _, hcl2⟩ := HPC.out p2 (HQM.out p2 (List.mem_of_getElem? hp2))
        have k3 := (hcl2 wr HDX.out.bx.row.chg).1
        have k4 := HDX.out.pr.cell hp2
        unfold pcell at k4
        have f1 : ((u : Int) == (m : Int)) = false := by simp; omega
        have f2 : (u == m) = false := by simp; omega
        have j2 : (u : Int) < m := by have := HU.out; omega
        have j3 : (0 : Int) ≤ (u : Int) := by omega
        by_cases hss : S p2 = S p
        · have HEN : Hid (ts ++ emF S V (Q.drop (q + 1)) = emF S V Q) := by
            show _ = _
            rw [← HEM.out, hdr, hdr2, emF_eq hss]
          rw [hss] at k3
          clear hdr hdr2 hp hp2 hcl2 hss hlast
          go_upto_region 7 with fail
          go_quiet (fail)
          go_wp2_with fail
          go_roundw
          case rel => exact ⟨q + 1, es, ts, N, A3, c3, by omega, by go_num, by omega, HDX.out.call ((Chg.refl NoS _).drewN nq), HEN⟩
          case measure => simp [intOf]; omega
        · have HEN : Hid ((ts ++ [nmT (S p), x]) ++ emF S V (Q.drop (q + 1)) = emF S V Q) := by
            show _ = _
            rw [← HEM.out, hdr, hdr2, emF_ne hss, HVV.out, List.append_assoc]
          have hs3 : ¬ (S p2).toList = (S p).toList := str_ne11 hss
          have hs4 : ((S p2).toList == (S p).toList) = false := by simpa using hs3
          clear hdr hdr2 hp hp2 hcl2 hss hlast
          go_upto_region 7 with fail
          go_quiet (fail)
          clear k3 k4
          go_upto_region 8 with fail
          have HXD := keepf (HDX.out.call (((Chg.refl NoS wr).drewN nq).drew))
          have HDD := keepf (HDX.out.call ((Chg.refl NoS wr).drewN nq))
          clear k1
          generalize wr.drewN nq = wq at *
          refine startZ (fun w' => w'.cell? ⟨g4, 3, none⟩ = some (.slice A3 N c3) ∧ w'.cell? ⟨b, off + 2 * p * 4 + 2, none⟩ = some (.string (S p)) ∧ w'.cell? ⟨b, off + 2 * p * 4 + 4, none⟩ = some (.int .i64 xk) ∧ w'.cell? ⟨b, off + 2 * p * 4 + 4 + 1, none⟩ = some (.int .i64 xn) ∧ w'.cell? ⟨b, off + 2 * p * 4 + 4 + 2, none⟩ = some (.string xs) ∧ w'.cell? ⟨b, off + 2 * p * 4 + 4 + 3, none⟩ = some (.slice xA xl xc)) 13 (by kernel_rfl) (HXD.out.held HCL.out) (fun hHeld => ?_)
          refine takeZ (i := 0) (oi := { dst := some 45, op := Go.Op.fieldAddr 24 (Go.Operand.tmp 4) 3, type := 0, pos := _, after := _, guard := none }) (v := ?_) rfl (by kernel_rfl) (by kernel_rfl) (by kernel_rfl) (by kernel_rfl) (fun _ _ _ h => h) (Or.inl ⟨by rfl, ?_⟩) (by assumption) ?_
          rotate_left
          · intro w hSw; (try dsimp only at hSw); (try obtain ⟨s0, s1, s2, s3, s4, s5⟩ := hSw); (first | (go_simp; done) | (go_simp; with_reducible rfl))
          try simp only [Act.put, List.setIfInBounds_toArray, List.set_cons_zero, List.set_cons_succ]
          refine takeZ (i := 1) (oi := { dst := some 46, op := Go.Op.load 22 (Go.Operand.tmp 45), type := 22, pos := _, after := _, guard := none }) (v := ?_) rfl (by kernel_rfl) (by kernel_rfl) (by kernel_rfl) (by kernel_rfl) (fun _ _ _ h => h) (Or.inl ⟨by rfl, ?_⟩) (by assumption) ?_
          rotate_left
          · intro w hSw; (try dsimp only at hSw); (try obtain ⟨s0, s1, s2, s3, s4, s5⟩ := hSw); (first | (go_simp; done) | (go_simp; with_reducible rfl))
          try simp only [Act.put, List.setIfInBounds_toArray, List.set_cons_zero, List.set_cons_succ]
          refine takeZ (i := 2) (oi := { dst := some 47, op := Go.Op.move (Go.Operand.tmp 6), type := 22, pos := _, after := _, guard := none }) (v := ?_) rfl (by kernel_rfl) (by kernel_rfl) (by kernel_rfl) (by kernel_rfl) (fun _ _ _ h => h) (Or.inl ⟨by rfl, ?_⟩) (by assumption) ?_
          rotate_left
          · intro w hSw; (try dsimp only at hSw); (try obtain ⟨s0, s1, s2, s3, s4, s5⟩ := hSw); (first | (go_simp; done) | (go_simp; with_reducible rfl))
          try simp only [Act.put, List.setIfInBounds_toArray, List.set_cons_zero, List.set_cons_succ]
          refine takeZ (i := 3) (oi := { dst := some 48, op := Go.Op.indexAddr 22 (Go.Operand.tmp 47) (Go.Operand.const (Go.Value.int Go.IntKind.i64 0)), type := 0, pos := _, after := _, guard := none }) (v := ?_) rfl (by kernel_rfl) (by kernel_rfl) (by kernel_rfl) (by kernel_rfl) (fun _ _ _ h => h) (Or.inl ⟨by rfl, ?_⟩) (by assumption) ?_
          rotate_left
          · intro w hSw; (try dsimp only at hSw); (try obtain ⟨s0, s1, s2, s3, s4, s5⟩ := hSw); (first | (go_simp; done) | (go_simp; with_reducible rfl))
          try simp only [Act.put, List.setIfInBounds_toArray, List.set_cons_zero, List.set_cons_succ]
          refine takeZ (i := 4) (oi := { dst := some 49, op := Go.Op.fieldAddr 24 (Go.Operand.tmp 48) 2, type := 0, pos := _, after := _, guard := none }) (v := ?_) rfl (by kernel_rfl) (by kernel_rfl) (by kernel_rfl) (by kernel_rfl) (fun _ _ _ h => h) (Or.inl ⟨by rfl, ?_⟩) (by assumption) ?_
          rotate_left
          · intro w hSw; (try dsimp only at hSw); (try obtain ⟨s0, s1, s2, s3, s4, s5⟩ := hSw); (first | (go_simp; done) | (go_simp; with_reducible rfl))
          try simp only [Act.put, List.setIfInBounds_toArray, List.set_cons_zero, List.set_cons_succ]
          refine takeZ (i := 5) (oi := { dst := some 50, op := Go.Op.load 9 (Go.Operand.tmp 49), type := 9, pos := _, after := _, guard := none }) (v := ?_) rfl (by kernel_rfl) (by kernel_rfl) (by kernel_rfl) (by kernel_rfl) (fun _ _ _ h => h) (Or.inl ⟨by rfl, ?_⟩) (by assumption) ?_
          rotate_left
          · intro w hSw; (try dsimp only at hSw); (try obtain ⟨s0, s1, s2, s3, s4, s5⟩ := hSw); (first | (go_simp; done) | (go_simp; with_reducible rfl))
          try simp only [Act.put, List.setIfInBounds_toArray, List.set_cons_zero, List.set_cons_succ]
          refine takeZ (i := 7) (oi := { dst := some 52, op := Go.Op.move (Go.Operand.tmp 6), type := 22, pos := _, after := _, guard := none }) (v := ?_) rfl (by kernel_rfl) (by kernel_rfl) (by kernel_rfl) (by kernel_rfl) (fun _ _ _ h => h) (Or.inl ⟨by rfl, ?_⟩) (by assumption) ?_
          rotate_left
          · intro w hSw; (try dsimp only at hSw); (try obtain ⟨s0, s1, s2, s3, s4, s5⟩ := hSw); (first | (go_simp; done) | (go_simp; with_reducible rfl))
          try simp only [Act.put, List.setIfInBounds_toArray, List.set_cons_zero, List.set_cons_succ]
          refine takeZ (i := 8) (oi := { dst := some 53, op := Go.Op.indexAddr 22 (Go.Operand.tmp 52) (Go.Operand.const (Go.Value.int Go.IntKind.i64 1)), type := 0, pos := _, after := _, guard := none }) (v := ?_) rfl (by kernel_rfl) (by kernel_rfl) (by kernel_rfl) (by kernel_rfl) (fun _ _ _ h => h) (Or.inl ⟨by rfl, ?_⟩) (by assumption) ?_
          rotate_left
          · intro w hSw; (try dsimp only at hSw); (try obtain ⟨s0, s1, s2, s3, s4, s5⟩ := hSw); (first | (go_simp; done) | (go_simp; with_reducible rfl))
          try simp only [Act.put, List.setIfInBounds_toArray, List.set_cons_zero, List.set_cons_succ]
          refine takeZ (i := 9) (oi := { dst := some 54, op := Go.Op.load 24 (Go.Operand.tmp 53), type := 24, pos := _, after := _, guard := none }) (v := ?_) rfl (by kernel_rfl) (by kernel_rfl) (by kernel_rfl) (by kernel_rfl) (fun _ _ _ h => h) (Or.inl ⟨by rfl, ?_⟩) (by assumption) ?_
          rotate_left
          · intro w hSw; (try dsimp only at hSw); (try obtain ⟨s0, s1, s2, s3, s4, s5⟩ := hSw); (first | (go_simp; done) | (go_simp; with_reducible rfl))
          try simp only [Act.put, List.setIfInBounds_toArray, List.set_cons_zero, List.set_cons_succ]
          refine oneZ (i := 6) (o := { dst := some 51, op := Go.Op.call { callee := Go.Callee.value (Go.Operand.func 22), args := #[Go.Operand.tmp 50], argTypes := #[9] }, type := 24, pos := _, after := _, guard := none }) (by kernel_rfl) rfl (by decide) (fun K hK => ?_)
          go_simp
          (go_at_call 22; refine (nameOf_any (S p) _).mono ?_; rintro e w7 ⟨rfl, hc7⟩; have hx7 := HXD.out.call hc7)
          refine hK.out _ _ (hx7.held HCL.out) (fun hHeld => ?_)
          clear hK K
          try simp only [Act.put, List.setIfInBounds_toArray, List.set_cons_zero, List.set_cons_succ]
          refine oneZ (i := 10) (o := { dst := some 55, op := Go.Op.buildSlice 22 2 #[(0, Go.Operand.tmp 51), (1, Go.Operand.tmp 54)], type := 22, pos := _, after := _, guard := none }) (by kernel_rfl) rfl (by decide) (fun K hK => ?_)
          go_simp
          refine hK.out _ _ ((hx7.call ((Chg.refl NoS w7).alloc _)).held HCL.out) (fun hHeld => ?_)
          clear hK K
          try simp only [Act.put, List.setIfInBounds_toArray, List.set_cons_zero, List.set_cons_succ]
          refine oneZ (i := 11) (o := { dst := some 56, op := Go.Op.call { callee := Go.Callee.builtin Go.Builtin.append, args := #[Go.Operand.tmp 46, Go.Operand.tmp 55], argTypes := #[22, 22] }, type := 22, pos := _, after := _, guard := none }) (by kernel_rfl) rfl (by decide) (fun K hK => ?_)
          (refine step_appV (w := w) (wr := w7) (new := [⟨5, 0, S p, none, 0, 0⟩, ⟨xk, xn, xs, xA, xl, xc⟩]) (tn := [nmT (S p), x]) (m := 2) (cx := 2) (X := some ⟨w7.heap.size, 0, none⟩) (A := A3) (n := N) (c := c3) rfl (.tmp 46) (.tmp 55) rfl rfl rfl hx7.bx.row ((Chg.refl NoS w7).alloc _) (by omega) (by omega) (pc_two HNM.out HVX.out (Blk.new w7 _ _)).src rfl rfl (is_two HNM.out HVX.out) ?_; intro A4 c4 w8 hg8 hk8; have hx8 := (hx7.call ((Chg.refl NoS w7).alloc _)).app hg8 hk8)
          refine hK.out _ _ (hx8.held HCL.out) (fun hHeld => ?_)
          clear hK K
          try simp only [Act.put, List.setIfInBounds_toArray, List.set_cons_zero, List.set_cons_succ]
          refine takeZ (i := 12) (oi := { dst := some 57, op := Go.Op.fieldAddr 24 (Go.Operand.tmp 4) 3, type := 0, pos := _, after := _, guard := none }) (v := ?_) rfl (by kernel_rfl) (by kernel_rfl) (by kernel_rfl) (by kernel_rfl) (fun _ _ _ h => h) (Or.inl ⟨by rfl, ?_⟩) (by assumption) ?_
          rotate_left
          · intro w hSw; (try dsimp only at hSw); (try obtain ⟨s0, s1, s2, s3, s4, s5⟩ := hSw); (first | (go_simp; done) | (go_simp; with_reducible rfl))
          try simp only [Act.put, List.setIfInBounds_toArray, List.set_cons_zero, List.set_cons_succ]
          refine lastZ (o := { dst := none, op := Go.Op.store 22 (Go.Operand.tmp 57) (Go.Operand.tmp 56), type := 0, pos := _, after := _, guard := none }) (by kernel_rfl) rfl (by kernel_rfl) (fun K hK => ?_)
          have z3 := hx8.bx.b.blk.frozen 3
          have q3 := hx8.bx.b.blk.cell 3
          simp at q3
          go_simp
          refine hK.out _ _ ?_
          clear hK K
          try simp only [Act.put, List.setIfInBounds_toArray, List.set_cons_zero, List.set_cons_succ]
          have HDN := keepf hx8.put
          clear z3 q3 hx7 hk8 hg8
          go_wp2_with fail
          go_roundw
          case rel => exact ⟨q + 1, _, ts ++ [nmT (S p), x], N + 2, A4, c4, by omega, by go_num, by omega, HDN, HEN⟩
          case measure => simp [intOf]; omega

    · obtain rfl : q = m := by omega
      have HTS : Hid (ts = emF S V Q) := by
        have h := HEM.out
        rwa [List.drop_of_length_le (by rw [HQL.out]; exact Nat.le_refl _), emF, List.append_nil] at h
      have q0 := HDX.out.bx.b.blk.cell 0
      have q1 := HDX.out.bx.b.blk.cell 1
      have q2 := HDX.out.bx.b.blk.cell 2
      have q3 := HDX.out.bx.b.blk.cell 3
      have z0 := HDX.out.bx.o.blk.frozen 0
      have z1 := HDX.out.bx.o.blk.frozen 1
      have z2 := HDX.out.bx.o.blk.frozen 2
      have z3 := HDX.out.bx.o.blk.frozen 3
      have y0 := HDX.out.bx.o.blk.cell 0
      have y1 := HDX.out.bx.o.blk.cell 1
      have y2 := HDX.out.bx.o.blk.cell 2
      have y3 := HDX.out.bx.o.blk.cell 3
      simp at q0 q1 q2 q3 y0 y1 y2 y3
      go_wp2_with fail
      try simp only [Exit.noGoto_ret]
      clear y0 y1 y2 y3
      obtain ⟨hb, hvv, hcc⟩ := HDX.out.bx.fin (k := 7) (n := 0) (s := ⟨#[]⟩) rfl (by unfold maxLen; omega) (by decide) (by decide) (by decide) _ rfl
      have r0 := hb.blk.cell 0
      have r1 := hb.blk.cell 1
      have r2 := hb.blk.cell 2
      have r3 := hb.blk.cell 3
      simp at r0 r1 r2 r3
      refine bodyPost_ret (v := .agg #[.int .i64 7, .int .i64 0, .string ⟨#[]⟩, .slice A3 N c3]) (by simp [results, Tryz.results21, go_sem, r0, r1, r2, r3]) rfl ?_
      exact ⟨⟨7, 0, ⟨#[]⟩, A3, N, c3⟩, rfl, by rw [HDT.out, ← HTS.out]; exact hvv, hcc⟩

end Go.Proofs.YtcehpobjnbgpdaaGreatDoor

