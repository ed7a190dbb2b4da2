/- The document's own Put, where the name is found (written by mkrvt11.py), and in all. -/
import Derived.Test.YtjbjfoingpnlmaaRVt10
namespace Go.Proofs.Ytjbjfoingpnlmaa
open Go.RowKit
set_option linter.unusedVariables false
set_option linter.unusedSimpArgs false

/-- What is left of a row whose cell behind q is another. -/
def restR (q : Nat) (x : VT) (l : List VT) (k : Nat) : List VT := if k ≤ q then (l.take (q + 1)).drop k ++ x :: l.drop (q + 2) else l.drop k
theorem restR_end {q : Nat} {x : VT} {l : List VT} {k : Nat} (h : q < k) : restR q x l k = l.drop k := by rw [restR, if_neg (by omega)]
theorem restR_at {q : Nat} {x t : VT} {l : List VT} (h : l.drop q = t :: l.drop (q + 1)) : restR q x l q = t :: x :: restR q x l (q + 2) := by
  rw [restR_end (show q < q + 2 by omega), restR, if_pos (Nat.le_refl _), List.drop_take, h, show q + 1 - q = 1 by omega]
  rfl
theorem restR_two {q : Nat} {x t u : VT} {l : List VT} {k : Nat} (hk : k % 2 = 0) (hq : q % 2 = 0) (hne : k ≠ q) (h : l.drop k = t :: l.drop (k + 1)) (h2 : l.drop (k + 1) = u :: l.drop (k + 1 + 1)) : restR q x l k = t :: u :: restR q x l (k + 2) := by
  by_cases hlt : k < q
  · rw [restR, if_pos (by omega), restR, if_pos (by omega), List.drop_take, List.drop_take, h, h2, show q + 1 - k = (q + 1 - (k + 2)) + 1 + 1 by omega]
    rfl
  · rw [restR_end (by omega), restR_end (by omega), h, h2]
theorem restR_zero {j : Nat} {x : VT} {l : List VT} : restR (2 * j) x l 0 = replL j x l := by
  rw [restR, if_pos (Nat.zero_le _), List.drop_zero]
  rfl
set_option maxHeartbeats 8000000 in
set_option maxRecDepth 100000 in
theorem rput_some (c cx : VC) (l : List VT) (tx : VT) (key : ByteArray) (w : World) (hv : ValIs w (.mk c.k c.n c.s l) c) (hvx : ValIs w tx cx) (hsz : sizL l ≤ 1000000000) (hkey : key.size ≤ maxLen) (h7 : c.k = 7) {j : Nat} (hf : findL key l = some j) :
    Calls Try.prog 22 #[c.val, .string key, cx.val] w (TreeTo w (putT (.mk c.k c.n c.s l) key tx)) := by
  obtain ⟨_, _, _, hg, hl, hr⟩ := hv.inv
  have HF := keepf (fun W (h : ValIs W (.mk c.k c.n c.s l) c) => rfind_any c l key W h hsz)
  have HV := keepf hv
  have HVX := keepf hvx
  have HNM := keepf (nm_is w key hkey)
  have HGD := keepf hg
  obtain ⟨k, n, s, A, len, cap⟩ := c
  obtain ⟨xk, xn, xs, xA, xl, xc⟩ := cx
  simp only [] at hl hr
  have hcap := hg.cap
  simp only [] at hcap
  have hl9 : len ≤ 1000000000 := by have := sizL_len l; omega
  have HL := keepf hl
  have HR := keepf hr
  unfold VC.val at HF
  simp only [] at HF HV HVX h7 ⊢
  show Calls Try.prog 22 #[.agg #[.int .i64 k, .int .i64 n, .string s, .slice A len cap], .string key, .agg #[.int .i64 xk, .int .i64 xn, .string xs, .slice xA xl xc]] w _
  have HS0 := keepf (⟨⟨((Blk.new w 24 #[.int .i64 k, .int .i64 n, .string s, .slice A len cap]).alloc (.cells #[.int .i64 xk, .int .i64 xn, .string xs, .slice xA xl xc] 24)).alloc (.cells #[.int .i64 0, .int .i64 0, .string ⟨#[]⟩, .slice none 0 0] 24), Nat.le_refl _⟩,
    ⟨(Blk.new (w.alloc (.cells #[.int .i64 k, .int .i64 n, .string s, .slice A len cap] 24)) 24 #[.int .i64 xk, .int .i64 xn, .string xs, .slice xA xl xc]).alloc (.cells #[.int .i64 0, .int .i64 0, .string ⟨#[]⟩, .slice none 0 0] 24), by simp⟩,
    ⟨Blk.new ((w.alloc (.cells #[.int .i64 k, .int .i64 n, .string s, .slice A len cap] 24)).alloc (.cells #[.int .i64 xk, .int .i64 xn, .string xs, .slice xA xl xc] 24)) 24 #[.int .i64 0, .int .i64 0, .string ⟨#[]⟩, .slice none 0 0], by simp; omega⟩, GV.start (((Chg.refl NoS w).alloc _).alloc _ |>.alloc _), fun e => (by cases e), fun e => (by cases e), fun e => (by cases e)⟩ : PS w _ w.heap.size _ _ _ _ _ [] [] 0 none 0)
  have hs1 : (w.alloc (.cells #[.int .i64 k, .int .i64 n, .string s, .slice A len cap] 24)).heap.size = w.heap.size + 1 := by simp
  have hs2 : ((w.alloc (.cells #[.int .i64 k, .int .i64 n, .string s, .slice A len cap] 24)).alloc (.cells #[.int .i64 xk, .int .i64 xn, .string xs, .slice xA xl xc] 24)).heap.size = w.heap.size + 1 + 1 := by simp
  rw [hs1, hs2] at HS0
  obtain ⟨W0, hW⟩ : ∃ W, W = ((w.alloc (.cells #[.int .i64 k, .int .i64 n, .string s, .slice A len cap] 24)).alloc (.cells #[.int .i64 xk, .int .i64 xn, .string xs, .slice xA xl xc] 24)).alloc (.cells #[.int .i64 0, .int .i64 0, .string ⟨#[]⟩, .slice none 0 0] 24) := ⟨_, rfl⟩
  rw [← hW] at HS0
  obtain ⟨g, hg1⟩ : ∃ g, g = w.heap.size := ⟨_, rfl⟩
  obtain ⟨gx, hg2⟩ : ∃ g, g = w.heap.size + 1 := ⟨_, rfl⟩
  obtain ⟨go, hg3⟩ : ∃ g, g = w.heap.size + 1 + 1 := ⟨_, rfl⟩
  rw [← hg3, ← hg2, ← hg1] at HS0
  have HNE : Hid (g ≠ go ∧ g ≠ gx ∧ gx ≠ go) := ⟨by omega, by omega, by omega⟩
  subst h7
  have HFI := keepf (show findI 7 l key = (match findL key l with | some j => ((2 * j : Nat) : Int) | none => -1) from if_pos rfl)
  rw [hf] at HFI
  simp only [] at HFI
  obtain ⟨q, hq⟩ : ∃ q, q = 2 * j := ⟨_, rfl⟩
  have hqe : q % 2 = 0 := by omega
  have hql : q < len := by have := findL_lt key _ l (Nat.le_refl _) j hf; rw [hl] at this; omega
  rw [← hq] at HFI
  rw [HFI.out] at HF
  have HE := keepf (put_7 (n := n) (s := s) (key := key) (x := tx) (l := l))
  have hpl := putL_len key tx l
  rw [hl] at hpl
  have HPL := keepf hpl
  obtain ⟨L, hL⟩ : ∃ L, L = putL key tx l := ⟨_, rfl⟩
  rw [← hL] at HE HPL
  have HLL := keepf hL
  have HLN := keepf (show L = restR q tx l 0 from by rw [HLL.out]; unfold putL; rw [hf]; simp only []; rw [hq, restR_zero])
  clear hv hvx hg hr hsz hkey hpl hL hl hf hq
  go_enter Try.func22, Try.ntmps22
  go_upto_region 1 with fail
  rw [← hW, ← hg3, ← hg2, ← hg1]
  clear hW hg1 hg2 hg3 hs1 hs2
  have p0 := HS0.out.bv.blk.cell 0
  have p1 := HS0.out.bv.blk.cell 1
  have p2 := HS0.out.bv.blk.cell 2
  have p3 := HS0.out.bv.blk.cell 3
  simp at p0 p1 p2 p3
  go_upto_region 7 with (go_at_call 42; refine (HF.out _ (HV.out.chg HS0.out.gv.chg)).mono ?_; rintro e w2 ⟨rfl, hc2⟩; have HS2 := keepf (HS0.out.call hc2); clear hc2)
  clear p0 p1 p2 p3 HS0 HF
  have mm : ¬ ((q : Int) < 0) := by omega
  have mq : decide ((q : Int) < 0) = false := by simp
  go_loopw [7, 9, 10] (fun vo vd vk wr => ∃ (k m c2 : Nat) (A2 : Option Addr) (es : List VC) (ts : List VT), k ≤ len + 1 ∧ m ≤ k ∧ k % 2 = 0 ∧ vo = .slice A2 m c2 ∧ vd = .bool false ∧ vk = .int .i64 (k : Nat) ∧ Hid (PS w wr g gx go #[.int .i64 7, .int .i64 n, .string s, .slice A len cap] #[.int .i64 xk, .int .i64 xn, .string xs, .slice xA xl xc] #[.int .i64 0, .int .i64 0, .string ⟨#[]⟩, .slice none 0 0] es ts m A2 c2 ∧ L = ts ++ restR q tx l k)) (fun _ _ vk _ => len + 1 - (intOf vk).toNat)
  case atStart => exact ⟨0, 0, 0, none, [], [], by omega, by omega, by omega, rfl, rfl, by go_num, keepf ⟨HS2.out, by rw [HLN.out]; rfl⟩⟩
  case round =>
    obtain ⟨k, m, c2, A2, es, ts, hk, hm, hke, rfl, rfl, rfl, HI⟩ := hrel
    have p0 := HI.out.1.bv.blk.cell 0
    have x0 := HI.out.1.bx.blk.cell 0
    have p1 := HI.out.1.bv.blk.cell 1
    have x1 := HI.out.1.bx.blk.cell 1
    have p2 := HI.out.1.bv.blk.cell 2
    have x2 := HI.out.1.bx.blk.cell 2
    have p3 := HI.out.1.bv.blk.cell 3
    have x3 := HI.out.1.bx.blk.cell 3
    simp at p0 p1 p2 p3 x0 x1 x2 x3
    by_cases h1 : k < len
    · obtain ⟨t, ht, hd⟩ := drop_vt (l := l) (k := k) (by rw [HL.out]; exact h1)
      obtain ⟨b, off, rfl⟩ : ∃ b off, A = some ⟨b, off, none⟩ := by
        have h := HR.out
        cases hll : l with
        | nil => rw [hll] at ht; simp at ht
        | cons t0 l0 => rw [hll] at h; exact h.start
      obtain ⟨eA, el, ec, hve, hce⟩ := el_at HR.out ht
      obtain ⟨c0, c1, c2, c3⟩ := hce _ HI.out.1.gv.chg
      have HCE := keepf hce
      have HVE := keepf hve
      have i1 : (k : Int) < len := by omega
      obtain ⟨tk, htk⟩ : ∃ tk, t.kind = tk := ⟨_, rfl⟩
      obtain ⟨tn, htn⟩ : ∃ tn, t.num = tn := ⟨_, rfl⟩
      obtain ⟨tss, hts⟩ : ∃ ts, t.str = ts := ⟨_, rfl⟩
      rw [htk] at c0 HCE HVE
      rw [htn] at c1 HCE HVE
      rw [hts] at c2 HCE HVE
      have HD := keepf hd
      have HT := keepf ht
      clear hve hce
      have hkw : IntKind.i64.wrap ((k : Int) + 2) = (k : Int) + 2 := by rw [IntKind.wrap_i64]; omega
      have HK0 := keepf htk
      clear htk htn hts hd ht HK0
      by_cases hkq : k = q
      · subst hkq
        have HP0 := keepf HI.out.1
        go_wp2_with first
          | (at_builtin; refine appV (w := w) (new := [⟨tk, tn, tss, eA, el, ec⟩]) (tn := [t]) rfl (.tmp 56) (.tmp 62) rfl rfl rfl HP0.out.gv ((Chg.refl _ _).alloc _) (by first | omega | (simp only [List.length_cons, List.length_nil]; omega)) (by first | omega | (simp only [List.length_cons, List.length_nil]; omega)) (src_new _ _ [⟨tk, tn, tss, eA, el, ec⟩] _ rfl _ _ rfl) rfl rfl (is_one HVE.out) ?_; intro A2 cc2 w2 hg2 hk2; have HP2 := keepf (HP0.out.app _ hg2 hk2); clear hg2 hk2; have p3 := HP2.out.bv.blk.cell 3; have x0 := HP2.out.bx.blk.cell 0; have x1 := HP2.out.bx.blk.cell 1; have x2 := HP2.out.bx.blk.cell 2; have x3 := HP2.out.bx.blk.cell 3; simp at p3 x0 x1 x2 x3)
          | (at_builtin; refine appV (w := w) (new := [⟨xk, xn, xs, xA, xl, xc⟩]) (tn := [tx]) rfl (.tmp 67) (.tmp 69) rfl rfl rfl HP2.out.gv ((Chg.refl _ _).alloc _) (by first | omega | (simp only [List.length_cons, List.length_nil]; omega)) (by first | omega | (simp only [List.length_cons, List.length_nil]; omega)) (src_new _ _ [⟨xk, xn, xs, xA, xl, xc⟩] _ rfl _ _ rfl) rfl rfl (is_one HVX.out) ?_; intro A3 cc3 w3 hg3 hk3; have HP3 := keepf (HP2.out.app _ hg3 hk3); clear hg3 hk3)
        go_roundw
        case rel => exact ⟨k + 2, ((m + 1) + 1), cc3, A3, _, ((ts ++ [t]) ++ [tx]), by omega, by omega, by omega, rfl, rfl, by go_num, keepf ⟨HP3.out, by rw [HI.out.2, restR_at HD.out]; simp⟩⟩
        case measure => simp [intOf]; omega
      · have kq : ((k : Int) == (q : Int)) = false := by simp; omega
        by_cases hmore : k + 1 < len
        · obtain ⟨u, hu⟩ : ∃ u, u = k + 1 := ⟨_, rfl⟩
          have hul : u < len := by omega
          have HU := keepf hu
          have e1 : (k : Int) + 1 = (u : Int) := by omega
          have k1 : IntKind.i64.wrap (u : Int) = (u : Int) := by rw [IntKind.wrap_i64]; omega
          have i2 : (u : Int) < len := by omega
          obtain ⟨t2, ht2, hd2⟩ := drop_vt (l := l) (k := u) (by rw [HL.out]; exact hul)
          obtain ⟨fA, fl, fc, hvf, hcf⟩ := el_at HR.out ht2
          obtain ⟨uk, huk⟩ : ∃ tk, t2.kind = tk := ⟨_, rfl⟩
          obtain ⟨un, hun⟩ : ∃ tn, t2.num = tn := ⟨_, rfl⟩
          obtain ⟨us, hus⟩ : ∃ ts, t2.str = ts := ⟨_, rfl⟩
          rw [huk, hun, hus] at hvf
          rw [huk, hun, hus] at hcf
          have HCF := keepf hcf
          have HVF := keepf hvf
          have HD2 := keepf hd2
          have HT2 := keepf ht2
          clear hvf hcf hd2 ht2 hu huk hun hus
          have HP0 := keepf HI.out.1
          go_wp2_with first
            | (at_builtin; refine appV (w := w) (new := [⟨tk, tn, tss, eA, el, ec⟩]) (tn := [t]) rfl (.tmp 56) (.tmp 62) rfl rfl rfl HP0.out.gv ((Chg.refl _ _).alloc _) (by first | omega | (simp only [List.length_cons, List.length_nil]; omega)) (by first | omega | (simp only [List.length_cons, List.length_nil]; omega)) (src_new _ _ [⟨tk, tn, tss, eA, el, ec⟩] _ rfl _ _ rfl) rfl rfl (is_one HVE.out) ?_; intro A2 cc2 w2 hg2 hk2; have HP2 := keepf (HP0.out.app _ hg2 hk2); clear hg2 hk2; have p3 := HP2.out.bv.blk.cell 3; have x0 := HP2.out.bx.blk.cell 0; have x1 := HP2.out.bx.blk.cell 1; have x2 := HP2.out.bx.blk.cell 2; have x3 := HP2.out.bx.blk.cell 3; simp at p3 x0 x1 x2 x3; obtain ⟨f0, f1, f2, f3⟩ := HCF.out _ HP2.out.gv.chg)
            | (at_builtin; refine appV (w := w) (new := [⟨uk, un, us, fA, fl, fc⟩]) (tn := [t2]) rfl (.tmp 77) (.tmp 84) rfl rfl rfl HP2.out.gv ((Chg.refl _ _).alloc _) (by first | omega | (simp only [List.length_cons, List.length_nil]; omega)) (by first | omega | (simp only [List.length_cons, List.length_nil]; omega)) (src_new _ _ [⟨uk, un, us, fA, fl, fc⟩] _ rfl _ _ rfl) rfl rfl (is_one HVF.out) ?_; intro A3 cc3 w3 hg3 hk3; have HP3 := keepf (HP2.out.app _ hg3 hk3); clear hg3 hk3)
          go_roundw
          case rel => exact ⟨k + 2, ((m + 1) + 1), cc3, A3, _, ((ts ++ [t]) ++ [t2]), by omega, by omega, by omega, rfl, rfl, by go_num, keepf ⟨HP3.out, by rw [HI.out.2, restR_two hke hqe hkq HD.out (by rw [← HU.out]; exact HD2.out)]; simp⟩⟩
          case measure => simp [intOf]; omega
        · have hul : k + 1 = len := by omega
          have HZ1 := keepf (show l.drop (k + 1) = [] from List.drop_of_length_le (by rw [HL.out]; omega))
          have HZ2 := keepf (show l.drop (k + 2) = [] from List.drop_of_length_le (by rw [HL.out]; omega))
          have e1 : ¬ (k : Int) + 1 < len := by omega
          have d3 : decide ((k : Int) + 1 < len) = false := by simp; omega
          have k1 : IntKind.i64.wrap ((k : Int) + 1) = (k : Int) + 1 := by rw [IntKind.wrap_i64]; omega
          have HP0 := keepf HI.out.1
          go_wp2_with first
            | (at_builtin; refine appV (w := w) (new := [⟨tk, tn, tss, eA, el, ec⟩]) (tn := [t]) rfl (.tmp 56) (.tmp 62) rfl rfl rfl HP0.out.gv ((Chg.refl _ _).alloc _) (by first | omega | (simp only [List.length_cons, List.length_nil]; omega)) (by first | omega | (simp only [List.length_cons, List.length_nil]; omega)) (src_new _ _ [⟨tk, tn, tss, eA, el, ec⟩] _ rfl _ _ rfl) rfl rfl (is_one HVE.out) ?_; intro A2 cc2 w2 hg2 hk2; have HP2 := keepf (HP0.out.app _ hg2 hk2); clear hg2 hk2; have p3 := HP2.out.bv.blk.cell 3; have x0 := HP2.out.bx.blk.cell 0; have x1 := HP2.out.bx.blk.cell 1; have x2 := HP2.out.bx.blk.cell 2; have x3 := HP2.out.bx.blk.cell 3; simp at p3 x0 x1 x2 x3)
          go_roundw
          case rel => exact ⟨k + 2, (m + 1), cc2, A2, _, (ts ++ [t]), by omega, by omega, by omega, rfl, rfl, by go_num, keepf ⟨HP2.out, by rw [HI.out.2, restR_end (by omega), restR_end (by omega), HD.out, HZ1.out, HZ2.out]; simp⟩⟩
          case measure => simp [intOf]; omega
    · have i1 : ¬ (k : Int) < len := by omega
      have HDZ := keepf (show restR q tx l k = [] from by rw [restR_end (by omega)]; exact List.drop_of_length_le (by rw [HL.out]; omega))
      have HFIN := keepf (show L = ts from by rw [HI.out.2, HDZ.out]; show ts ++ [] = ts; rw [List.append_nil])
      have HPF := keepf HI.out.1
      obtain ⟨wF, hwF⟩ : ∃ W, W = wr := ⟨_, rfl⟩
      rw [← hwF] at HPF ⊢
      rw [← hwF] at p0 p1 p2 p3 x0 x1 x2 x3
      clear hwF HI h1
      go_upto_region 19 with fail
      have gz3 := HPF.out.bv.blk.frozen 3
      have q0 := HPF.out.bv.blk.cell 0
      have q1 := HPF.out.bv.blk.cell 1
      have q2 := HPF.out.bv.blk.cell 2
      have q3 := HPF.out.bv.blk.cell 3
      simp at q0 q1 q2 q3
      go_upto_region 20 with fail
      clear q0 q1 q2 q3 gz3
      have HB9 : Hid (PB w (wF.setCell ⟨g, 3, none⟩ (.slice A2 m c2)) g #[.int .i64 7, .int .i64 n, .string s, .slice A2 m c2]) := HPF.out.bv.set 3 _
      have HO9 := keepf (HPF.out.bo.far (Ne.symm HNE.out.1) 3 (.slice A2 m c2))
      have HG9 := keepf (HPF.out.gv.far HPF.out.nv HPF.out.bv.new 3 (.slice A2 m c2))
      have HC9 := keepf HG9.out.chg
      have HN9 := keepf HPF.out.no
      obtain ⟨w9, hw9⟩ : ∃ W, W = wF.setCell ⟨g, 3, none⟩ (.slice A2 m c2) := ⟨_, rfl⟩
      rw [← hw9] at HB9 HO9 HG9 HC9 ⊢
      clear hw9
      have q0 := HB9.out.blk.cell 0
      have q1 := HB9.out.blk.cell 1
      have q2 := HB9.out.blk.cell 2
      have q3 := HB9.out.blk.cell 3
      have z0 := HO9.out.blk.frozen 0
      have z1 := HO9.out.blk.frozen 1
      have z2 := HO9.out.blk.frozen 2
      have z3 := HO9.out.blk.frozen 3
      have y0 := HO9.out.blk.cell 0
      have y1 := HO9.out.blk.cell 1
      have y2 := HO9.out.blk.cell 2
      have y3 := HO9.out.blk.cell 3
      simp at q0 q1 q2 q3 y0 y1 y2 y3
      go_wp2_with fail
      try simp only [Exit.noGoto_ret]
      clear y0 y1 y2 y3
      obtain ⟨hb, hcc⟩ := HO9.out.set4 (a := .int .i64 7) (b := .int .i64 n) (c := .string s) (d := .slice A2 m c2) HC9.out rfl
      have hgv := (((HG9.out.far HN9.out HO9.out.new 0 (.int .i64 7)).far HN9.out HO9.out.new 1 (.int .i64 n)).far HN9.out HO9.out.new 2 (.string s)).far HN9.out HO9.out.new 3 (.slice A2 m c2)
      have r0 := hb.blk.cell 0
      have r1 := hb.blk.cell 1
      have r2 := hb.blk.cell 2
      have r3 := hb.blk.cell 3
      simp at r0 r1 r2 r3
      refine bodyPost_ret (v := .agg #[.int .i64 7, .int .i64 n, .string s, .slice A2 m c2]) (by simp [results, Try.results22, go_sem, r0, r1, r2, r3]) rfl ?_
      exact ⟨⟨7, n, s, A2, m, c2⟩, rfl, by rw [HE.out, HFIN.out]; exact hgv.val (by unfold maxLen; omega) 7 n s HGD.out.k HGD.out.n HGD.out.s, hcc⟩
/-- The document's own Put. -/
theorem rput_any (c cx : VC) (l : List VT) (tx : VT) (key : ByteArray) (w : World) (hv : ValIs w (.mk c.k c.n c.s l) c) (hvx : ValIs w tx cx) (hsz : sizL l ≤ 1000000000) (hkey : key.size ≤ maxLen) :
    Calls Try.prog 22 #[c.val, .string key, cx.val] w (TreeTo w (putT (.mk c.k c.n c.s l) key tx)) := by
  by_cases h7 : c.k = 7
  · cases hf : findL key l with
    | none => exact rput_none c cx l tx key w hv hvx hsz hkey h7 hf
    | some j => exact rput_some c cx l tx key w hv hvx hsz hkey h7 hf
  · exact rput_no c cx l tx key w hv hvx hsz hkey h7
end Go.Proofs.Ytjbjfoingpnlmaa
