/- The program's Drop. -/
import Derived.Test.YtjbjfoingpnlmaaVCa2
import Derived.Test.YtjbjfoingpnlmaaRVt7
import Derived.Deep.RegionHeld3
import Derived.Deep.RegionLaw
import Derived.Shelf.RegionOpen
namespace Go.Proofs.Ytjbjfoingpnlmaa
open Go.RowKit
set_option linter.unusedVariables false
set_option linter.unusedSimpArgs false

theorem drop_none' {k n : Int} {s key : ByteArray} {l : List VT} (h : k ≠ 7 ∨ k = 7 ∧ findL key l = none) : dropT (.mk k n s l) key = .mk k n s l := by
  apply drop_no
  unfold findI
  rcases h with h | ⟨h, h2⟩
  · rw [if_neg h]; decide
  · rw [if_pos h, h2]; decide
set_option maxHeartbeats 4000000 in
set_option maxRecDepth 100000 in
theorem drop_any (c : VC) (l : List VT) (key : ByteArray) (w : World) (hv : ValIs w (.mk c.k c.n c.s l) c) (hsz : sizL l ≤ 100000000) :
    Calls Try.prog 23 #[c.val, .string key] w (TreeTo w (dropT (.mk c.k c.n c.s l) key)) := by
  obtain ⟨_, _, _, hg, hl, hr⟩ := hv.inv
  have HF := keepf (fun W (h : ValIs W (.mk c.k c.n c.s l) c) => place_any c l key W h (by omega))
  have HV := keepf hv
  have HGD := keepf hg
  obtain ⟨k, n, s, A, len, cap⟩ := c
  simp only [] at hl hr
  have hcap := hg.cap
  simp only [] at hcap
  have hl9 : len ≤ 100000000 := by have := sizL_len l; omega
  have HL := keepf hl
  have HR := keepf hr
  unfold VC.val at HF
  simp only [] at HF HV HGD ⊢
  show Calls Try.prog 23 #[.agg #[.int .i64 k, .int .i64 n, .string s, .slice A len cap], .string key] w _
  have HB := keepf (⟨(Blk.new w 24 #[.int .i64 k, .int .i64 n, .string s, .slice A len cap]).alloc (.cells #[.int .i64 0, .int .i64 0, .string ⟨#[]⟩, .slice none 0 0] 24), Nat.le_refl _⟩ : PB w _ w.heap.size _)
  have HO := keepf (⟨Blk.new (w.alloc (.cells #[.int .i64 k, .int .i64 n, .string s, .slice A len cap] 24)) 24 #[.int .i64 0, .int .i64 0, .string ⟨#[]⟩, .slice none 0 0], by simp⟩ : PB w _ _ _)
  have hs1 : (w.alloc (.cells #[.int .i64 k, .int .i64 n, .string s, .slice A len cap] 24)).heap.size = w.heap.size + 1 := by simp
  rw [hs1] at HO
  have HC0 := keepf (((Chg.refl NoS w).alloc (.cells #[.int .i64 k, .int .i64 n, .string s, .slice A len cap] 24)).alloc (.cells #[.int .i64 0, .int .i64 0, .string ⟨#[]⟩, .slice none 0 0] 24))
  clear hs1 hv hg hl hr hsz
  go_enter Try.func23, Try.ntmps23
  go_upto_region 2 with (go_at_call 41; refine (HF.out _ (HV.out.chg HC0.out)).mono ?_; rintro e w2 ⟨q, b, rfl, hc2, hq2⟩; have HB2 := keepf (HB.out.call hc2); have HO9 := keepf (HO.out.call hc2); have HC2 := keepf (HC0.out.trans hc2 (fun _ _ e => e)); have HQ := keepf hq2; clear hc2 hq2)
  obtain ⟨g2, hg2⟩ : ∃ g, g = w.heap.size + 1 := ⟨_, rfl⟩
  rw [← hg2] at HO9 ⊢
  obtain ⟨g, hg1⟩ : ∃ g, g = w.heap.size := ⟨_, rfl⟩
  rw [← hg1] at HB2 ⊢
  have HNE : Hid (g ≠ g2) := by show _ ≠ _; omega
  clear hg1 hg2 HB HO HF HC0
  have p0 := HB2.out.blk.cell 0
  have p1 := HB2.out.blk.cell 1
  have p2 := HB2.out.blk.cell 2
  have p3 := HB2.out.blk.cell 3
  simp at p0 p1 p2 p3
  rcases HQ.out with ⟨rfl, hq⟩ | ⟨rfl, rfl, j, hj, rfl, hlt⟩
  · have HE := keepf (drop_none' (n := n) (s := s) hq)
    clear hq
    have z0 := HO9.out.blk.frozen 0
    have z1 := HO9.out.blk.frozen 1
    have z2 := HO9.out.blk.frozen 2
    have z3 := HO9.out.blk.frozen 3
    have y0 := HO9.out.blk.cell 0
    have y1 := HO9.out.blk.cell 1
    have y2 := HO9.out.blk.cell 2
    have y3 := HO9.out.blk.cell 3
    simp at y0 y1 y2 y3
    go_wp2_with fail
    try simp only [Exit.noGoto_ret]
    clear y0 y1 y2 y3
    obtain ⟨hb, hcc⟩ := HO9.out.set4 (a := .int .i64 k) (b := .int .i64 n) (c := .string s) (d := .slice A len cap) HC2.out rfl
    have r0 := hb.blk.cell 0
    have r1 := hb.blk.cell 1
    have r2 := hb.blk.cell 2
    have r3 := hb.blk.cell 3
    simp at r0 r1 r2 r3
    refine bodyPost_ret (v := .agg #[.int .i64 k, .int .i64 n, .string s, .slice A len cap]) (by simp [results, Try.results23, go_sem, r0, r1, r2, r3]) rfl ?_
    exact ⟨⟨k, n, s, A, len, cap⟩, rfl, by rw [HE.out]; exact HV.out.chg hcc, hcc⟩

  · have hl3 : 2 * j < len := by rw [← HL.out]; exact hlt
    obtain ⟨q, hq⟩ : ∃ q, q = 2 * j := ⟨_, rfl⟩
    have HE := keepf (drop_at (n := n) (s := s) (l := l) (key := key) (q := q) (show findI 7 l key = _ by unfold findI; rw [if_pos rfl, hj, hq]))
    rw [← hq] at hl3 ⊢
    clear hq HQ hlt hj
    obtain ⟨b, off, rfl⟩ : ∃ b off, A = some ⟨b, off, none⟩ := by
      have h := HR.out
      have h2 := HL.out
      cases hll : l with
      | nil => rw [hll] at h2; simp at h2; omega
      | cons t0 l0 => rw [hll] at h; exact h.start
    obtain ⟨es, hes, hp1, hp2⟩ := pieces HR.out
    obtain ⟨r, hr2⟩ : ∃ r, r = min (q + 2) len := ⟨_, rfl⟩
    have HED : Hid (l.drop (q + 2) = l.drop r) := by
      show _ = _
      by_cases h : q + 2 ≤ len
      · rw [show r = q + 2 by omega]
      · rw [List.drop_of_length_le (by rw [HL.out]; omega), List.drop_of_length_le (by rw [HL.out]; omega)]
    rw [HED.out] at HE
    have HBH := keepf (fun (W : World) => behind_any b off len cap q r W hr2 hcap (by omega) (by omega))
    have HP1 := keepf (fun (W : World) (h : Chg NoS w W) => hp1 W q cap h (by rw [HL.out]; omega))
    have HP2 := keepf (fun (W : World) (o : Nat) (h : Chg NoS w W) (ho : r < len → o = off + r * 4) => hp2 W r o (len - r) (cap - r) h (by rw [HL.out]; omega) (fun h => ho (by omega)))
    obtain ⟨N, hN⟩ : ∃ N, q + (len - r) = N := ⟨_, rfl⟩
    have hN9 : N ≤ 1000000000 := by omega
    have i1 : (q : Int) ≤ cap := by omega
    have i2 : q ≤ cap := by omega
    have HNN := keepf hN
    clear hes hp1 hp2 hr2 hN
    have HCT : Hid (∀ o : Nat, (r < len → o = off + r * 4) → Calls Try.prog 43 #[.slice (some ⟨w2.heap.size, 0, none⟩) 2 2] ((w2.alloc (.cells #[.slice (some ⟨b, off, none⟩) q cap, .slice (some ⟨b, o, none⟩) (len - r) (cap - r)] 22)).drew) fun e w' => ∃ A3 c3, e = .returned (.slice A3 N c3) ∧ Bx w w' g g2 #[.int .i64 7, .int .i64 n, .string s, .slice (some ⟨b, off, none⟩) len cap] #[.int .i64 0, .int .i64 0, .string ⟨#[]⟩, .slice none 0 0] (es.take q ++ es.drop r) (l.take q ++ l.drop r) N A3 c3) := by
      show ∀ o : Nat, _
      intro o ho
      have hcc := (HC2.out.alloc (.cells #[.slice (some ⟨b, off, none⟩) q cap, .slice (some ⟨b, o, none⟩) (len - r) (cap - r)] 22)).drew
      refine (cat2_any (w0 := w) (G := w2.heap.size) (N := N) hcc (HP1.out _ hcc) (HP2.out _ o hcc ho) HNN.out hN9 (Blk.new w2 _ _).drew).mono ?_
      rintro e w4 ⟨A3, c3, rfl, hg4, hc4, hn4⟩
      exact ⟨A3, c3, rfl, ((HB2.out.alloc _).drew).call hc4, ((HO9.out.alloc _).drew).call hc4, hg4, hn4 _ ((HB2.out.alloc _).drew).blk.lt, hn4 _ ((HO9.out.alloc _).drew).blk.lt, HNE.out⟩
    clear HP1 HP2 HNN
    go_upto_region 3 with fail
    first
      | (go_loud (go_region_law (first
          | (go_simp; go_at_call 44; refine (HBH.out _).mono ?_; rintro e w3 ⟨⟨o, rfl, ho⟩, rfl⟩)
          | (go_simp; go_at_call 43; refine (HCT.out o ho).mono ?_; rintro e w4 ⟨A3, c3, rfl, hx4⟩; have z3 := hx4.b.blk.frozen 3; have q3 := hx4.b.blk.cell 3; simp at q3))))
      | fail "region"
    all_goals
      have HX := keepf hx4
      clear hx4 z3 q3 p0 p1 p2 p3
      have HB9 := keepf HX.out.put
      have q0 := HB9.out.b.blk.cell 0
      have q1 := HB9.out.b.blk.cell 1
      have q2 := HB9.out.b.blk.cell 2
      have q3 := HB9.out.b.blk.cell 3
      have HO9 := keepf HB9.out.o
      simp at q0 q1 q2 q3
      have z0 := HO9.out.blk.frozen 0
      have z1 := HO9.out.blk.frozen 1
      have z2 := HO9.out.blk.frozen 2
      have z3 := HO9.out.blk.frozen 3
      have y0 := HO9.out.blk.cell 0
      have y1 := HO9.out.blk.cell 1
      have y2 := HO9.out.blk.cell 2
      have y3 := HO9.out.blk.cell 3
      simp at y0 y1 y2 y3
      go_wp2_with fail
      try simp only [Exit.noGoto_ret]
      clear y0 y1 y2 y3
      obtain ⟨hb, hvv, hcc⟩ := HB9.out.fin (k := 7) (n := n) (s := s) rfl (by unfold maxLen; omega) HGD.out.k HGD.out.n HGD.out.s _ rfl
      have r0 := hb.blk.cell 0
      have r1 := hb.blk.cell 1
      have r2 := hb.blk.cell 2
      have r3 := hb.blk.cell 3
      simp at r0 r1 r2 r3
      refine bodyPost_ret (v := .agg #[.int .i64 7, .int .i64 n, .string s, .slice A3 N c3]) (by simp [results, Try.results23, go_sem, r0, r1, r2, r3]) rfl ?_
      exact ⟨⟨7, n, s, A3, N, c3⟩, rfl, by rw [HE.out]; exact hvv, hcc⟩
end Go.Proofs.Ytjbjfoingpnlmaa
