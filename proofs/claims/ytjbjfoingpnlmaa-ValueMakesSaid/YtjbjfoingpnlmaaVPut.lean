/- The program's Put. -/
import Derived.Test.YtjbjfoingpnlmaaVCa2
import Derived.Test.YtjbjfoingpnlmaaVMk
import Derived.Test.YtjbjfoingpnlmaaRVt8
import Derived.Test.YtjbjfoingpnlmaaRVt11
import Derived.Deep.RegionLaw
import Derived.Test.YtjbjfoingpnlmaaHeldZ
import Derived.BigRegion
import Derived.Deep.Cut
import Derived.Shelf.RegionOpen
namespace Go.Proofs.Ytjbjfoingpnlmaa
open Go.RowKit
set_option linter.unusedVariables false
set_option linter.unusedSimpArgs false

theorem pg1_any (key s : ByteArray) (g : Nat) (w : World) (h : w.cell? ⟨g, 0, none⟩ = some (.string key)) :
    Calls Try.prog 46 #[.string s, .pointer (some ⟨g, 0, none⟩)] w fun e w' => e = .returned (.bool (pGt key s)) ∧ w = w' := by
  have h2 : (Op.bytesLess s.toList key.toList || s.toList == key.toList) = !(pGt key s) := less_leq _ _
  go_enter Try.func46, Try.ntmps46
  go_wp2_with fail
  go_ret
  refine ⟨ret_vb ?_, rfl⟩
  first | rfl | (simp [h2]; done) | (unfold pGt; rfl)
/-- Put's four boxes. -/
structure PQ (w W : World) (g gk gx go : Nat) (cv : Array Value) (key : ByteArray) (cx cz : Array Value) : Prop where
  b : PB w W g cv
  kb : Blk W gk 9 #[.string key]
  x : PB w W gx cx
  o : PB w W go cz
  chg : Chg NoS w W
  ne : g ≠ go
theorem PQ.call {w W W' : World} {g gk gx go : Nat} {cv cx cz : Array Value} {key : ByteArray} (h : PQ w W g gk gx go cv key cx cz) (hc : Chg NoS W W') : PQ w W' g gk gx go cv key cx cz :=
  ⟨h.b.call hc, h.kb.chg hc (fun e => e), h.x.call hc, h.o.call hc, h.chg.trans hc (fun _ _ e => e), h.ne⟩
theorem PQ.held {w W : World} {g gk gx go : Nat} {k n s v : Value} {cz : Array Value} {key : ByteArray} {a b c d : Value} (h : PQ w W g gk gx go #[k, n, s, v] key #[a, b, c, d] cz) : W.cell? ⟨g, 3, none⟩ = some v ∧ W.cell? ⟨gk, 0, none⟩ = some (.string key) ∧ W.cell? ⟨gx, 0, none⟩ = some a ∧ W.cell? ⟨gx, 1, none⟩ = some b ∧ W.cell? ⟨gx, 2, none⟩ = some c ∧ W.cell? ⟨gx, 3, none⟩ = some d := by
  have n3 := h.b.blk.cell 3
  have m0 := h.x.blk.cell 0
  have m1 := h.x.blk.cell 1
  have m2 := h.x.blk.cell 2
  have m3 := h.x.blk.cell 3
  have m4 := h.kb.cell 0
  simp at n3 m0 m1 m2 m3 m4
  exact ⟨n3, m4, m0, m1, m2, m3⟩
theorem PQ.bx {w W w' : World} {g gk gx go N c3 : Nat} {A3 : Option Addr} {cv cx cz : Array Value} {key : ByteArray} {es : List VC} {ts : List VT} (h : PQ w W g gk gx go cv key cx cz) (hg : GV w w' es ts N A3 c3) (hc : Chg NoS W w') (hn : ∀ g, g < W.heap.size → (Value.slice A3 N c3).ownBlock ≠ some g) : Bx w w' g go cv cz es ts N A3 c3 :=
  ⟨h.b.call hc, h.o.call hc, hg, hn _ h.b.blk.lt, hn _ h.o.blk.lt, h.ne⟩

set_option maxHeartbeats 8000000 in
set_option maxRecDepth 100000 in
theorem put_some (c cx : VC) (l : List VT) (tx : VT) (key : ByteArray) (w : World) (hv : ValIs w (.mk c.k c.n c.s l) c) (hvx : ValIs w tx cx) (hsz : sizL l ≤ 100000000) (hkey : key.size ≤ maxLen) (hf : c.k ≠ 7 ∨ c.k = 7 ∧ ∃ j, findL key l = some j) :
    Calls Try.prog 21 #[c.val, .string key, cx.val] w (TreeTo w (putT (.mk c.k c.n c.s l) key tx)) := by
  have HVX := keepf hvx
  have HNM := keepf (nm_is w key hkey)
  obtain ⟨_, _, _, hg, hl, hr⟩ := hv.inv
  have HF := keepf (fun W (h : ValIs W (.mk c.k c.n c.s l) c) => place_any c l key W h (by omega))
  have HV := keepf hv
  have HGD := keepf hg
  obtain ⟨k, n, s, A, len, cap⟩ := c
  simp only [] at hl hr
  have hcap := hg.cap
  simp only [] at hcap
  have hl9 : len ≤ 100000000 := by have := sizL_len l; omega
  have HL := keepf hl
  have HR := keepf hr
  unfold VC.val at HF
  simp only [] at HF HV HGD ⊢
  obtain ⟨xk, xn, xs, xA, xl, xc⟩ := cx
  simp only [] at hf
  try simp only [] at HVX
  have HQ0 := keepf (⟨⟨(((Blk.new w 24 #[.int .i64 k, .int .i64 n, .string s, .slice A len cap]).alloc (.cells #[.string key] 9)).alloc (.cells #[.int .i64 xk, .int .i64 xn, .string xs, .slice xA xl xc] 24)).alloc (.cells #[.int .i64 0, .int .i64 0, .string ⟨#[]⟩, .slice none 0 0] 24), Nat.le_refl _⟩,
    ((Blk.new (w.alloc (.cells #[.int .i64 k, .int .i64 n, .string s, .slice A len cap] 24)) 9 #[.string key]).alloc (.cells #[.int .i64 xk, .int .i64 xn, .string xs, .slice xA xl xc] 24)).alloc (.cells #[.int .i64 0, .int .i64 0, .string ⟨#[]⟩, .slice none 0 0] 24),
    ⟨(Blk.new ((w.alloc (.cells #[.int .i64 k, .int .i64 n, .string s, .slice A len cap] 24)).alloc (.cells #[.string key] 9)) 24 #[.int .i64 xk, .int .i64 xn, .string xs, .slice xA xl xc]).alloc (.cells #[.int .i64 0, .int .i64 0, .string ⟨#[]⟩, .slice none 0 0] 24), by simp; omega⟩,
    ⟨Blk.new (((w.alloc (.cells #[.int .i64 k, .int .i64 n, .string s, .slice A len cap] 24)).alloc (.cells #[.string key] 9)).alloc (.cells #[.int .i64 xk, .int .i64 xn, .string xs, .slice xA xl xc] 24)) 24 #[.int .i64 0, .int .i64 0, .string ⟨#[]⟩, .slice none 0 0], by simp; omega⟩,
    ((((Chg.refl NoS w).alloc _).alloc _).alloc _).alloc _, by simp; omega⟩ : PQ w _ _ _ _ _ _ _ _ _)
  simp only [World.size_alloc] at HQ0
  show Calls Try.prog 21 #[.agg #[.int .i64 k, .int .i64 n, .string s, .slice A len cap], .string key, .agg #[.int .i64 xk, .int .i64 xn, .string xs, .slice xA xl xc]] w _
  clear hv hvx hg hl hr hsz
  by_cases h7 : k = 7
  · subst h7
    go_enter Try.func21, Try.ntmps21
    go_upto_region 4 with (go_at_call 41; refine (HF.out _ (HV.out.chg HQ0.out.chg)).mono ?_; rintro e w2 ⟨q, b, rfl, hc2, hq2⟩; have HQ2 := keepf (HQ0.out.call hc2); have HQ := keepf hq2; clear hc2 hq2)
    obtain ⟨go, hgo⟩ : ∃ g, g = w.heap.size + 1 + 1 + 1 := ⟨_, rfl⟩
    rw [← hgo] at HQ2 ⊢
    obtain ⟨gx, hgx⟩ : ∃ g, g = w.heap.size + 1 + 1 := ⟨_, rfl⟩
    rw [← hgx] at HQ2 ⊢
    obtain ⟨gk, hgk⟩ : ∃ g, g = w.heap.size + 1 := ⟨_, rfl⟩
    rw [← hgk] at HQ2 ⊢
    obtain ⟨g, hg1⟩ : ∃ g, g = w.heap.size := ⟨_, rfl⟩
    rw [← hg1] at HQ2 ⊢
    clear hg1 hgk hgx hgo HQ0 HF
    have p0 := HQ2.out.b.blk.cell 0
    have p1 := HQ2.out.b.blk.cell 1
    have p2 := HQ2.out.b.blk.cell 2
    have p3 := HQ2.out.b.blk.cell 3
    have x0 := HQ2.out.x.blk.cell 0
    have x1 := HQ2.out.x.blk.cell 1
    have x2 := HQ2.out.x.blk.cell 2
    have x3 := HQ2.out.x.blk.cell 3
    have k0 := HQ2.out.kb.cell 0
    simp at p0 p1 p2 p3 x0 x1 x2 x3 k0
    rcases HQ.out with ⟨rfl, hq⟩ | ⟨rfl, _, j, hj, rfl, hlt⟩
    · exfalso
      rcases hq with h | ⟨_, h⟩
      · exact h rfl
      · rcases hf with h2 | ⟨_, j, h2⟩
        · exact h2 rfl
        · rw [h] at h2; cases h2
    · have hl3 : 2 * j < len := by rw [← HL.out]; exact hlt
      obtain ⟨q, hq⟩ : ∃ q, q = 2 * j := ⟨_, rfl⟩
      have HE0 := keepf (show putT (.mk 7 n s l) key tx = .mk 7 n s (l.take (q + 1) ++ tx :: l.drop (q + 2)) from by rw [put_7, putL, hj, hq]; rfl)
      rw [← hq] at hl3 ⊢
      clear hq HQ hlt hj
      obtain ⟨b, off, rfl⟩ : ∃ b off, A = some ⟨b, off, none⟩ := by
        have h := HR.out
        have h2 := HL.out
        cases hll : l with
        | nil => rw [hll] at h2; simp at h2; omega
        | cons t0 l0 => rw [hll] at h; exact h.start
      obtain ⟨es, hes, hp1, hp2⟩ := pieces HR.out
      obtain ⟨r, hr2⟩ : ∃ r, r = min (q + 2) len := ⟨_, rfl⟩
      have HE : Hid (putT (.mk 7 n s l) key tx = .mk 7 n s (l.take (q + 1) ++ ([tx] ++ l.drop r))) := by
        show _ = _
        rw [HE0.out]
        by_cases h : q + 2 ≤ len
        · rw [show r = q + 2 by omega]; rfl
        · rw [List.drop_of_length_le (by rw [HL.out]; omega), List.drop_of_length_le (by rw [HL.out]; omega)]; rfl
      have HBH := keepf (fun (W : World) => behind_any b off len cap q r W hr2 hcap (by omega) (by omega))
      have HP1 := keepf (fun (W : World) (h : Chg NoS w W) => hp1 W (q + 1) cap h (by rw [HL.out]; omega))
      have HP2 := keepf (fun (W : World) (o : Nat) (h : Chg NoS w W) (ho : r < len → o = off + r * 4) => hp2 W r o (len - r) (cap - r) h (by rw [HL.out]; omega) (fun h => ho (by omega)))
      obtain ⟨N, hN⟩ : ∃ N, q + 1 + 1 + (len - r) = N := ⟨_, rfl⟩
      have hN9 : N ≤ 1000000000 := by omega
      obtain ⟨q1, hq1⟩ : ∃ q1, q1 = q + 1 := ⟨_, rfl⟩
      rw [← hq1] at HP1 HE
      have HNN := keepf (show q1 + 1 + (len - r) = N by omega)
      have e1 : (q : Int) + 1 = (q1 : Int) := by omega
      have i1 : (q1 : Int) ≤ cap := by omega
      have i2 : q1 ≤ cap := by omega
      have k1 : IntKind.i64.wrap (q1 : Int) = (q1 : Int) := by rw [IntKind.wrap_i64]; omega
      clear hes hp1 hp2 hr2 hN HE0 hq1
      have HCT : Hid (∀ o : Nat, (r < len → o = off + r * 4) → Calls Try.prog 43 #[.slice (some ⟨w2.heap.size + 1, 0, none⟩) 3 3] (((w2.alloc (.cells #[.int .i64 xk, .int .i64 xn, .string xs, .slice xA xl xc] 24)).alloc (.cells #[.slice (some ⟨b, off, none⟩) q1 cap, .slice (some ⟨w2.heap.size, 0, none⟩) 1 1, .slice (some ⟨b, o, none⟩) (len - r) (cap - r)] 22)).drew) fun e w' => ∃ A3 c3, e = .returned (.slice A3 N c3) ∧ Bx w w' g go #[.int .i64 7, .int .i64 n, .string s, .slice (some ⟨b, off, none⟩) len cap] #[.int .i64 0, .int .i64 0, .string ⟨#[]⟩, .slice none 0 0] (es.take q1 ++ ([⟨xk, xn, xs, xA, xl, xc⟩] ++ es.drop r)) (l.take q1 ++ ([tx] ++ l.drop r)) N A3 c3 ∧ PQ w w' g gk gx go #[.int .i64 7, .int .i64 n, .string s, .slice (some ⟨b, off, none⟩) len cap] key #[.int .i64 xk, .int .i64 xn, .string xs, .slice xA xl xc] #[.int .i64 0, .int .i64 0, .string ⟨#[]⟩, .slice none 0 0]) := by
        show ∀ o : Nat, _
        intro o ho
        have hcc := (HQ2.out.chg.alloc (.cells #[.int .i64 xk, .int .i64 xn, .string xs, .slice xA xl xc] 24)).alloc (.cells #[.slice (some ⟨b, off, none⟩) q1 cap, .slice (some ⟨w2.heap.size, 0, none⟩) 1 1, .slice (some ⟨b, o, none⟩) (len - r) (cap - r)] 22)
        have hbb := Blk.new (w2.alloc (.cells #[.int .i64 xk, .int .i64 xn, .string xs, .slice xA xl xc] 24)) 22 #[.slice (some ⟨b, off, none⟩) q1 cap, .slice (some ⟨w2.heap.size, 0, none⟩) 1 1, .slice (some ⟨b, o, none⟩) (len - r) (cap - r)]
        rw [World.size_alloc] at hbb
        refine (cat3_any (w0 := w) (G := w2.heap.size + 1) (N := N) hcc.drew (HP1.out _ hcc.drew) (pc_one HVX.out ((Blk.new w2 _ _).alloc _).drew) (HP2.out _ o hcc.drew ho) HNN.out hN9 hbb.drew).mono ?_
        rintro e w4 ⟨A3, c3, rfl, hg4, hc4, hn4⟩
        exact ⟨A3, c3, rfl, (HQ2.out.call ((((Chg.refl NoS w2).alloc _).alloc _).drew)).bx hg4 hc4 hn4, (HQ2.out.call ((((Chg.refl NoS w2).alloc _).alloc _).drew)).call hc4⟩
      have m3 := (HQ2.out.b.alloc (.cells #[.int .i64 xk, .int .i64 xn, .string xs, .slice xA xl xc] 24)).blk.cell 3
      simp at m3
      clear HP1 HP2 HNN
      go_upto_region 5 with fail
      go_cut [] from 21 to 34 (fun wx => ∃ (es9 : List VC) (A3 : Option Addr) (c3 : Nat), Hid (Bx w wx g go #[.int .i64 7, .int .i64 n, .string s, .slice A3 N c3] #[.int .i64 0, .int .i64 0, .string ⟨#[]⟩, .slice none 0 0] es9 (l.take q1 ++ ([tx] ++ l.drop r)) N A3 c3))
      case first =>
        refine startZ (fun w' => w'.cell? ⟨g, 3, none⟩ = some (.slice (some ⟨b, off, none⟩) len cap) ∧ w'.cell? ⟨gk, 0, none⟩ = some (.string key) ∧ w'.cell? ⟨gx, 0, none⟩ = some (.int .i64 xk) ∧ w'.cell? ⟨gx, 1, none⟩ = some (.int .i64 xn) ∧ w'.cell? ⟨gx, 2, none⟩ = some (.string xs) ∧ w'.cell? ⟨gx, 3, none⟩ = some (.slice xA xl xc)) 14 (by kernel_rfl) (HQ2.out.call (Chg.refl NoS w2).drew).held (fun hHeld => ?_)
        refine takeZ (i := 0) (oi := { dst := some 21, op := Go.Op.fieldAddr 24 (Go.Operand.tmp 3) 3, type := 0, pos := _, after := _, guard := none }) (v := ?_) rfl (by kernel_rfl) (by kernel_rfl) (by kernel_rfl) (by kernel_rfl) (fun _ _ _ h => h) (Or.inl ⟨by rfl, ?_⟩) (by assumption) ?_
        rotate_left
        · intro w hSw; (try dsimp only at hSw); (try obtain ⟨s0, s1, s2, s3, s4, s5⟩ := hSw); (first | (go_simp; done) | (go_simp; with_reducible rfl))
        try simp only [Act.put, List.setIfInBounds_toArray, List.set_cons_zero, List.set_cons_succ]
        refine takeZ (i := 1) (oi := { dst := some 22, op := Go.Op.load 22 (Go.Operand.tmp 21), type := 22, pos := _, after := _, guard := none }) (v := ?_) rfl (by kernel_rfl) (by kernel_rfl) (by kernel_rfl) (by kernel_rfl) (fun _ _ _ h => h) (Or.inl ⟨by rfl, ?_⟩) (by assumption) ?_
        rotate_left
        · intro w hSw; (try dsimp only at hSw); (try obtain ⟨s0, s1, s2, s3, s4, s5⟩ := hSw); (first | (go_simp; done) | (go_simp; with_reducible rfl))
        try simp only [Act.put, List.setIfInBounds_toArray, List.set_cons_zero, List.set_cons_succ]
        refine takeZ (i := 2) (oi := { dst := some 23, op := Go.Op.move (Go.Operand.tmp 7), type := 3, pos := _, after := _, guard := none }) (v := ?_) rfl (by kernel_rfl) (by kernel_rfl) (by kernel_rfl) (by kernel_rfl) (fun _ _ _ h => h) (Or.inl ⟨by rfl, ?_⟩) (by assumption) ?_
        rotate_left
        · intro w hSw; (try dsimp only at hSw); (try obtain ⟨s0, s1, s2, s3, s4, s5⟩ := hSw); (first | (go_simp; done) | (go_simp; with_reducible rfl))
        try simp only [Act.put, List.setIfInBounds_toArray, List.set_cons_zero, List.set_cons_succ]
        refine takeZ (i := 3) (oi := { dst := some 24, op := Go.Op.binOp Go.BinOp.add 3 (Go.Operand.tmp 23) (Go.Operand.const (Go.Value.int Go.IntKind.i64 1)) 3, type := 3, pos := _, after := _, guard := none }) (v := ?_) rfl (by kernel_rfl) (by kernel_rfl) (by kernel_rfl) (by kernel_rfl) (fun _ _ _ h => h) (Or.inl ⟨by rfl, ?_⟩) (by assumption) ?_
        rotate_left
        · intro w hSw; (try dsimp only at hSw); (try obtain ⟨s0, s1, s2, s3, s4, s5⟩ := hSw); (first | (go_simp; done) | (go_simp; with_reducible rfl))
        try simp only [Act.put, List.setIfInBounds_toArray, List.set_cons_zero, List.set_cons_succ]
        refine takeZ (i := 4) (oi := { dst := some 25, op := Go.Op.slice 22 (Go.Operand.tmp 22) none (some (Go.Operand.tmp 24)) none, type := 22, pos := _, after := _, guard := none }) (v := ?_) rfl (by kernel_rfl) (by kernel_rfl) (by kernel_rfl) (by kernel_rfl) (fun _ _ _ h => h) (Or.inl ⟨by rfl, ?_⟩) (by assumption) ?_
        rotate_left
        · intro w hSw; (try dsimp only at hSw); (try obtain ⟨s0, s1, s2, s3, s4, s5⟩ := hSw); (first | (go_simp; done) | (go_simp; with_reducible rfl))
        try simp only [Act.put, List.setIfInBounds_toArray, List.set_cons_zero, List.set_cons_succ]
        refine takeZ (i := 5) (oi := { dst := some 26, op := Go.Op.load 24 (Go.Operand.tmp 5), type := 24, pos := _, after := _, guard := none }) (v := ?_) rfl (by kernel_rfl) (by kernel_rfl) (by kernel_rfl) (by kernel_rfl) (fun _ _ _ h => h) (Or.inl ⟨by rfl, ?_⟩) (by assumption) ?_
        rotate_left
        · intro w hSw; (try dsimp only at hSw); (try obtain ⟨s0, s1, s2, s3, s4, s5⟩ := hSw); (first | (go_simp; done) | (go_simp; with_reducible rfl))
        try simp only [Act.put, List.setIfInBounds_toArray, List.set_cons_zero, List.set_cons_succ]
        refine takeZ (i := 7) (oi := { dst := some 28, op := Go.Op.fieldAddr 24 (Go.Operand.tmp 3) 3, type := 0, pos := _, after := _, guard := none }) (v := ?_) rfl (by kernel_rfl) (by kernel_rfl) (by kernel_rfl) (by kernel_rfl) (fun _ _ _ h => h) (Or.inl ⟨by rfl, ?_⟩) (by assumption) ?_
        rotate_left
        · intro w hSw; (try dsimp only at hSw); (try obtain ⟨s0, s1, s2, s3, s4, s5⟩ := hSw); (first | (go_simp; done) | (go_simp; with_reducible rfl))
        try simp only [Act.put, List.setIfInBounds_toArray, List.set_cons_zero, List.set_cons_succ]
        refine takeZ (i := 8) (oi := { dst := some 29, op := Go.Op.load 22 (Go.Operand.tmp 28), type := 22, pos := _, after := _, guard := none }) (v := ?_) rfl (by kernel_rfl) (by kernel_rfl) (by kernel_rfl) (by kernel_rfl) (fun _ _ _ h => h) (Or.inl ⟨by rfl, ?_⟩) (by assumption) ?_
        rotate_left
        · intro w hSw; (try dsimp only at hSw); (try obtain ⟨s0, s1, s2, s3, s4, s5⟩ := hSw); (first | (go_simp; done) | (go_simp; with_reducible rfl))
        try simp only [Act.put, List.setIfInBounds_toArray, List.set_cons_zero, List.set_cons_succ]
        refine takeZ (i := 9) (oi := { dst := some 30, op := Go.Op.move (Go.Operand.tmp 7), type := 3, pos := _, after := _, guard := none }) (v := ?_) rfl (by kernel_rfl) (by kernel_rfl) (by kernel_rfl) (by kernel_rfl) (fun _ _ _ h => h) (Or.inl ⟨by rfl, ?_⟩) (by assumption) ?_
        rotate_left
        · intro w hSw; (try dsimp only at hSw); (try obtain ⟨s0, s1, s2, s3, s4, s5⟩ := hSw); (first | (go_simp; done) | (go_simp; with_reducible rfl))
        try simp only [Act.put, List.setIfInBounds_toArray, List.set_cons_zero, List.set_cons_succ]
        refine twoZ (i := 6) (j := 10) (o := { dst := some 27, op := Go.Op.buildSlice 22 1 #[(0, Go.Operand.tmp 26)], type := 22, pos := _, after := _, guard := none }) (o' := { dst := some 31, op := Go.Op.call { callee := Go.Callee.value (Go.Operand.func 44), args := #[Go.Operand.tmp 29, Go.Operand.tmp 30], argTypes := #[22, 3] }, type := 22, pos := _, after := _, guard := none }) (by kernel_rfl) rfl rfl (by decide) (by decide) (fun K hK => ?_) (fun K hK => ?_)
        · go_simp
          refine hK.out _ _ (HQ2.out.call (((Chg.refl NoS w2).alloc _).drew)).held (fun hHeld => ?_)
          clear hK K
          try simp only [Act.put, List.setIfInBounds_toArray, List.set_cons_zero, List.set_cons_succ]
          refine oneZ (i := 10) (o := { dst := some 31, op := Go.Op.call { callee := Go.Callee.value (Go.Operand.func 44), args := #[Go.Operand.tmp 29, Go.Operand.tmp 30], argTypes := #[22, 3] }, type := 22, pos := _, after := _, guard := none }) (by kernel_rfl) rfl (by decide) (fun K hK => ?_)
          go_simp
          (go_at_call 44; refine (HBH.out _).mono ?_; rintro e w3 ⟨⟨o, rfl, ho⟩, rfl⟩)
          refine hK.out _ _ (HQ2.out.call (((Chg.refl NoS w2).alloc _).drew)).held (fun hHeld => ?_)
          clear hK K
          try simp only [Act.put, List.setIfInBounds_toArray, List.set_cons_zero, List.set_cons_succ]
          refine oneZ (i := 11) (o := { dst := some 32, op := Go.Op.buildSlice 56 3 #[(0, Go.Operand.tmp 25), (1, Go.Operand.tmp 27), (2, Go.Operand.tmp 31)], type := 56, pos := _, after := _, guard := none }) (by kernel_rfl) rfl (by decide) (fun K hK => ?_)
          go_simp
          refine hK.out _ _ (HQ2.out.call ((((Chg.refl NoS w2).alloc _).alloc _).drew)).held (fun hHeld => ?_)
          clear hK K
          try simp only [Act.put, List.setIfInBounds_toArray, List.set_cons_zero, List.set_cons_succ]
          refine oneZ (i := 12) (o := { dst := some 33, op := Go.Op.call { callee := Go.Callee.value (Go.Operand.func 43), args := #[Go.Operand.tmp 32], argTypes := #[56] }, type := 22, pos := _, after := _, guard := none }) (by kernel_rfl) rfl (by decide) (fun K hK => ?_)
          go_simp
          (go_at_call 43; refine (HCT.out o ho).mono ?_; rintro e w4 ⟨A3, c3, rfl, hx4, hp4⟩)
          refine hK.out _ _ hp4.held (fun hHeld => ?_)
          clear hK K
          try simp only [Act.put, List.setIfInBounds_toArray, List.set_cons_zero, List.set_cons_succ]
          refine takeZ (i := 13) (oi := { dst := some 34, op := Go.Op.fieldAddr 24 (Go.Operand.tmp 3) 3, type := 0, pos := _, after := _, guard := none }) (v := ?_) rfl (by kernel_rfl) (by kernel_rfl) (by kernel_rfl) (by kernel_rfl) (fun _ _ _ h => h) (Or.inl ⟨by rfl, ?_⟩) (by assumption) ?_
          rotate_left
          · intro w hSw; (try dsimp only at hSw); (try obtain ⟨s0, s1, s2, s3, s4, s5⟩ := hSw); (first | (go_simp; done) | (go_simp; with_reducible rfl))
          try simp only [Act.put, List.setIfInBounds_toArray, List.set_cons_zero, List.set_cons_succ]
          refine lastZ (o := { dst := none, op := Go.Op.store 22 (Go.Operand.tmp 34) (Go.Operand.tmp 33), type := 0, pos := _, after := _, guard := none }) (by kernel_rfl) rfl (by kernel_rfl) (fun K hK => ?_)
          have z3 := hx4.b.blk.frozen 3
          have q3 := hx4.b.blk.cell 3
          simp at q3
          go_simp
          refine hK.out _ _ ?_
          clear hK K
          try simp only [Act.put, List.setIfInBounds_toArray, List.set_cons_zero, List.set_cons_succ]
          go_wp2_with fail
          go_meet
          exact ⟨_, A3, c3, hx4.put⟩
        · go_simp
          (go_at_call 44; refine (HBH.out _).mono ?_; rintro e w3 ⟨⟨o, rfl, ho⟩, rfl⟩)
          refine hK.out _ _ (HQ2.out.call (Chg.refl NoS w2).drew).held (fun hHeld => ?_)
          clear hK K
          try simp only [Act.put, List.setIfInBounds_toArray, List.set_cons_zero, List.set_cons_succ]
          refine oneZ (i := 6) (o := { dst := some 27, op := Go.Op.buildSlice 22 1 #[(0, Go.Operand.tmp 26)], type := 22, pos := _, after := _, guard := none }) (by kernel_rfl) rfl (by decide) (fun K hK => ?_)
          go_simp
          refine hK.out _ _ (HQ2.out.call (((Chg.refl NoS w2).alloc _).drew)).held (fun hHeld => ?_)
          clear hK K
          try simp only [Act.put, List.setIfInBounds_toArray, List.set_cons_zero, List.set_cons_succ]
          refine oneZ (i := 11) (o := { dst := some 32, op := Go.Op.buildSlice 56 3 #[(0, Go.Operand.tmp 25), (1, Go.Operand.tmp 27), (2, Go.Operand.tmp 31)], type := 56, pos := _, after := _, guard := none }) (by kernel_rfl) rfl (by decide) (fun K hK => ?_)
          go_simp
          refine hK.out _ _ (HQ2.out.call ((((Chg.refl NoS w2).alloc _).alloc _).drew)).held (fun hHeld => ?_)
          clear hK K
          try simp only [Act.put, List.setIfInBounds_toArray, List.set_cons_zero, List.set_cons_succ]
          refine oneZ (i := 12) (o := { dst := some 33, op := Go.Op.call { callee := Go.Callee.value (Go.Operand.func 43), args := #[Go.Operand.tmp 32], argTypes := #[56] }, type := 22, pos := _, after := _, guard := none }) (by kernel_rfl) rfl (by decide) (fun K hK => ?_)
          go_simp
          (go_at_call 43; refine (HCT.out o ho).mono ?_; rintro e w4 ⟨A3, c3, rfl, hx4, hp4⟩)
          refine hK.out _ _ hp4.held (fun hHeld => ?_)
          clear hK K
          try simp only [Act.put, List.setIfInBounds_toArray, List.set_cons_zero, List.set_cons_succ]
          refine takeZ (i := 13) (oi := { dst := some 34, op := Go.Op.fieldAddr 24 (Go.Operand.tmp 3) 3, type := 0, pos := _, after := _, guard := none }) (v := ?_) rfl (by kernel_rfl) (by kernel_rfl) (by kernel_rfl) (by kernel_rfl) (fun _ _ _ h => h) (Or.inl ⟨by rfl, ?_⟩) (by assumption) ?_
          rotate_left
          · intro w hSw; (try dsimp only at hSw); (try obtain ⟨s0, s1, s2, s3, s4, s5⟩ := hSw); (first | (go_simp; done) | (go_simp; with_reducible rfl))
          try simp only [Act.put, List.setIfInBounds_toArray, List.set_cons_zero, List.set_cons_succ]
          refine lastZ (o := { dst := none, op := Go.Op.store 22 (Go.Operand.tmp 34) (Go.Operand.tmp 33), type := 0, pos := _, after := _, guard := none }) (by kernel_rfl) rfl (by kernel_rfl) (fun K hK => ?_)
          have z3 := hx4.b.blk.frozen 3
          have q3 := hx4.b.blk.cell 3
          simp at q3
          go_simp
          refine hK.out _ _ ?_
          clear hK K
          try simp only [Act.put, List.setIfInBounds_toArray, List.set_cons_zero, List.set_cons_succ]
          go_wp2_with fail
          go_meet
          exact ⟨_, A3, c3, hx4.put⟩
      case rest =>
        clear p0 p1 p2 p3 x0 x1 x2 x3 k0 m3
        obtain ⟨es9, A3, c3, HB9⟩ := hcut
        have q0 := HB9.out.b.blk.cell 0
        have q1 := HB9.out.b.blk.cell 1
        have q2 := HB9.out.b.blk.cell 2
        have q3 := HB9.out.b.blk.cell 3
        have HO9 := keepf HB9.out.o
        simp at q0 q1 q2 q3
        have z0 := HO9.out.blk.frozen 0
        have z1 := HO9.out.blk.frozen 1
        have z2 := HO9.out.blk.frozen 2
        have z3 := HO9.out.blk.frozen 3
        have y0 := HO9.out.blk.cell 0
        have y1 := HO9.out.blk.cell 1
        have y2 := HO9.out.blk.cell 2
        have y3 := HO9.out.blk.cell 3
        simp at y0 y1 y2 y3
        go_wp2_with fail
        try simp only [Exit.noGoto_ret]
        clear y0 y1 y2 y3
        obtain ⟨hb, hvv, hcc⟩ := HB9.out.fin (k := 7) (n := n) (s := s) rfl (by unfold maxLen; omega) HGD.out.k HGD.out.n HGD.out.s _ rfl
        have r0 := hb.blk.cell 0
        have r1 := hb.blk.cell 1
        have r2 := hb.blk.cell 2
        have r3 := hb.blk.cell 3
        simp at r0 r1 r2 r3
        refine bodyPost_ret (v := .agg #[.int .i64 7, .int .i64 n, .string s, .slice A3 N c3]) (by simp [results, Try.results21, go_sem, r0, r1, r2, r3]) rfl ?_
        exact ⟨⟨7, n, s, A3, N, c3⟩, rfl, by rw [HE.out]; exact hvv, hcc⟩
  · have e7 : (k == 7) = false := by simpa using h7
    have e7' : (k != 7) = true := by simpa using h7
    have HE := keepf (put_no (n := n) (s := s) (key := key) (x := tx) (l := l) h7)
    have hb := Blk.new (((w.alloc (.cells #[.int .i64 k, .int .i64 n, .string s, .slice A len cap] 24)).alloc (.cells #[.string key] 9)).alloc (.cells #[.int .i64 xk, .int .i64 xn, .string xs, .slice xA xl xc] 24)) 24 #[.int .i64 k, .int .i64 n, .string s, .slice A len cap]
    have HCC := keepf (((((Chg.refl NoS w).alloc (.cells #[.int .i64 k, .int .i64 n, .string s, .slice A len cap] 24)).alloc (.cells #[.string key] 9)).alloc (.cells #[.int .i64 xk, .int .i64 xn, .string xs, .slice xA xl xc] 24)).alloc (.cells #[.int .i64 k, .int .i64 n, .string s, .slice A len cap] 24))
    simp only [World.size_alloc] at hb
    have r0 := hb.cell 0
    have r1 := hb.cell 1
    have r2 := hb.cell 2
    have r3 := hb.cell 3
    simp at r0 r1 r2 r3
    have HB9 := keepf HQ0.out.b
    have p0 := HB9.out.blk.cell 0
    have p1 := HB9.out.blk.cell 1
    have p2 := HB9.out.blk.cell 2
    have p3 := HB9.out.blk.cell 3
    simp at p0 p1 p2 p3
    clear h7 hb
    go_enter Try.func21, Try.ntmps21
    go_wp2_with fail
    try simp only [Exit.noGoto_ret]
    refine bodyPost_ret (v := .agg #[.int .i64 k, .int .i64 n, .string s, .slice A len cap]) (by simp [results, Try.results21, go_sem, r0, r1, r2, r3]) rfl ?_
    exact ⟨⟨k, n, s, A, len, cap⟩, rfl, by rw [HE.out]; exact HV.out.chg HCC.out, HCC.out⟩
end Go.Proofs.Ytjbjfoingpnlmaa
