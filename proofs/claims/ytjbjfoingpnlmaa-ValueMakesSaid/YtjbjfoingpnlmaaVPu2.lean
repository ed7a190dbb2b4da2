/- The program's Put, where the name is not found. -/
import Derived.Test.YtjbjfoingpnlmaaVPut
namespace Go.Proofs.Ytjbjfoingpnlmaa
open Go.RowKit
set_option linter.unusedVariables false
set_option linter.unusedSimpArgs false

set_option maxHeartbeats 8000000 in
set_option maxRecDepth 100000 in
theorem put_none (c cx : VC) (l : List VT) (tx : VT) (key : ByteArray) (w : World) (hv : ValIs w (.mk c.k c.n c.s l) c) (hvx : ValIs w tx cx) (hsz : sizL l ≤ 100000000) (hkey : key.size ≤ maxLen) (h7 : c.k = 7) (hf : findL key l = none) :
    Calls Try.prog 21 #[c.val, .string key, cx.val] w (TreeTo w (putT (.mk c.k c.n c.s l) key tx)) := by
  have HVX := keepf hvx
  have HNM := keepf (nm_is w key hkey)
  obtain ⟨_, _, _, hg, hl, hr⟩ := hv.inv
  have HF := keepf (fun W (h : ValIs W (.mk c.k c.n c.s l) c) => place_any c l key W h (by omega))
  have HV := keepf hv
  have HGD := keepf hg
  obtain ⟨k, n, s, A, len, cap⟩ := c
  simp only [] at hl hr
  have hcap := hg.cap
  simp only [] at hcap
  have hl9 : len ≤ 100000000 := by have := sizL_len l; omega
  have HL := keepf hl
  have HR := keepf hr
  unfold VC.val at HF
  simp only [] at HF HV HGD ⊢
  obtain ⟨xk, xn, xs, xA, xl, xc⟩ := cx
  simp only [] at h7
  try simp only [] at HVX
  have HQ0 := keepf (⟨⟨(((Blk.new w 24 #[.int .i64 k, .int .i64 n, .string s, .slice A len cap]).alloc (.cells #[.string key] 9)).alloc (.cells #[.int .i64 xk, .int .i64 xn, .string xs, .slice xA xl xc] 24)).alloc (.cells #[.int .i64 0, .int .i64 0, .string ⟨#[]⟩, .slice none 0 0] 24), Nat.le_refl _⟩,
    ((Blk.new (w.alloc (.cells #[.int .i64 k, .int .i64 n, .string s, .slice A len cap] 24)) 9 #[.string key]).alloc (.cells #[.int .i64 xk, .int .i64 xn, .string xs, .slice xA xl xc] 24)).alloc (.cells #[.int .i64 0, .int .i64 0, .string ⟨#[]⟩, .slice none 0 0] 24),
    ⟨(Blk.new ((w.alloc (.cells #[.int .i64 k, .int .i64 n, .string s, .slice A len cap] 24)).alloc (.cells #[.string key] 9)) 24 #[.int .i64 xk, .int .i64 xn, .string xs, .slice xA xl xc]).alloc (.cells #[.int .i64 0, .int .i64 0, .string ⟨#[]⟩, .slice none 0 0] 24), by simp; omega⟩,
    ⟨Blk.new (((w.alloc (.cells #[.int .i64 k, .int .i64 n, .string s, .slice A len cap] 24)).alloc (.cells #[.string key] 9)).alloc (.cells #[.int .i64 xk, .int .i64 xn, .string xs, .slice xA xl xc] 24)) 24 #[.int .i64 0, .int .i64 0, .string ⟨#[]⟩, .slice none 0 0], by simp; omega⟩,
    ((((Chg.refl NoS w).alloc _).alloc _).alloc _).alloc _, by simp; omega⟩ : PQ w _ _ _ _ _ _ _ _ _)
  simp only [World.size_alloc] at HQ0
  show Calls Try.prog 21 #[.agg #[.int .i64 k, .int .i64 n, .string s, .slice A len cap], .string key, .agg #[.int .i64 xk, .int .i64 xn, .string xs, .slice xA xl xc]] w _
  clear hv hvx hg hl hr hsz
  · subst h7
    go_enter Try.func21, Try.ntmps21
    go_upto_region 4 with (go_at_call 41; refine (HF.out _ (HV.out.chg HQ0.out.chg)).mono ?_; rintro e w2 ⟨q, b, rfl, hc2, hq2⟩; have HQ2 := keepf (HQ0.out.call hc2); have HQ := keepf hq2; clear hc2 hq2)
    obtain ⟨go, hgo⟩ : ∃ g, g = w.heap.size + 1 + 1 + 1 := ⟨_, rfl⟩
    rw [← hgo] at HQ2 ⊢
    obtain ⟨gx, hgx⟩ : ∃ g, g = w.heap.size + 1 + 1 := ⟨_, rfl⟩
    rw [← hgx] at HQ2 ⊢
    obtain ⟨gk, hgk⟩ : ∃ g, g = w.heap.size + 1 := ⟨_, rfl⟩
    rw [← hgk] at HQ2 ⊢
    obtain ⟨g, hg1⟩ : ∃ g, g = w.heap.size := ⟨_, rfl⟩
    rw [← hg1] at HQ2 ⊢
    clear hg1 hgk hgx hgo HQ0 HF
    have p0 := HQ2.out.b.blk.cell 0
    have p1 := HQ2.out.b.blk.cell 1
    have p2 := HQ2.out.b.blk.cell 2
    have p3 := HQ2.out.b.blk.cell 3
    have x0 := HQ2.out.x.blk.cell 0
    have x1 := HQ2.out.x.blk.cell 1
    have x2 := HQ2.out.x.blk.cell 2
    have x3 := HQ2.out.x.blk.cell 3
    have k0 := HQ2.out.kb.cell 0
    simp at p0 p1 p2 p3 x0 x1 x2 x3 k0
    have HQ9 : Hid (b = false) := by
      show _ = _
      rcases HQ.out with ⟨h, _⟩ | ⟨_, _, j, hj, _, _⟩
      · exact h
      · rw [hf] at hj; cases hj
    obtain rfl := HQ9.out
    obtain ⟨q9, hq9⟩ : ∃ x, x = q := ⟨_, rfl⟩
    clear hq9 HQ HQ9
    obtain ⟨p, hp⟩ : ∃ p, posL (pGt key) l = p := ⟨_, rfl⟩
    have HE := keepf (show putT (.mk 7 n s l) key tx = .mk 7 n s (l.take p ++ ([nmT key, tx] ++ l.drop p)) from by rw [put_7, putL, hf]; show VT.mk 7 n s (insL key tx l) = _; rw [ins_pos, hp]; rfl)
    have hpl : p ≤ len := by rw [← hp, ← HL.out]; exact posL_le _ _
    have HFF := keepf (find_any (pGt key) 46 #[.pointer (some ⟨gk, 0, none⟩)] (fun args w => rfl) l A len cap w w2 HL.out (by omega) HR.out HQ2.out.chg (fun s => pg1_any key s _ _ k0))
    rw [hp] at HFF
    clear hf hp
    go_upto_region 8 with (go_at_call 45; refine HFF.out.mono ?_; rintro e w3 ⟨rfl, rfl⟩)
    clear HFF
    have HNX := keepf (fun (W : World) => nameOf_any key W)
    obtain ⟨N, hN⟩ : ∃ N, p + 2 + (len - p) = N := ⟨_, rfl⟩
    have hN9 : N ≤ 1000000000 := by omega
    have i1 : (p : Int) ≤ cap := by omega
    have i2 : p ≤ cap := by omega
    have i3 : (p : Int) ≤ len := by omega
    have HNN := keepf hN
    have HCT : Hid (∀ (es : List VC) (W3 : World) (B1 B2 : Option Addr) (c1 c2 : Nat), Chg NoS w2 W3 → (∀ W, Chg NoS w W → PcV w W B1 p c1 (es.take p) (l.take p)) → (∀ W, Chg NoS w W → PcV w W B2 (len - p) c2 (es.drop p) (l.drop p)) → Calls Try.prog 43 #[.slice (some ⟨W3.heap.size + 1, 0, none⟩) 3 3] ((W3.alloc (.cells #[.int .i64 5, .int .i64 0, .string key, .slice none 0 0, .int .i64 xk, .int .i64 xn, .string xs, .slice xA xl xc] 24)).alloc (.cells #[.slice B1 p c1, .slice (some ⟨W3.heap.size, 0, none⟩) 2 2, .slice B2 (len - p) c2] 22)) fun e w' => ∃ A3 c3, e = .returned (.slice A3 N c3) ∧ Bx w w' g go #[.int .i64 7, .int .i64 n, .string s, .slice A len cap] #[.int .i64 0, .int .i64 0, .string ⟨#[]⟩, .slice none 0 0] (es.take p ++ ([⟨5, 0, key, none, 0, 0⟩, ⟨xk, xn, xs, xA, xl, xc⟩] ++ es.drop p)) (l.take p ++ ([nmT key, tx] ++ l.drop p)) N A3 c3 ∧ PQ w w' g gk gx go #[.int .i64 7, .int .i64 n, .string s, .slice A len cap] key #[.int .i64 xk, .int .i64 xn, .string xs, .slice xA xl xc] #[.int .i64 0, .int .i64 0, .string ⟨#[]⟩, .slice none 0 0]) := by
      show ∀ es : List VC, _
      intro es W3 B1 B2 c1 c2 hc3 hP1 hP2
      have hcc := ((HQ2.out.chg.trans hc3 (fun _ _ e => e)).alloc (.cells #[.int .i64 5, .int .i64 0, .string key, .slice none 0 0, .int .i64 xk, .int .i64 xn, .string xs, .slice xA xl xc] 24)).alloc (.cells #[.slice B1 p c1, .slice (some ⟨W3.heap.size, 0, none⟩) 2 2, .slice B2 (len - p) c2] 22)
      have hbb := Blk.new (W3.alloc (.cells #[.int .i64 5, .int .i64 0, .string key, .slice none 0 0, .int .i64 xk, .int .i64 xn, .string xs, .slice xA xl xc] 24)) 22 #[.slice B1 p c1, .slice (some ⟨W3.heap.size, 0, none⟩) 2 2, .slice B2 (len - p) c2]
      rw [World.size_alloc] at hbb
      refine (cat3_any (w0 := w) (G := W3.heap.size + 1) (N := N) hcc (hP1 _ hcc) (pc_two HNM.out HVX.out ((Blk.new W3 _ _).alloc _)) (hP2 _ hcc) HNN.out hN9 hbb).mono ?_
      rintro e w4 ⟨A3, c3, rfl, hg4, hc4, hn4⟩
      exact ⟨A3, c3, rfl, (HQ2.out.call ((hc3.alloc _).alloc _)).bx hg4 hc4 hn4, (HQ2.out.call ((hc3.alloc _).alloc _)).call hc4⟩
    clear hN
    by_cases h0 : 0 < len
    · obtain ⟨b, off, rfl⟩ : ∃ b off, A = some ⟨b, off, none⟩ := by
        have h := HR.out
        have h2 := HL.out
        cases hll : l with
        | nil => rw [hll] at h2; simp at h2; omega
        | cons t0 l0 => rw [hll] at h; exact h.start
      obtain ⟨es, hes, hp1, hp2⟩ := pieces HR.out
      have HP1 := keepf (fun (W : World) (h : Chg NoS w W) => hp1 W p cap h (by rw [HL.out]; exact hpl))
      have HP2 : Hid (∀ W, Chg NoS w W → PcV w W (if cap = p then some ⟨b, off, none⟩ else some ⟨b, off + p * 4, none⟩) (len - p) (cap - p) (es.drop p) (l.drop p)) := by
        show ∀ W, _
        intro W h
        split
        · exact hp2 W p off (len - p) (cap - p) h (by rw [HL.out]; omega) (fun h => by omega)
        · exact hp2 W p (off + p * 4) (len - p) (cap - p) h (by rw [HL.out]; omega) (fun _ => rfl)
      obtain ⟨B2, hB2⟩ : ∃ B2, (if cap = p then some (⟨b, off, none⟩ : Addr) else some ⟨b, off + p * 4, none⟩) = B2 := ⟨_, rfl⟩
      rw [hB2] at HP2
      clear hes hp1 hp2 h0
      go_cut [] from 40 to 54 (fun wx => ∃ (es9 : List VC) (A3 : Option Addr) (c3 : Nat), Hid (Bx w wx g go #[.int .i64 7, .int .i64 n, .string s, .slice A3 N c3] #[.int .i64 0, .int .i64 0, .string ⟨#[]⟩, .slice none 0 0] es9 (l.take p ++ ([nmT key, tx] ++ l.drop p)) N A3 c3))
      case first =>
        refine startZ (fun w' => w'.cell? ⟨g, 3, none⟩ = some (.slice (some ⟨b, off, none⟩) len cap) ∧ w'.cell? ⟨gk, 0, none⟩ = some (.string key) ∧ w'.cell? ⟨gx, 0, none⟩ = some (.int .i64 xk) ∧ w'.cell? ⟨gx, 1, none⟩ = some (.int .i64 xn) ∧ w'.cell? ⟨gx, 2, none⟩ = some (.string xs) ∧ w'.cell? ⟨gx, 3, none⟩ = some (.slice xA xl xc)) 15 (by kernel_rfl) (HQ2.out.call (Chg.refl NoS w2).drew).held (fun hHeld => ?_)
        refine takeZ (i := 0) (oi := { dst := some 40, op := Go.Op.fieldAddr 24 (Go.Operand.tmp 3) 3, type := 0, pos := _, after := _, guard := none }) (v := ?_) rfl (by kernel_rfl) (by kernel_rfl) (by kernel_rfl) (by kernel_rfl) (fun _ _ _ h => h) (Or.inl ⟨by rfl, ?_⟩) (by assumption) ?_
        rotate_left
        · intro w hSw; (try dsimp only at hSw); (try obtain ⟨s0, s1, s2, s3, s4, s5⟩ := hSw); (first | (go_simp; done) | (go_simp; with_reducible rfl))
        try simp only [Act.put, List.setIfInBounds_toArray, List.set_cons_zero, List.set_cons_succ]
        refine takeZ (i := 1) (oi := { dst := some 41, op := Go.Op.load 22 (Go.Operand.tmp 40), type := 22, pos := _, after := _, guard := none }) (v := ?_) rfl (by kernel_rfl) (by kernel_rfl) (by kernel_rfl) (by kernel_rfl) (fun _ _ _ h => h) (Or.inl ⟨by rfl, ?_⟩) (by assumption) ?_
        rotate_left
        · intro w hSw; (try dsimp only at hSw); (try obtain ⟨s0, s1, s2, s3, s4, s5⟩ := hSw); (first | (go_simp; done) | (go_simp; with_reducible rfl))
        try simp only [Act.put, List.setIfInBounds_toArray, List.set_cons_zero, List.set_cons_succ]
        refine takeZ (i := 2) (oi := { dst := some 42, op := Go.Op.move (Go.Operand.tmp 9), type := 3, pos := _, after := _, guard := none }) (v := ?_) rfl (by kernel_rfl) (by kernel_rfl) (by kernel_rfl) (by kernel_rfl) (fun _ _ _ h => h) (Or.inl ⟨by rfl, ?_⟩) (by assumption) ?_
        rotate_left
        · intro w hSw; (try dsimp only at hSw); (try obtain ⟨s0, s1, s2, s3, s4, s5⟩ := hSw); (first | (go_simp; done) | (go_simp; with_reducible rfl))
        try simp only [Act.put, List.setIfInBounds_toArray, List.set_cons_zero, List.set_cons_succ]
        refine takeZ (i := 3) (oi := { dst := some 43, op := Go.Op.slice 22 (Go.Operand.tmp 41) none (some (Go.Operand.tmp 42)) none, type := 22, pos := _, after := _, guard := none }) (v := ?_) rfl (by kernel_rfl) (by kernel_rfl) (by kernel_rfl) (by kernel_rfl) (fun _ _ _ h => h) (Or.inl ⟨by rfl, ?_⟩) (by assumption) ?_
        rotate_left
        · intro w hSw; (try dsimp only at hSw); (try obtain ⟨s0, s1, s2, s3, s4, s5⟩ := hSw); (first | (go_simp; done) | (go_simp; with_reducible rfl))
        try simp only [Act.put, List.setIfInBounds_toArray, List.set_cons_zero, List.set_cons_succ]
        refine takeZ (i := 4) (oi := { dst := some 44, op := Go.Op.load 9 (Go.Operand.tmp 4), type := 9, pos := _, after := _, guard := none }) (v := ?_) rfl (by kernel_rfl) (by kernel_rfl) (by kernel_rfl) (by kernel_rfl) (fun _ _ _ h => h) (Or.inl ⟨by rfl, ?_⟩) (by assumption) ?_
        rotate_left
        · intro w hSw; (try dsimp only at hSw); (try obtain ⟨s0, s1, s2, s3, s4, s5⟩ := hSw); (first | (go_simp; done) | (go_simp; with_reducible rfl))
        try simp only [Act.put, List.setIfInBounds_toArray, List.set_cons_zero, List.set_cons_succ]
        refine takeZ (i := 6) (oi := { dst := some 46, op := Go.Op.load 24 (Go.Operand.tmp 5), type := 24, pos := _, after := _, guard := none }) (v := ?_) rfl (by kernel_rfl) (by kernel_rfl) (by kernel_rfl) (by kernel_rfl) (fun _ _ _ h => h) (Or.inl ⟨by rfl, ?_⟩) (by assumption) ?_
        rotate_left
        · intro w hSw; (try dsimp only at hSw); (try obtain ⟨s0, s1, s2, s3, s4, s5⟩ := hSw); (first | (go_simp; done) | (go_simp; with_reducible rfl))
        try simp only [Act.put, List.setIfInBounds_toArray, List.set_cons_zero, List.set_cons_succ]
        refine takeZ (i := 8) (oi := { dst := some 48, op := Go.Op.fieldAddr 24 (Go.Operand.tmp 3) 3, type := 0, pos := _, after := _, guard := none }) (v := ?_) rfl (by kernel_rfl) (by kernel_rfl) (by kernel_rfl) (by kernel_rfl) (fun _ _ _ h => h) (Or.inl ⟨by rfl, ?_⟩) (by assumption) ?_
        rotate_left
        · intro w hSw; (try dsimp only at hSw); (try obtain ⟨s0, s1, s2, s3, s4, s5⟩ := hSw); (first | (go_simp; done) | (go_simp; with_reducible rfl))
        try simp only [Act.put, List.setIfInBounds_toArray, List.set_cons_zero, List.set_cons_succ]
        refine takeZ (i := 9) (oi := { dst := some 49, op := Go.Op.load 22 (Go.Operand.tmp 48), type := 22, pos := _, after := _, guard := none }) (v := ?_) rfl (by kernel_rfl) (by kernel_rfl) (by kernel_rfl) (by kernel_rfl) (fun _ _ _ h => h) (Or.inl ⟨by rfl, ?_⟩) (by assumption) ?_
        rotate_left
        · intro w hSw; (try dsimp only at hSw); (try obtain ⟨s0, s1, s2, s3, s4, s5⟩ := hSw); (first | (go_simp; done) | (go_simp; with_reducible rfl))
        try simp only [Act.put, List.setIfInBounds_toArray, List.set_cons_zero, List.set_cons_succ]
        refine takeZ (i := 10) (oi := { dst := some 50, op := Go.Op.move (Go.Operand.tmp 9), type := 3, pos := _, after := _, guard := none }) (v := ?_) rfl (by kernel_rfl) (by kernel_rfl) (by kernel_rfl) (by kernel_rfl) (fun _ _ _ h => h) (Or.inl ⟨by rfl, ?_⟩) (by assumption) ?_
        rotate_left
        · intro w hSw; (try dsimp only at hSw); (try obtain ⟨s0, s1, s2, s3, s4, s5⟩ := hSw); (first | (go_simp; done) | (go_simp; with_reducible rfl))
        try simp only [Act.put, List.setIfInBounds_toArray, List.set_cons_zero, List.set_cons_succ]
        refine takeZ (i := 11) (oi := { dst := some 51, op := Go.Op.slice 22 (Go.Operand.tmp 49) (some (Go.Operand.tmp 50)) none none, type := 22, pos := _, after := _, guard := none }) (v := ?_) rfl (by kernel_rfl) (by kernel_rfl) (by kernel_rfl) (by kernel_rfl) (fun _ _ _ h => h) (Or.inl ⟨by rfl, ?_⟩) (by assumption) ?_
        rotate_left
        · intro w hSw; (try dsimp only at hSw); (try obtain ⟨s0, s1, s2, s3, s4, s5⟩ := hSw); (first | (go_simp; done) | (go_simp; with_reducible rfl))
        try simp only [Act.put, List.setIfInBounds_toArray, List.set_cons_zero, List.set_cons_succ]
        refine oneZ (i := 5) (o := { dst := some 45, op := Go.Op.call { callee := Go.Callee.value (Go.Operand.func 26), args := #[Go.Operand.tmp 44], argTypes := #[9] }, type := 24, pos := _, after := _, guard := none }) (by kernel_rfl) rfl (by decide) (fun K hK => ?_)
        go_simp
        (go_at_call 26; refine (HNX.out _).mono ?_; rintro e w5 ⟨rfl, hc5⟩; have hq5 := HQ2.out.call ((Chg.refl NoS _).drew.trans hc5 (fun _ _ e => e)))
        refine hK.out _ _ hq5.held (fun hHeld => ?_)
        clear hK K
        try simp only [Act.put, List.setIfInBounds_toArray, List.set_cons_zero, List.set_cons_succ]
        refine oneZ (i := 7) (o := { dst := some 47, op := Go.Op.buildSlice 22 2 #[(0, Go.Operand.tmp 45), (1, Go.Operand.tmp 46)], type := 22, pos := _, after := _, guard := none }) (by kernel_rfl) rfl (by decide) (fun K hK => ?_)
        go_simp
        refine hK.out _ _ (hq5.call ((Chg.refl NoS w5).alloc _)).held (fun hHeld => ?_)
        clear hK K
        try simp only [Act.put, List.setIfInBounds_toArray, List.set_cons_zero, List.set_cons_succ]
        refine oneZ (i := 12) (o := { dst := some 52, op := Go.Op.buildSlice 56 3 #[(0, Go.Operand.tmp 43), (1, Go.Operand.tmp 47), (2, Go.Operand.tmp 51)], type := 56, pos := _, after := _, guard := none }) (by kernel_rfl) rfl (by decide) (fun K hK => ?_)
        go_simp
        refine hK.out _ _ (hq5.call (((Chg.refl NoS w5).alloc _).alloc _)).held (fun hHeld => ?_)
        clear hK K
        try simp only [Act.put, List.setIfInBounds_toArray, List.set_cons_zero, List.set_cons_succ]
        refine oneZ (i := 13) (o := { dst := some 53, op := Go.Op.call { callee := Go.Callee.value (Go.Operand.func 43), args := #[Go.Operand.tmp 52], argTypes := #[56] }, type := 22, pos := _, after := _, guard := none }) (by kernel_rfl) rfl (by decide) (fun K hK => ?_)
        go_simp
        (go_at_call 43; refine (HCT.out es w5 _ _ _ _ ((Chg.refl NoS _).drew.trans hc5 (fun _ _ e => e)) HP1.out HP2.out).mono ?_; rintro e w4 ⟨A3, c3, rfl, hx4, hp4⟩)
        refine hK.out _ _ hp4.held (fun hHeld => ?_)
        clear hK K
        try simp only [Act.put, List.setIfInBounds_toArray, List.set_cons_zero, List.set_cons_succ]
        refine takeZ (i := 14) (oi := { dst := some 54, op := Go.Op.fieldAddr 24 (Go.Operand.tmp 3) 3, type := 0, pos := _, after := _, guard := none }) (v := ?_) rfl (by kernel_rfl) (by kernel_rfl) (by kernel_rfl) (by kernel_rfl) (fun _ _ _ h => h) (Or.inl ⟨by rfl, ?_⟩) (by assumption) ?_
        rotate_left
        · intro w hSw; (try dsimp only at hSw); (try obtain ⟨s0, s1, s2, s3, s4, s5⟩ := hSw); (first | (go_simp; done) | (go_simp; with_reducible rfl))
        try simp only [Act.put, List.setIfInBounds_toArray, List.set_cons_zero, List.set_cons_succ]
        refine lastZ (o := { dst := none, op := Go.Op.store 22 (Go.Operand.tmp 54) (Go.Operand.tmp 53), type := 0, pos := _, after := _, guard := none }) (by kernel_rfl) rfl (by kernel_rfl) (fun K hK => ?_)
        have z3 := hx4.b.blk.frozen 3
        have q3 := hx4.b.blk.cell 3
        simp at q3
        go_simp
        refine hK.out _ _ ?_
        clear hK K
        try simp only [Act.put, List.setIfInBounds_toArray, List.set_cons_zero, List.set_cons_succ]
        go_wp2_with fail
        go_meet
        exact ⟨_, A3, c3, hx4.put⟩
      case rest =>
        clear p0 p1 p2 p3 x0 x1 x2 x3 k0
        obtain ⟨es9, A3, c3, HB9⟩ := hcut
        have q0 := HB9.out.b.blk.cell 0
        have q1 := HB9.out.b.blk.cell 1
        have q2 := HB9.out.b.blk.cell 2
        have q3 := HB9.out.b.blk.cell 3
        have HO9 := keepf HB9.out.o
        simp at q0 q1 q2 q3
        have z0 := HO9.out.blk.frozen 0
        have z1 := HO9.out.blk.frozen 1
        have z2 := HO9.out.blk.frozen 2
        have z3 := HO9.out.blk.frozen 3
        have y0 := HO9.out.blk.cell 0
        have y1 := HO9.out.blk.cell 1
        have y2 := HO9.out.blk.cell 2
        have y3 := HO9.out.blk.cell 3
        simp at y0 y1 y2 y3
        go_wp2_with fail
        try simp only [Exit.noGoto_ret]
        clear y0 y1 y2 y3
        obtain ⟨hb, hvv, hcc⟩ := HB9.out.fin (k := 7) (n := n) (s := s) rfl (by unfold maxLen; omega) HGD.out.k HGD.out.n HGD.out.s _ rfl
        have r0 := hb.blk.cell 0
        have r1 := hb.blk.cell 1
        have r2 := hb.blk.cell 2
        have r3 := hb.blk.cell 3
        simp at r0 r1 r2 r3
        refine bodyPost_ret (v := .agg #[.int .i64 7, .int .i64 n, .string s, .slice A3 N c3]) (by simp [results, Try.results21, go_sem, r0, r1, r2, r3]) rfl ?_
        exact ⟨⟨7, n, s, A3, N, c3⟩, rfl, by rw [HE.out]; exact hvv, hcc⟩
    · obtain rfl : len = 0 := by omega
      obtain rfl : p = 0 := by omega
      have hl0 : l = [] := List.length_eq_zero_iff.1 HL.out
      subst hl0
      have HPN : Hid (∀ (B : Option Addr) (c' : Nat), (B = none → c' = 0) → ∀ W, Chg NoS w W → PcV w W B 0 c' (([] : List VC).take 0) (([] : List VT).take 0)) := fun B c' h W _ => pc_nil h
      have HPD : Hid (∀ (B : Option Addr) (c' : Nat), (B = none → c' = 0) → ∀ W, Chg NoS w W → PcV w W B (0 - 0) c' (([] : List VC).drop 0) (([] : List VT).drop 0)) := fun B c' h W _ => pc_nil h
      have hnil := HGD.out.nil
      simp only [] at hnil
      have j1 : (0 : Int) ≤ cap := by omega
      clear h0
      cases A with
      | none =>
        obtain rfl : cap = 0 := (hnil rfl).2
        clear hnil
        go_cut [] from 40 to 54 (fun wx => ∃ (es9 : List VC) (A3 : Option Addr) (c3 : Nat), Hid (Bx w wx g go #[.int .i64 7, .int .i64 n, .string s, .slice A3 N c3] #[.int .i64 0, .int .i64 0, .string ⟨#[]⟩, .slice none 0 0] es9 (([] : List VT).take 0 ++ ([nmT key, tx] ++ ([] : List VT).drop 0)) N A3 c3))
        case first =>
          refine startZ (fun w' => w'.cell? ⟨g, 3, none⟩ = some (.slice none 0 0) ∧ w'.cell? ⟨gk, 0, none⟩ = some (.string key) ∧ w'.cell? ⟨gx, 0, none⟩ = some (.int .i64 xk) ∧ w'.cell? ⟨gx, 1, none⟩ = some (.int .i64 xn) ∧ w'.cell? ⟨gx, 2, none⟩ = some (.string xs) ∧ w'.cell? ⟨gx, 3, none⟩ = some (.slice xA xl xc)) 15 (by kernel_rfl) (HQ2.out.call (Chg.refl NoS w2).drew).held (fun hHeld => ?_)
          refine takeZ (i := 0) (oi := { dst := some 40, op := Go.Op.fieldAddr 24 (Go.Operand.tmp 3) 3, type := 0, pos := _, after := _, guard := none }) (v := ?_) rfl (by kernel_rfl) (by kernel_rfl) (by kernel_rfl) (by kernel_rfl) (fun _ _ _ h => h) (Or.inl ⟨by rfl, ?_⟩) (by assumption) ?_
          rotate_left
          · intro w hSw; (try dsimp only at hSw); (try obtain ⟨s0, s1, s2, s3, s4, s5⟩ := hSw); (first | (go_simp; done) | (go_simp; with_reducible rfl))
          try simp only [Act.put, List.setIfInBounds_toArray, List.set_cons_zero, List.set_cons_succ]
          refine takeZ (i := 1) (oi := { dst := some 41, op := Go.Op.load 22 (Go.Operand.tmp 40), type := 22, pos := _, after := _, guard := none }) (v := ?_) rfl (by kernel_rfl) (by kernel_rfl) (by kernel_rfl) (by kernel_rfl) (fun _ _ _ h => h) (Or.inl ⟨by rfl, ?_⟩) (by assumption) ?_
          rotate_left
          · intro w hSw; (try dsimp only at hSw); (try obtain ⟨s0, s1, s2, s3, s4, s5⟩ := hSw); (first | (go_simp; done) | (go_simp; with_reducible rfl))
          try simp only [Act.put, List.setIfInBounds_toArray, List.set_cons_zero, List.set_cons_succ]
          refine takeZ (i := 2) (oi := { dst := some 42, op := Go.Op.move (Go.Operand.tmp 9), type := 3, pos := _, after := _, guard := none }) (v := ?_) rfl (by kernel_rfl) (by kernel_rfl) (by kernel_rfl) (by kernel_rfl) (fun _ _ _ h => h) (Or.inl ⟨by rfl, ?_⟩) (by assumption) ?_
          rotate_left
          · intro w hSw; (try dsimp only at hSw); (try obtain ⟨s0, s1, s2, s3, s4, s5⟩ := hSw); (first | (go_simp; done) | (go_simp; with_reducible rfl))
          try simp only [Act.put, List.setIfInBounds_toArray, List.set_cons_zero, List.set_cons_succ]
          refine takeZ (i := 3) (oi := { dst := some 43, op := Go.Op.slice 22 (Go.Operand.tmp 41) none (some (Go.Operand.tmp 42)) none, type := 22, pos := _, after := _, guard := none }) (v := ?_) rfl (by kernel_rfl) (by kernel_rfl) (by kernel_rfl) (by kernel_rfl) (fun _ _ _ h => h) (Or.inl ⟨by rfl, ?_⟩) (by assumption) ?_
          rotate_left
          · intro w hSw; (try dsimp only at hSw); (try obtain ⟨s0, s1, s2, s3, s4, s5⟩ := hSw); (first | (go_simp; done) | (go_simp; with_reducible rfl))
          try simp only [Act.put, List.setIfInBounds_toArray, List.set_cons_zero, List.set_cons_succ]
          refine takeZ (i := 4) (oi := { dst := some 44, op := Go.Op.load 9 (Go.Operand.tmp 4), type := 9, pos := _, after := _, guard := none }) (v := ?_) rfl (by kernel_rfl) (by kernel_rfl) (by kernel_rfl) (by kernel_rfl) (fun _ _ _ h => h) (Or.inl ⟨by rfl, ?_⟩) (by assumption) ?_
          rotate_left
          · intro w hSw; (try dsimp only at hSw); (try obtain ⟨s0, s1, s2, s3, s4, s5⟩ := hSw); (first | (go_simp; done) | (go_simp; with_reducible rfl))
          try simp only [Act.put, List.setIfInBounds_toArray, List.set_cons_zero, List.set_cons_succ]
          refine takeZ (i := 6) (oi := { dst := some 46, op := Go.Op.load 24 (Go.Operand.tmp 5), type := 24, pos := _, after := _, guard := none }) (v := ?_) rfl (by kernel_rfl) (by kernel_rfl) (by kernel_rfl) (by kernel_rfl) (fun _ _ _ h => h) (Or.inl ⟨by rfl, ?_⟩) (by assumption) ?_
          rotate_left
          · intro w hSw; (try dsimp only at hSw); (try obtain ⟨s0, s1, s2, s3, s4, s5⟩ := hSw); (first | (go_simp; done) | (go_simp; with_reducible rfl))
          try simp only [Act.put, List.setIfInBounds_toArray, List.set_cons_zero, List.set_cons_succ]
          refine takeZ (i := 8) (oi := { dst := some 48, op := Go.Op.fieldAddr 24 (Go.Operand.tmp 3) 3, type := 0, pos := _, after := _, guard := none }) (v := ?_) rfl (by kernel_rfl) (by kernel_rfl) (by kernel_rfl) (by kernel_rfl) (fun _ _ _ h => h) (Or.inl ⟨by rfl, ?_⟩) (by assumption) ?_
          rotate_left
          · intro w hSw; (try dsimp only at hSw); (try obtain ⟨s0, s1, s2, s3, s4, s5⟩ := hSw); (first | (go_simp; done) | (go_simp; with_reducible rfl))
          try simp only [Act.put, List.setIfInBounds_toArray, List.set_cons_zero, List.set_cons_succ]
          refine takeZ (i := 9) (oi := { dst := some 49, op := Go.Op.load 22 (Go.Operand.tmp 48), type := 22, pos := _, after := _, guard := none }) (v := ?_) rfl (by kernel_rfl) (by kernel_rfl) (by kernel_rfl) (by kernel_rfl) (fun _ _ _ h => h) (Or.inl ⟨by rfl, ?_⟩) (by assumption) ?_
          rotate_left
          · intro w hSw; (try dsimp only at hSw); (try obtain ⟨s0, s1, s2, s3, s4, s5⟩ := hSw); (first | (go_simp; done) | (go_simp; with_reducible rfl))
          try simp only [Act.put, List.setIfInBounds_toArray, List.set_cons_zero, List.set_cons_succ]
          refine takeZ (i := 10) (oi := { dst := some 50, op := Go.Op.move (Go.Operand.tmp 9), type := 3, pos := _, after := _, guard := none }) (v := ?_) rfl (by kernel_rfl) (by kernel_rfl) (by kernel_rfl) (by kernel_rfl) (fun _ _ _ h => h) (Or.inl ⟨by rfl, ?_⟩) (by assumption) ?_
          rotate_left
          · intro w hSw; (try dsimp only at hSw); (try obtain ⟨s0, s1, s2, s3, s4, s5⟩ := hSw); (first | (go_simp; done) | (go_simp; with_reducible rfl))
          try simp only [Act.put, List.setIfInBounds_toArray, List.set_cons_zero, List.set_cons_succ]
          refine takeZ (i := 11) (oi := { dst := some 51, op := Go.Op.slice 22 (Go.Operand.tmp 49) (some (Go.Operand.tmp 50)) none none, type := 22, pos := _, after := _, guard := none }) (v := ?_) rfl (by kernel_rfl) (by kernel_rfl) (by kernel_rfl) (by kernel_rfl) (fun _ _ _ h => h) (Or.inl ⟨by rfl, ?_⟩) (by assumption) ?_
          rotate_left
          · intro w hSw; (try dsimp only at hSw); (try obtain ⟨s0, s1, s2, s3, s4, s5⟩ := hSw); (first | (go_simp; done) | (go_simp; with_reducible rfl))
          try simp only [Act.put, List.setIfInBounds_toArray, List.set_cons_zero, List.set_cons_succ]
          refine oneZ (i := 5) (o := { dst := some 45, op := Go.Op.call { callee := Go.Callee.value (Go.Operand.func 26), args := #[Go.Operand.tmp 44], argTypes := #[9] }, type := 24, pos := _, after := _, guard := none }) (by kernel_rfl) rfl (by decide) (fun K hK => ?_)
          go_simp
          (go_at_call 26; refine (HNX.out _).mono ?_; rintro e w5 ⟨rfl, hc5⟩; have hq5 := HQ2.out.call ((Chg.refl NoS _).drew.trans hc5 (fun _ _ e => e)))
          refine hK.out _ _ hq5.held (fun hHeld => ?_)
          clear hK K
          try simp only [Act.put, List.setIfInBounds_toArray, List.set_cons_zero, List.set_cons_succ]
          refine oneZ (i := 7) (o := { dst := some 47, op := Go.Op.buildSlice 22 2 #[(0, Go.Operand.tmp 45), (1, Go.Operand.tmp 46)], type := 22, pos := _, after := _, guard := none }) (by kernel_rfl) rfl (by decide) (fun K hK => ?_)
          go_simp
          refine hK.out _ _ (hq5.call ((Chg.refl NoS w5).alloc _)).held (fun hHeld => ?_)
          clear hK K
          try simp only [Act.put, List.setIfInBounds_toArray, List.set_cons_zero, List.set_cons_succ]
          refine oneZ (i := 12) (o := { dst := some 52, op := Go.Op.buildSlice 56 3 #[(0, Go.Operand.tmp 43), (1, Go.Operand.tmp 47), (2, Go.Operand.tmp 51)], type := 56, pos := _, after := _, guard := none }) (by kernel_rfl) rfl (by decide) (fun K hK => ?_)
          go_simp
          refine hK.out _ _ (hq5.call (((Chg.refl NoS w5).alloc _).alloc _)).held (fun hHeld => ?_)
          clear hK K
          try simp only [Act.put, List.setIfInBounds_toArray, List.set_cons_zero, List.set_cons_succ]
          refine oneZ (i := 13) (o := { dst := some 53, op := Go.Op.call { callee := Go.Callee.value (Go.Operand.func 43), args := #[Go.Operand.tmp 52], argTypes := #[56] }, type := 22, pos := _, after := _, guard := none }) (by kernel_rfl) rfl (by decide) (fun K hK => ?_)
          go_simp
          (go_at_call 43; refine (HCT.out [] w5 _ _ _ _ ((Chg.refl NoS _).drew.trans hc5 (fun _ _ e => e)) (HPN.out none 0 (fun _ => rfl)) (HPD.out none 0 (fun _ => rfl))).mono ?_; rintro e w4 ⟨A3, c3, rfl, hx4, hp4⟩)
          refine hK.out _ _ hp4.held (fun hHeld => ?_)
          clear hK K
          try simp only [Act.put, List.setIfInBounds_toArray, List.set_cons_zero, List.set_cons_succ]
          refine takeZ (i := 14) (oi := { dst := some 54, op := Go.Op.fieldAddr 24 (Go.Operand.tmp 3) 3, type := 0, pos := _, after := _, guard := none }) (v := ?_) rfl (by kernel_rfl) (by kernel_rfl) (by kernel_rfl) (by kernel_rfl) (fun _ _ _ h => h) (Or.inl ⟨by rfl, ?_⟩) (by assumption) ?_
          rotate_left
          · intro w hSw; (try dsimp only at hSw); (try obtain ⟨s0, s1, s2, s3, s4, s5⟩ := hSw); (first | (go_simp; done) | (go_simp; with_reducible rfl))
          try simp only [Act.put, List.setIfInBounds_toArray, List.set_cons_zero, List.set_cons_succ]
          refine lastZ (o := { dst := none, op := Go.Op.store 22 (Go.Operand.tmp 54) (Go.Operand.tmp 53), type := 0, pos := _, after := _, guard := none }) (by kernel_rfl) rfl (by kernel_rfl) (fun K hK => ?_)
          have z3 := hx4.b.blk.frozen 3
          have q3 := hx4.b.blk.cell 3
          simp at q3
          go_simp
          refine hK.out _ _ ?_
          clear hK K
          try simp only [Act.put, List.setIfInBounds_toArray, List.set_cons_zero, List.set_cons_succ]
          go_wp2_with fail
          go_meet
          exact ⟨_, A3, c3, hx4.put⟩
        case rest =>
          clear p0 p1 p2 p3 x0 x1 x2 x3 k0
          obtain ⟨es9, A3, c3, HB9⟩ := hcut
          have q0 := HB9.out.b.blk.cell 0
          have q1 := HB9.out.b.blk.cell 1
          have q2 := HB9.out.b.blk.cell 2
          have q3 := HB9.out.b.blk.cell 3
          have HO9 := keepf HB9.out.o
          simp at q0 q1 q2 q3
          have z0 := HO9.out.blk.frozen 0
          have z1 := HO9.out.blk.frozen 1
          have z2 := HO9.out.blk.frozen 2
          have z3 := HO9.out.blk.frozen 3
          have y0 := HO9.out.blk.cell 0
          have y1 := HO9.out.blk.cell 1
          have y2 := HO9.out.blk.cell 2
          have y3 := HO9.out.blk.cell 3
          simp at y0 y1 y2 y3
          go_wp2_with fail
          try simp only [Exit.noGoto_ret]
          clear y0 y1 y2 y3
          obtain ⟨hb, hvv, hcc⟩ := HB9.out.fin (k := 7) (n := n) (s := s) rfl (by unfold maxLen; omega) HGD.out.k HGD.out.n HGD.out.s _ rfl
          have r0 := hb.blk.cell 0
          have r1 := hb.blk.cell 1
          have r2 := hb.blk.cell 2
          have r3 := hb.blk.cell 3
          simp at r0 r1 r2 r3
          refine bodyPost_ret (v := .agg #[.int .i64 7, .int .i64 n, .string s, .slice A3 N c3]) (by simp [results, Try.results21, go_sem, r0, r1, r2, r3]) rfl ?_
          exact ⟨⟨7, n, s, A3, N, c3⟩, rfl, by rw [HE.out]; exact hvv, hcc⟩
      | some ad =>
        clear hnil
        go_cut [] from 40 to 54 (fun wx => ∃ (es9 : List VC) (A3 : Option Addr) (c3 : Nat), Hid (Bx w wx g go #[.int .i64 7, .int .i64 n, .string s, .slice A3 N c3] #[.int .i64 0, .int .i64 0, .string ⟨#[]⟩, .slice none 0 0] es9 (([] : List VT).take 0 ++ ([nmT key, tx] ++ ([] : List VT).drop 0)) N A3 c3))
        case first =>
          refine startZ (fun w' => w'.cell? ⟨g, 3, none⟩ = some (.slice (some ad) 0 cap) ∧ w'.cell? ⟨gk, 0, none⟩ = some (.string key) ∧ w'.cell? ⟨gx, 0, none⟩ = some (.int .i64 xk) ∧ w'.cell? ⟨gx, 1, none⟩ = some (.int .i64 xn) ∧ w'.cell? ⟨gx, 2, none⟩ = some (.string xs) ∧ w'.cell? ⟨gx, 3, none⟩ = some (.slice xA xl xc)) 15 (by kernel_rfl) (HQ2.out.call (Chg.refl NoS w2).drew).held (fun hHeld => ?_)
          refine takeZ (i := 0) (oi := { dst := some 40, op := Go.Op.fieldAddr 24 (Go.Operand.tmp 3) 3, type := 0, pos := _, after := _, guard := none }) (v := ?_) rfl (by kernel_rfl) (by kernel_rfl) (by kernel_rfl) (by kernel_rfl) (fun _ _ _ h => h) (Or.inl ⟨by rfl, ?_⟩) (by assumption) ?_
          rotate_left
          · intro w hSw; (try dsimp only at hSw); (try obtain ⟨s0, s1, s2, s3, s4, s5⟩ := hSw); (first | (go_simp; done) | (go_simp; with_reducible rfl))
          try simp only [Act.put, List.setIfInBounds_toArray, List.set_cons_zero, List.set_cons_succ]
          refine takeZ (i := 1) (oi := { dst := some 41, op := Go.Op.load 22 (Go.Operand.tmp 40), type := 22, pos := _, after := _, guard := none }) (v := ?_) rfl (by kernel_rfl) (by kernel_rfl) (by kernel_rfl) (by kernel_rfl) (fun _ _ _ h => h) (Or.inl ⟨by rfl, ?_⟩) (by assumption) ?_
          rotate_left
          · intro w hSw; (try dsimp only at hSw); (try obtain ⟨s0, s1, s2, s3, s4, s5⟩ := hSw); (first | (go_simp; done) | (go_simp; with_reducible rfl))
          try simp only [Act.put, List.setIfInBounds_toArray, List.set_cons_zero, List.set_cons_succ]
          refine takeZ (i := 2) (oi := { dst := some 42, op := Go.Op.move (Go.Operand.tmp 9), type := 3, pos := _, after := _, guard := none }) (v := ?_) rfl (by kernel_rfl) (by kernel_rfl) (by kernel_rfl) (by kernel_rfl) (fun _ _ _ h => h) (Or.inl ⟨by rfl, ?_⟩) (by assumption) ?_
          rotate_left
          · intro w hSw; (try dsimp only at hSw); (try obtain ⟨s0, s1, s2, s3, s4, s5⟩ := hSw); (first | (go_simp; done) | (go_simp; with_reducible rfl))
          try simp only [Act.put, List.setIfInBounds_toArray, List.set_cons_zero, List.set_cons_succ]
          refine takeZ (i := 3) (oi := { dst := some 43, op := Go.Op.slice 22 (Go.Operand.tmp 41) none (some (Go.Operand.tmp 42)) none, type := 22, pos := _, after := _, guard := none }) (v := ?_) rfl (by kernel_rfl) (by kernel_rfl) (by kernel_rfl) (by kernel_rfl) (fun _ _ _ h => h) (Or.inl ⟨by rfl, ?_⟩) (by assumption) ?_
          rotate_left
          · intro w hSw; (try dsimp only at hSw); (try obtain ⟨s0, s1, s2, s3, s4, s5⟩ := hSw); (first | (go_simp; done) | (go_simp; with_reducible rfl))
          try simp only [Act.put, List.setIfInBounds_toArray, List.set_cons_zero, List.set_cons_succ]
          refine takeZ (i := 4) (oi := { dst := some 44, op := Go.Op.load 9 (Go.Operand.tmp 4), type := 9, pos := _, after := _, guard := none }) (v := ?_) rfl (by kernel_rfl) (by kernel_rfl) (by kernel_rfl) (by kernel_rfl) (fun _ _ _ h => h) (Or.inl ⟨by rfl, ?_⟩) (by assumption) ?_
          rotate_left
          · intro w hSw; (try dsimp only at hSw); (try obtain ⟨s0, s1, s2, s3, s4, s5⟩ := hSw); (first | (go_simp; done) | (go_simp; with_reducible rfl))
          try simp only [Act.put, List.setIfInBounds_toArray, List.set_cons_zero, List.set_cons_succ]
          refine takeZ (i := 6) (oi := { dst := some 46, op := Go.Op.load 24 (Go.Operand.tmp 5), type := 24, pos := _, after := _, guard := none }) (v := ?_) rfl (by kernel_rfl) (by kernel_rfl) (by kernel_rfl) (by kernel_rfl) (fun _ _ _ h => h) (Or.inl ⟨by rfl, ?_⟩) (by assumption) ?_
          rotate_left
          · intro w hSw; (try dsimp only at hSw); (try obtain ⟨s0, s1, s2, s3, s4, s5⟩ := hSw); (first | (go_simp; done) | (go_simp; with_reducible rfl))
          try simp only [Act.put, List.setIfInBounds_toArray, List.set_cons_zero, List.set_cons_succ]
          refine takeZ (i := 8) (oi := { dst := some 48, op := Go.Op.fieldAddr 24 (Go.Operand.tmp 3) 3, type := 0, pos := _, after := _, guard := none }) (v := ?_) rfl (by kernel_rfl) (by kernel_rfl) (by kernel_rfl) (by kernel_rfl) (fun _ _ _ h => h) (Or.inl ⟨by rfl, ?_⟩) (by assumption) ?_
          rotate_left
          · intro w hSw; (try dsimp only at hSw); (try obtain ⟨s0, s1, s2, s3, s4, s5⟩ := hSw); (first | (go_simp; done) | (go_simp; with_reducible rfl))
          try simp only [Act.put, List.setIfInBounds_toArray, List.set_cons_zero, List.set_cons_succ]
          refine takeZ (i := 9) (oi := { dst := some 49, op := Go.Op.load 22 (Go.Operand.tmp 48), type := 22, pos := _, after := _, guard := none }) (v := ?_) rfl (by kernel_rfl) (by kernel_rfl) (by kernel_rfl) (by kernel_rfl) (fun _ _ _ h => h) (Or.inl ⟨by rfl, ?_⟩) (by assumption) ?_
          rotate_left
          · intro w hSw; (try dsimp only at hSw); (try obtain ⟨s0, s1, s2, s3, s4, s5⟩ := hSw); (first | (go_simp; done) | (go_simp; with_reducible rfl))
          try simp only [Act.put, List.setIfInBounds_toArray, List.set_cons_zero, List.set_cons_succ]
          refine takeZ (i := 10) (oi := { dst := some 50, op := Go.Op.move (Go.Operand.tmp 9), type := 3, pos := _, after := _, guard := none }) (v := ?_) rfl (by kernel_rfl) (by kernel_rfl) (by kernel_rfl) (by kernel_rfl) (fun _ _ _ h => h) (Or.inl ⟨by rfl, ?_⟩) (by assumption) ?_
          rotate_left
          · intro w hSw; (try dsimp only at hSw); (try obtain ⟨s0, s1, s2, s3, s4, s5⟩ := hSw); (first | (go_simp; done) | (go_simp; with_reducible rfl))
          try simp only [Act.put, List.setIfInBounds_toArray, List.set_cons_zero, List.set_cons_succ]
          refine takeZ (i := 11) (oi := { dst := some 51, op := Go.Op.slice 22 (Go.Operand.tmp 49) (some (Go.Operand.tmp 50)) none none, type := 22, pos := _, after := _, guard := none }) (v := ?_) rfl (by kernel_rfl) (by kernel_rfl) (by kernel_rfl) (by kernel_rfl) (fun _ _ _ h => h) (Or.inl ⟨by rfl, ?_⟩) (by assumption) ?_
          rotate_left
          · intro w hSw; (try dsimp only at hSw); (try obtain ⟨s0, s1, s2, s3, s4, s5⟩ := hSw); (first | (go_simp; done) | (go_simp; with_reducible rfl))
          try simp only [Act.put, List.setIfInBounds_toArray, List.set_cons_zero, List.set_cons_succ]
          refine oneZ (i := 5) (o := { dst := some 45, op := Go.Op.call { callee := Go.Callee.value (Go.Operand.func 26), args := #[Go.Operand.tmp 44], argTypes := #[9] }, type := 24, pos := _, after := _, guard := none }) (by kernel_rfl) rfl (by decide) (fun K hK => ?_)
          go_simp
          (go_at_call 26; refine (HNX.out _).mono ?_; rintro e w5 ⟨rfl, hc5⟩; have hq5 := HQ2.out.call ((Chg.refl NoS _).drew.trans hc5 (fun _ _ e => e)))
          refine hK.out _ _ hq5.held (fun hHeld => ?_)
          clear hK K
          try simp only [Act.put, List.setIfInBounds_toArray, List.set_cons_zero, List.set_cons_succ]
          refine oneZ (i := 7) (o := { dst := some 47, op := Go.Op.buildSlice 22 2 #[(0, Go.Operand.tmp 45), (1, Go.Operand.tmp 46)], type := 22, pos := _, after := _, guard := none }) (by kernel_rfl) rfl (by decide) (fun K hK => ?_)
          go_simp
          refine hK.out _ _ (hq5.call ((Chg.refl NoS w5).alloc _)).held (fun hHeld => ?_)
          clear hK K
          try simp only [Act.put, List.setIfInBounds_toArray, List.set_cons_zero, List.set_cons_succ]
          refine oneZ (i := 12) (o := { dst := some 52, op := Go.Op.buildSlice 56 3 #[(0, Go.Operand.tmp 43), (1, Go.Operand.tmp 47), (2, Go.Operand.tmp 51)], type := 56, pos := _, after := _, guard := none }) (by kernel_rfl) rfl (by decide) (fun K hK => ?_)
          go_simp
          refine hK.out _ _ (hq5.call (((Chg.refl NoS w5).alloc _).alloc _)).held (fun hHeld => ?_)
          clear hK K
          try simp only [Act.put, List.setIfInBounds_toArray, List.set_cons_zero, List.set_cons_succ]
          refine oneZ (i := 13) (o := { dst := some 53, op := Go.Op.call { callee := Go.Callee.value (Go.Operand.func 43), args := #[Go.Operand.tmp 52], argTypes := #[56] }, type := 22, pos := _, after := _, guard := none }) (by kernel_rfl) rfl (by decide) (fun K hK => ?_)
          go_simp
          (go_at_call 43; refine (HCT.out [] w5 _ _ _ _ ((Chg.refl NoS _).drew.trans hc5 (fun _ _ e => e)) (HPN.out (some ad) cap (fun e => (by cases e))) (HPD.out (some ad) cap (fun e => (by cases e)))).mono ?_; rintro e w4 ⟨A3, c3, rfl, hx4, hp4⟩)
          refine hK.out _ _ hp4.held (fun hHeld => ?_)
          clear hK K
          try simp only [Act.put, List.setIfInBounds_toArray, List.set_cons_zero, List.set_cons_succ]
          refine takeZ (i := 14) (oi := { dst := some 54, op := Go.Op.fieldAddr 24 (Go.Operand.tmp 3) 3, type := 0, pos := _, after := _, guard := none }) (v := ?_) rfl (by kernel_rfl) (by kernel_rfl) (by kernel_rfl) (by kernel_rfl) (fun _ _ _ h => h) (Or.inl ⟨by rfl, ?_⟩) (by assumption) ?_
          rotate_left
          · intro w hSw; (try dsimp only at hSw); (try obtain ⟨s0, s1, s2, s3, s4, s5⟩ := hSw); (first | (go_simp; done) | (go_simp; with_reducible rfl))
          try simp only [Act.put, List.setIfInBounds_toArray, List.set_cons_zero, List.set_cons_succ]
          refine lastZ (o := { dst := none, op := Go.Op.store 22 (Go.Operand.tmp 54) (Go.Operand.tmp 53), type := 0, pos := _, after := _, guard := none }) (by kernel_rfl) rfl (by kernel_rfl) (fun K hK => ?_)
          have z3 := hx4.b.blk.frozen 3
          have q3 := hx4.b.blk.cell 3
          simp at q3
          go_simp
          refine hK.out _ _ ?_
          clear hK K
          try simp only [Act.put, List.setIfInBounds_toArray, List.set_cons_zero, List.set_cons_succ]
          go_wp2_with fail
          go_meet
          exact ⟨_, A3, c3, hx4.put⟩
        case rest =>
          clear p0 p1 p2 p3 x0 x1 x2 x3 k0
          obtain ⟨es9, A3, c3, HB9⟩ := hcut
          have q0 := HB9.out.b.blk.cell 0
          have q1 := HB9.out.b.blk.cell 1
          have q2 := HB9.out.b.blk.cell 2
          have q3 := HB9.out.b.blk.cell 3
          have HO9 := keepf HB9.out.o
          simp at q0 q1 q2 q3
          have z0 := HO9.out.blk.frozen 0
          have z1 := HO9.out.blk.frozen 1
          have z2 := HO9.out.blk.frozen 2
          have z3 := HO9.out.blk.frozen 3
          have y0 := HO9.out.blk.cell 0
          have y1 := HO9.out.blk.cell 1
          have y2 := HO9.out.blk.cell 2
          have y3 := HO9.out.blk.cell 3
          simp at y0 y1 y2 y3
          go_wp2_with fail
          try simp only [Exit.noGoto_ret]
          clear y0 y1 y2 y3
          obtain ⟨hb, hvv, hcc⟩ := HB9.out.fin (k := 7) (n := n) (s := s) rfl (by unfold maxLen; omega) HGD.out.k HGD.out.n HGD.out.s _ rfl
          have r0 := hb.blk.cell 0
          have r1 := hb.blk.cell 1
          have r2 := hb.blk.cell 2
          have r3 := hb.blk.cell 3
          simp at r0 r1 r2 r3
          refine bodyPost_ret (v := .agg #[.int .i64 7, .int .i64 n, .string s, .slice A3 N c3]) (by simp [results, Try.results21, go_sem, r0, r1, r2, r3]) rfl ?_
          exact ⟨⟨7, n, s, A3, N, c3⟩, rfl, by rw [HE.out]; exact hvv, hcc⟩
end Go.Proofs.Ytjbjfoingpnlmaa
