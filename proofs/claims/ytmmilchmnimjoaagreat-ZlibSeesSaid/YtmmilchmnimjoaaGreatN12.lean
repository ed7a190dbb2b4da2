/- Merged by program: Longest Reps Tokens. -/
import Derived.Test.YtmmilchmnimjoaaGreatN11
import Derived.WalkMore
import Derived.Lib.SmallJoins
/- longestAt: the longest repetition that is found for a place. -/
namespace Go.Proofs.YtmmilchmnimjoaaGreat
open Go.RowKit
set_option linter.unusedVariables false
set_option linter.unusedSimpArgs false
def RepOk (bs : List Nat) (p l f : Nat) : Prop :=
  (l = 0 ∧ f = 0) ∨ (3 ≤ l ∧ l ≤ 258 ∧ 1 ≤ f ∧ f ≤ 32768 ∧ f ≤ p ∧ p + l ≤ bs.length ∧ ∀ j, j < l → bs.getD (p + j) 0 = bs.getD (p + j - f) 0)
structure Srch (bs : List Nat) (g : Nat → Nat) (p far step bl bf : Nat) : Prop where
  le : far ≤ p
  st : step = g (p - far)
  three : far = 0 ∨ (p + 2 < bs.length ∧ threeOf bs (p - far) = threeOf bs p)
  rep : RepOk bs p bl bf
  got : far = 0 ∨ bl ≠ 0
def longF (bs : List Nat) (g : Nat → Nat) (p : Nat) : Nat → Nat → Nat → Nat → Nat → Nat × Nat
  | 0, _, _, bl, bf => (bl, bf)
  | n + 1, far, step, bl, bf =>
    if step = 0 ∨ 32768 < far + step then (bl, bf)
    else if mtI bs p ((far + step : Nat) : Int) 258 = 258 then (258, far + step)
    else if bl < mtI bs p ((far + step : Nat) : Int) 258 then longF bs g p n (far + step) (g (p - (far + step))) (mtI bs p ((far + step : Nat) : Int) 258) (far + step)
    else longF bs g p n (far + step) (g (p - (far + step))) bl bf
def longOf (bs : List Nat) (g : Nat → Nat) (p : Nat) : Nat × Nat := longF bs g p 64 0 (g p) 0 0
def Found (bs : List Nat) (g : Nat → Nat) (p : Nat) (r : Nat × Nat) : Prop := (g p ≠ 0 → r.1 ≠ 0) ∧ r = longOf bs g p
section
variable {bs : List Nat} {g : Nat → Nat} {p far step bl bf i : Nat}
theorem longF_end (h : longF bs g p (64 - i) far step bl bf = longOf bs g p) (hs : step = 0 ∨ 32768 < far + step) : (bl, bf) = longOf bs g p := by
  rw [← h]
  rcases 64 - i with _ | n
  · rfl
  · rw [longF, if_pos hs]
theorem longF_last (h : longF bs g p (64 - i) far step bl bf = longOf bs g p) (hi : ¬ i < 64) : (bl, bf) = longOf bs g p := by
  rw [← h, show 64 - i = 0 from by omega]
  rfl
theorem longF_hit {F : Nat} (h : longF bs g p (64 - i) far step bl bf = longOf bs g p) (hi : i < 64) (h0 : step ≠ 0) (hF : F = far + step) (hl : F ≤ 32768) (hm : mtI bs p (F : Nat) 258 = 258) : (258, F) = longOf bs g p := by
  subst hF
  rw [← h, show 64 - i = (63 - i) + 1 from by omega, longF, if_neg (by omega), if_pos hm]
theorem longF_more {F nn : Nat} (h : longF bs g p (64 - i) far step bl bf = longOf bs g p) (hi : i < 64) (h0 : step ≠ 0) (hF : F = far + step) (hl : F ≤ 32768) (hm : mtI bs p (F : Nat) 258 = nn) (hn : nn ≠ 258) (hb : bl < nn) :
    longF bs g p (64 - (i + 1)) F (g (p - F)) nn F = longOf bs g p := by
  subst hF
  subst hm
  rw [← h, show 64 - i = (64 - (i + 1)) + 1 from by omega, longF, if_neg (by omega), if_neg hn, if_pos hb]
theorem longF_less {F nn : Nat} (h : longF bs g p (64 - i) far step bl bf = longOf bs g p) (hi : i < 64) (h0 : step ≠ 0) (hF : F = far + step) (hl : F ≤ 32768) (hm : mtI bs p (F : Nat) 258 = nn) (hn : nn ≠ 258) (hb : ¬ bl < nn) :
    longF bs g p (64 - (i + 1)) F (g (p - F)) bl bf = longOf bs g p := by
  subst hF
  subst hm
  rw [← h, show 64 - i = (64 - (i + 1)) + 1 from by omega, longF, if_neg (by omega), if_neg hn, if_neg hb]
end
theorem RepOk.le {bs : List Nat} {p l f : Nat} (h : RepOk bs p l f) : l ≤ 258 ∧ f ≤ 32768 := by
  rcases h with ⟨rfl, rfl⟩ | ⟨_, h1, _, h2, _⟩ <;> omega
section
variable {bs : List Nat} {g : Nat → Nat} {p far step bl bf : Nat}
theorem Srch.start (bs : List Nat) (g : Nat → Nat) (p : Nat) : Srch bs g p 0 (g p) 0 0 := ⟨Nat.zero_le _, rfl, .inl rfl, .inl ⟨rfl, rfl⟩, .inl rfl⟩
theorem StepsOk.le (h : StepsOk bs g) (p : Nat) : g p ≤ p ∧ g p ≤ 32768 := by
  rcases Nat.lt_or_ge (p + 2) bs.length with h1 | h1
  · exact ⟨(h.at_ p h1).le, (h.at_ p h1).far⟩
  · rw [h.zero p h1]; omega
theorem Srch.step_le (h : Srch bs g p far step bl bf) (hs : StepsOk bs g) : step ≤ p - far ∧ step ≤ 32768 := by
  rw [h.st]; exact hs.le _
theorem Srch.stop (h : Srch bs g p far step bl bf) (hs : StepsOk bs g) (he : step = 0 ∨ 32768 < far + step) : g p ≠ 0 → bl ≠ 0 := by
  intro hg
  rcases h.got with h0 | h0
  · subst h0
    have h1 := h.st
    rw [Nat.sub_zero] at h1
    have := (hs.le p).2
    omega
  · exact h0
theorem Srch.go (h : Srch bs g p far step bl bf) (hs : StepsOk bs g) (hb : ∀ b ∈ bs, b < 256) (h0 : step ≠ 0) (hf : far + step ≤ 32768) :
    far + step ≤ p ∧ p + 2 < bs.length ∧ threeOf bs (p - (far + step)) = threeOf bs p ∧ 3 ≤ mtI bs p ((far + step : Nat) : Int) 258 ∧ mtI bs p ((far + step : Nat) : Int) 258 ≤ 258 ∧ RepOk bs p (mtI bs p ((far + step : Nat) : Int) 258) (far + step) := by
  have h1 := (h.step_le hs).1
  have h2 : p - far + 2 < bs.length := by
    rcases Nat.lt_or_ge (p - far + 2) bs.length with h2 | h2
    · exact h2
    · have := hs.zero _ h2
      rw [← h.st] at this
      exact absurd this h0
  have h3 : p + 2 < bs.length := by
    rcases h.three with e | e
    · subst e; rw [Nat.sub_zero] at h2; exact h2
    · exact e.1
  have h4 : threeOf bs (p - (far + step)) = threeOf bs p := by
    have e1 := (hs.at_ _ h2).same (by rw [← h.st]; exact h0)
    rw [← h.st, show p - far - step = p - (far + step) from by omega] at e1
    rcases h.three with e | e
    · subst e; rw [e1, Nat.sub_zero]
    · rw [e1, e.2]
  have hle := h.le
  have hI : mtI bs p ((far + step : Nat) : Int) 258 = mtF bs (far + step) 258 p := by
    rw [mtI, if_neg (by omega)]; rfl
  have h5 : 3 ≤ mtF bs (far + step) 258 p := mtF_ge bs _ 258 p 3 (by decide) (by omega) (fun j hj => by
    have := three_inj hb h4 j hj
    rw [show p + j - (far + step) = p - (far + step) + j from by omega, this])
  rw [hI]
  refine ⟨by omega, h3, h4, h5, mtF_le _ _ _ _, .inr ⟨h5, mtF_le _ _ _ _, by omega, hf, by omega, mtF_in _ _ _ _ (by omega), fun j hj => mtF_eq _ _ _ _ _ hj⟩⟩
end
theorem info_rep : (Tryz.prog.info? 186).map (fun i => (i.zero, i.size, i.bytes)) = some (some (.agg #[.int .u16 0, .int .u16 0]), 2, 4) := by kernel_rfl
def LongTo (w : World) (bs : List Nat) (g : Nat → Nat) (p : Nat) (e : Ending) (w' : World) : Prop :=
  ∃ l f : Nat, e = .returned (.agg #[.int .u16 (l : Nat), .int .u16 (f : Nat)]) ∧ RepOk bs p l f ∧ Found bs g p (l, f) ∧ Chg NoS w w'
set_option maxHeartbeats 1000000 in
theorem longest_any (bs : List Nat) (A : Option Addr) (c p go : Nat) (g : Nat → Nat) (w : World) (hS : Src w 1 A bs.length c (ocells bs)) (hl : bs.length ≤ 16777216) (hc : bs.length ≤ c) (hg : ∀ b ∈ bs, b < 256)
    (hR : SRow w (.slice (some ⟨go, 0, none⟩) bs.length bs.length) bs.length g) (hO : StepsOk bs g) (hp : p < bs.length) :
    Calls Tryz.prog 145 #[.slice A bs.length c, .slice (some ⟨go, 0, none⟩) bs.length bs.length, .int .i64 p] w (LongTo w bs g p) := by
  have HM := keepf (fun (W : World) (far : Nat) (hS : Src W 1 A bs.length c (ocells bs)) => match_any bs A c p far 258 W hS (by unfold maxLen; omega) hc (by decide))
  have HG := keepf hg
  have HS := keepf hS
  have HR := keepf hR
  have HO := keepf hO
  have hq := hR.cellAt p (by omega)
  rw [srow_at hp] at hq
  have hgl := hO.le p
  obtain ⟨s0, hs0⟩ : ∃ s0, g p = s0 := ⟨_, rfl⟩
  rw [hs0] at hq hgl
  have HS0 := keepf hs0
  obtain ⟨n, hn⟩ : ∃ n, n = bs.length := ⟨_, rfl⟩
  have HN := keepf hn
  rw [← hn] at hl hc hp HM HS HR ⊢
  have hpN : (p : Int) < n := by omega
  have hlg : go < w.heap.size := own_lt HR.out rfl
  clear hS hg hn hR hO hs0
  go_enter Tryz.func145, Tryz.ntmps145
  go_wp2_with fail
  go_step3
  go_wp2_with fail
  go_quiet (fail)
  go_wp2_with fail
  go_step3
  go_wp2_with fail
  go_loopw [8, 9, 17] (fun vf vs vi wr => ∃ i far step bl bf : Nat, i ≤ 64 ∧ vi = .int .i64 i ∧ vf = .int .i64 far ∧ vs = .int .i64 step ∧ Hid (Srch bs g p far step bl bf) ∧ Hid ((i = 0 ∨ bl ≠ 0) ∧ longF bs g p (64 - i) far step bl bf = longOf bs g p) ∧ Hid (Blk wr w.heap.size 186 #[.int .u16 0, .int .u16 0]) ∧ Hid (Blk wr (w.heap.size + 1) 186 #[.int .u16 (bl : Nat), .int .u16 (bf : Nat)]) ∧ Hid (Chg NoS w wr)) (fun _ _ vi _ => 64 - (intOf vi).toNat)
  case atStart =>
    refine ⟨0, 0, s0, 0, 0, by decide, rfl, rfl, rfl, ?_, ⟨.inl rfl, by rw [← HS0.out]; rfl⟩, ?_, ?_, ?_⟩
    · rw [← HS0.out]; exact Srch.start bs g p
    · exact ((Blk.new _ _ _).alloc _).drewN _
    · have h := Blk.new (w.alloc (.cells #[.int .u16 0, .int .u16 0] 186)) 186 #[.int .u16 0, .int .u16 0]
      rw [World.size_alloc] at h
      exact h.drewN _
    · exact (((Chg.refl _ _).alloc _).alloc _).drewN _
  case round =>
    obtain ⟨i, far, step, bl, bf, hi, rfl, rfl, rfl, HR1, HI, HB0, HB1, HC⟩ := hrel
    have e0 := HB1.out.cell 0
    have e1 := HB1.out.cell 1
    have q0 := HB0.out.cell 0
    have q1 := HB0.out.cell 1
    have k0 := HB1.out.frozen 0
    have k1 := HB1.out.frozen 1
    have z0 := HB0.out.frozen 0
    have z1 := HB0.out.frozen 1
    simp at e0 e1 q0 q1
    have hstep := HR1.out.step_le HO.out
    have hrle := HR1.out.rep.le
    have hfp := HR1.out.le
    by_cases hlt : i < 64
    · by_cases hstop : step = 0 ∨ 32768 < far + step
      · have HGOT := keepf (show Found bs g p (bl, bf) from ⟨HR1.out.stop HO.out hstop, longF_end HI.out.2 hstop⟩)
        rcases Decidable.em (step = 0) with h0 | h0
        · subst h0
          go_wp2_with fail
          try simp only [Exit.noGoto_ret]
          have hb := (HB0.out.set_ 0 (.int .u16 (bl : Nat))).set_ 1 (.int .u16 (bf : Nat))
          have r0 := hb.cell 0
          have r1 := hb.cell 1
          simp at r0 r1
          refine bodyPost_ret (v := .agg #[.int .u16 (bl : Nat), .int .u16 (bf : Nat)]) (by simp [results, Tryz.results145, go_sem, r0, r1]) rfl ⟨bl, bf, rfl, HR1.out.rep, HGOT.out, (HC.out.setCell (p := ⟨w.heap.size, 0, none⟩) (fun h => absurd h (Nat.lt_irrefl _)) _).setCell (p := ⟨w.heap.size, 1, none⟩) (fun h => absurd h (Nat.lt_irrefl _)) _⟩
        · have u0 : ((step : Int) == 0) = false := by simp; omega
          have hbig : (32768 : Int) < (far : Int) + step := by omega
          clear hstop h0
          go_wp2_with fail
          try simp only [Exit.noGoto_ret]
          have hb := (HB0.out.set_ 0 (.int .u16 (bl : Nat))).set_ 1 (.int .u16 (bf : Nat))
          have r0 := hb.cell 0
          have r1 := hb.cell 1
          simp at r0 r1
          refine bodyPost_ret (v := .agg #[.int .u16 (bl : Nat), .int .u16 (bf : Nat)]) (by simp [results, Tryz.results145, go_sem, r0, r1]) rfl ⟨bl, bf, rfl, HR1.out.rep, HGOT.out, (HC.out.setCell (p := ⟨w.heap.size, 0, none⟩) (fun h => absurd h (Nat.lt_irrefl _)) _).setCell (p := ⟨w.heap.size, 1, none⟩) (fun h => absurd h (Nat.lt_irrefl _)) _⟩
      · have h0 : step ≠ 0 := fun h => hstop (.inl h)
        have hle : far + step ≤ 32768 := by omega
        have hgo := HR1.out.go HO.out HG.out h0 hle
        obtain ⟨F, hF⟩ : ∃ F, F = far + step := ⟨_, rfl⟩
        rw [← hF] at hgo hle
        obtain ⟨nn, hnn⟩ : ∃ nn, mtI bs p (F : Nat) 258 = nn := ⟨_, rfl⟩
        rw [hnn] at hgo
        have HLF := keepf (⟨hF, h0, hnn⟩ : F = far + step ∧ step ≠ 0 ∧ mtI bs p (F : Nat) 258 = nn)
        have hF2 : (far : Int) + step = F := by omega
        have u0 : ((step : Int) == 0) = false := by simp; omega
        have hF1 : 1 ≤ F := by omega
        have hFp : F ≤ p := hgo.1
        have hn3 : 3 ≤ nn := hgo.2.2.2.1
        have hn258 : nn ≤ 258 := hgo.2.2.2.2.1
        have HGO := keepf hgo
        have HC2 := keepf (HM.out wr F (Src.below (w0 := w) HS.out HC.out))
        rw [hnn] at HC2
        have hq2 := (own_chg (S := NoS) HR.out HC.out (fun _ _ h => h)).cellAt (p - F) (by omega)
        rw [srow_at (by omega)] at hq2
        have hgl2 := (HO.out.le (p - F))
        obtain ⟨s2, hs2⟩ : ∃ s2, g (p - F) = s2 := ⟨_, rfl⟩
        rw [hs2] at hq2 hgl2
        have HS2 := keepf hs2
        have i0 : (0 : Int) ≤ (p : Int) - F := by omega
        have i1 : (p : Int) - F < n := by omega
        have i2 : ((p : Int) - F).toNat = p - F := by omega
        have i3 : p - F < n := by omega
        have hleI : (F : Int) ≤ 32768 := by omega
        clear hgo hF hnn hs2 hstop h0
        by_cases h258 : nn = 258
        · subst h258
          have HHIT := keepf (longF_hit HI.out.2 hlt HLF.out.2.1 HLF.out.1 hle HLF.out.2.2)
          go_wp2_with (go_at_call 160; refine HC2.out.mono ?_; rintro e w3 ⟨rfl, q, rfl⟩)
          have hch := ((HC.out.drewN q).setCell (p := ⟨w.heap.size + 1, 0, none⟩) (fun h => absurd h (show ¬ w.heap.size + 1 < w.heap.size by omega)) (.int .u16 258)).setCell (p := ⟨w.heap.size + 1, 1, none⟩) (fun h => absurd h (show ¬ w.heap.size + 1 < w.heap.size by omega)) (.int .u16 (F : Nat))
          have hb0 := ((HB0.out.drewN q).far (p := ⟨w.heap.size + 1, 0, none⟩) (show w.heap.size ≠ w.heap.size + 1 by omega) (.int .u16 258)).far (p := ⟨w.heap.size + 1, 1, none⟩) (show w.heap.size ≠ w.heap.size + 1 by omega) (.int .u16 (F : Nat))
          try simp only [Exit.noGoto_ret]
          have hb := (hb0.set_ 0 (.int .u16 (258 : Nat))).set_ 1 (.int .u16 (F : Nat))
          have r0 := hb.cell 0
          have r1 := hb.cell 1
          simp at r0 r1
          refine bodyPost_ret (v := .agg #[.int .u16 (258 : Nat), .int .u16 (F : Nat)]) (by simp [results, Tryz.results145, go_sem, r0, r1]) rfl ⟨258, F, rfl, HGO.out.2.2.2.2.2, ⟨fun _ => (show (258 : Nat) ≠ 0 by decide), HHIT.out⟩, (hch.setCell (p := ⟨w.heap.size, 0, none⟩) (fun h => absurd h (Nat.lt_irrefl _)) _).setCell (p := ⟨w.heap.size, 1, none⟩) (fun h => absurd h (Nat.lt_irrefl _)) _⟩
        · have u1 : ((nn : Int) == 258) = false := by simp; omega
          have HN258 := keepf h258
          clear h258
          by_cases hbet : bl < nn
          · have HMORE := keepf (longF_more HI.out.2 hlt HLF.out.2.1 HLF.out.1 hle HLF.out.2.2 HN258.out hbet)
            rw [HS2.out] at HMORE
            go_wp2_with (go_at_call 160; refine HC2.out.mono ?_; rintro e w3 ⟨rfl, q, rfl⟩)
            go_roundw
            case rel =>
              refine ⟨i + 1, F, s2, nn, F, by omega, by go_num, rfl, rfl, ⟨HGO.out.1, HS2.out.symm, .inr ⟨HGO.out.2.1, HGO.out.2.2.1⟩, HGO.out.2.2.2.2.2, .inr (by have := HGO.out.2.2.2.1; omega)⟩, ⟨.inr (by have := HGO.out.2.2.2.1; omega), HMORE.out⟩, ?_, ?_, ?_⟩
              · exact ((HB0.out.drewN q).far (p := ⟨w.heap.size + 1, 0, none⟩) (show w.heap.size ≠ w.heap.size + 1 by omega) _).far (p := ⟨w.heap.size + 1, 1, none⟩) (show w.heap.size ≠ w.heap.size + 1 by omega) _
              · exact keepf (by simpa using ((HB1.out.drewN q).set_ 0 (.int .u16 (nn : Nat))).set_ 1 (.int .u16 (F : Nat)))
              · exact ((HC.out.drewN q).setCell (p := ⟨w.heap.size + 1, 0, none⟩) (fun h => absurd h (show ¬ w.heap.size + 1 < w.heap.size by omega)) _).setCell (p := ⟨w.heap.size + 1, 1, none⟩) (fun h => absurd h (show ¬ w.heap.size + 1 < w.heap.size by omega)) _
            case measure => simp [intOf]; omega
          · have HBL := keepf (show bl ≠ 0 by omega)
            have HLESS := keepf (longF_less HI.out.2 hlt HLF.out.2.1 HLF.out.1 hle HLF.out.2.2 HN258.out hbet)
            rw [HS2.out] at HLESS
            go_wp2_with (go_at_call 160; refine HC2.out.mono ?_; rintro e w3 ⟨rfl, q, rfl⟩)
            go_roundw
            case rel => exact ⟨i + 1, F, s2, bl, bf, by omega, by go_num, rfl, rfl, ⟨HGO.out.1, HS2.out.symm, .inr ⟨HGO.out.2.1, HGO.out.2.2.1⟩, HR1.out.rep, .inr HBL.out⟩, ⟨.inr HBL.out, HLESS.out⟩, HB0.out.drewN q, HB1.out.drewN q, HC.out.drewN q⟩
            case measure => simp [intOf]; omega
    · have HGOT := keepf (show Found bs g p (bl, bf) from ⟨fun _ => HI.out.1.resolve_left (by omega), longF_last HI.out.2 hlt⟩)
      go_wp2_with fail
      try simp only [Exit.noGoto_ret]
      have hb := (HB0.out.set_ 0 (.int .u16 (bl : Nat))).set_ 1 (.int .u16 (bf : Nat))
      have r0 := hb.cell 0
      have r1 := hb.cell 1
      simp at r0 r1
      refine bodyPost_ret (v := .agg #[.int .u16 (bl : Nat), .int .u16 (bf : Nat)]) (by simp [results, Tryz.results145, go_sem, r0, r1]) rfl ⟨bl, bf, rfl, HR1.out.rep, HGOT.out, (HC.out.setCell (p := ⟨w.heap.size, 0, none⟩) (fun h => absurd h (Nat.lt_irrefl _)) _).setCell (p := ⟨w.heap.size, 1, none⟩) (fun h => absurd h (Nat.lt_irrefl _)) _⟩
end Go.Proofs.YtmmilchmnimjoaaGreat
/- repetitions: those of bytes, each from where the one ahead ends. -/
namespace Go.Proofs.YtmmilchmnimjoaaGreat
open Go.RowKit
set_option linter.unusedVariables false
set_option linter.unusedSimpArgs false
theorem src_new {w : World} (cs : Array Value) (t : TypeId) {n m size : Nat} (h : n = w.heap.size) (hs : cs.size = m * size) : Src (w.alloc (.cells cs t)) size (some ⟨n, 0, none⟩) m m cs.toList := by
  subst h
  refine ⟨by simpa using hs, fun h => (by cases h), fun ad hA j u hu => ?_⟩
  cases hA
  have hc := (Blk.new w t cs).cell j
  rw [← Array.getElem?_toList, hu] at hc
  by_cases hj : j = 0
  · subst hj; simpa [Addr.add] using hc
  · simpa [Addr.add, hj] using hc
abbrev Rp := Nat × Nat
def Rp.size (r : Rp) : Nat := if r.1 = 0 then 1 else r.1
def encR (r : Rp) : List Value := [.int .u16 (r.1 : Nat), .int .u16 (r.2 : Nat)]
def rcells (L : List Rp) : List Value := L.flatMap encR
theorem rcells_app (L M : List Rp) : rcells (L ++ M) = rcells L ++ rcells M := by simp [rcells]
theorem encR_one (r : Rp) : ∀ u ∈ encR r, u.oneCell' = true := by
  intro u hu
  simp only [encR, List.mem_cons, List.not_mem_nil, or_false] at hu
  rcases hu with rfl | rfl <;> rfl
theorem rcells_0 {L : List Rp} {k : Nat} {r : Rp} (h : L[k]? = some r) : (rcells L)[k * 2]? = some (.int .u16 (r.1 : Nat)) := flat_get encR 2 (fun _ => rfl) L k 0 r h (by decide)
theorem rcells_1 {L : List Rp} {k : Nat} {r : Rp} (h : L[k]? = some r) : (rcells L)[k * 2 + 1]? = some (.int .u16 (r.2 : Nat)) := flat_get encR 2 (fun _ => rfl) L k 1 r h (by decide)
def Lead (bs : List Nat) (g : Nat → Nat) : List Rp → Nat → Nat → Prop
  | [], p, q => p = q
  | r :: L, p, q => RepOk bs p r.1 r.2 ∧ Found bs g p r ∧ p < bs.length ∧ Lead bs g L (p + r.size) q
theorem Lead.snoc {bs : List Nat} {g : Nat → Nat} {r : Rp} : ∀ {L : List Rp} {p q : Nat}, Lead bs g L p q → RepOk bs q r.1 r.2 → Found bs g q r → q < bs.length → Lead bs g (L ++ [r]) p (q + r.size)
  | [], p, q, h, h1, h2, h3 => by cases h; exact ⟨h1, h2, h3, rfl⟩
  | s :: L, p, q, h, h1, h2, h3 => ⟨h.1, h.2.1, h.2.2.1, Lead.snoc h.2.2.2 h1 h2 h3⟩
theorem Rp.size_pos (r : Rp) : 1 ≤ r.size := by unfold Rp.size; split <;> omega
theorem RepOk.size_le {bs : List Nat} {p : Nat} {r : Rp} (h : RepOk bs p r.1 r.2) (hp : p < bs.length) : p + r.size ≤ bs.length := by
  unfold Rp.size
  rcases h with ⟨h1, _⟩ | ⟨_, _, _, _, _, h1, _⟩
  · rw [if_pos h1]; omega
  · split <;> omega
theorem Lead.len {bs : List Nat} {g : Nat → Nat} : ∀ {L : List Rp} {p q : Nat}, Lead bs g L p q → p + L.length ≤ q
  | [], p, q, h => by cases h; exact Nat.le_refl _
  | r :: L, p, q, h => by
    have := Lead.len h.2.2.2
    have := r.size_pos
    simp only [List.length_cons]
    omega
theorem Lead.one {bs : List Nat} {g : Nat → Nat} : ∀ {L L' : List Rp} {p : Nat}, Lead bs g L p bs.length → Lead bs g L' p bs.length → L = L'
  | [], [], p, _, _ => rfl
  | [], s :: L', p, h, h' => by cases h; exact absurd h'.2.2.1 (Nat.lt_irrefl _)
  | r :: L, [], p, h, h' => by cases h'; exact absurd h.2.2.1 (Nat.lt_irrefl _)
  | r :: L, s :: L', p, h, h' => by
    have e : r = s := h.2.1.2.trans h'.2.1.2.symm
    subst e
    rw [Lead.one h.2.2.2 h'.2.2.2]
theorem Lead.single {bs : List Nat} {g : Nat → Nat} : ∀ {L : List Rp} {p q : Nat}, Lead bs g L p q → (∀ r ∈ L, r.1 = 0) → ∀ k, p ≤ k → k < q → g k = 0
  | [], p, q, h, _, k, h1, h2 => by cases h; omega
  | r :: L, p, q, h, ha, k, h1, h2 => by
    have h0 := ha r (List.mem_cons_self ..)
    have hs : r.size = 1 := by unfold Rp.size; rw [if_pos h0]
    rcases Decidable.em (k = p) with e | e
    · subst e
      rcases Decidable.em (g k = 0) with h3 | h3
      · exact h3
      · exact absurd h0 (h.2.1.1 h3)
    · have h4 := h.2.2.2
      rw [hs] at h4
      exact Lead.single h4 (fun x hx => ha x (List.mem_cons_of_mem _ hx)) k (by omega) h2
def RepsTo (w : World) (bs : List Nat) (e : Ending) (w' : World) : Prop :=
  ∃ (L : List Rp) (g : Nat → Nat) (A : Option Addr) (c : Nat), e = .returned (.slice A L.length c) ∧ w'.ownsRow 0 186 2 (.slice A L.length c) L.length (rcells L) ∧ Lead bs g L 0 bs.length ∧ StepsOk bs g ∧ Chg NoS w w' ∧ ∀ a, A = some a → w.heap.size ≤ a.block
theorem grow_chg {w1 wr w2 wr' : World} {A : Option Addr} {n c : Nat} (h : Chg NoS w1 wr) (hn : ∀ a, A = some a → w1.heap.size ≤ a.block) (hc : Chg NoS wr w2) (hg : w2.grownBy wr' (Value.slice A n c).ownBlock) : Chg NoS w1 wr' := by
  have h4 := ((Chg.refl (fun i => (Value.slice A n c).ownBlock = some i) w2).grown hg (fun k e _ => e))
  refine (h.trans hc (fun _ _ h => h)).trans h4 (fun i hi e => ?_)
  rcases A with _ | a
  · simp [Value.ownBlock] at e
  · have := hn a rfl
    simp [Value.ownBlock] at e
    omega
theorem grow_new {w1 w2 : World} {A A2 : Option Addr} {n c m c2 : Nat} (hn : ∀ a, A = some a → w1.heap.size ≤ a.block) (hs : w1.heap.size ≤ w2.heap.size)
    (hat : (Value.slice A2 m c2).ownBlock = (Value.slice A n c).ownBlock ∨ (Value.slice A2 m c2).ownBlock = some w2.heap.size) : ∀ a, A2 = some a → w1.heap.size ≤ a.block := by
  rintro a rfl
  rcases hat with e | e
  · rcases A with _ | b
    · simp [Value.ownBlock] at e
    · have := hn b rfl
      simp [Value.ownBlock] at e
      omega
  · simp [Value.ownBlock] at e
    omega
structure RLoop (w w1 wr : World) (bs : List Nat) (g : Nat → Nat) (L : List Rp) (A : Option Addr) (c p : Nat) : Prop where
  own : wr.ownsRow 0 186 2 (.slice A L.length c) L.length (rcells L)
  lead : Lead bs g L 0 p
  chg : Chg NoS w1 wr
  new : ∀ a, A = some a → w1.heap.size ≤ a.block
theorem RLoop.turn {w w1 wr w2 wr' : World} {bs : List Nat} {g : Nat → Nat} {L : List Rp} {A A2 : Option Addr} {c c2 p : Nat} {r : Rp} (h : RLoop w w1 wr bs g L A c p) (hc : Chg NoS wr w2)
    (hg : w2.grownBy wr' (Value.slice A L.length c).ownBlock) (ho : wr'.ownsRow 0 186 2 (.slice A2 (L.length + 1) c2) (L.length + 1) (rcells L ++ encR r))
    (hat : (Value.slice A2 (L.length + 1) c2).ownBlock = (Value.slice A L.length c).ownBlock ∨ (Value.slice A2 (L.length + 1) c2).ownBlock = some w2.heap.size)
    (h1 : RepOk bs p r.1 r.2) (h2 : Found bs g p r) (h3 : p < bs.length) : RLoop w w1 wr' bs g (L ++ [r]) A2 c2 (p + r.size) := by
  have hs := h.chg.size
  have hs2 := hc.size
  refine ⟨?_, h.lead.snoc h1 h2 h3, grow_chg h.chg h.new hc hg, grow_new h.new (by omega) hat⟩
  rw [List.length_append, List.length_singleton, rcells_app, show rcells [r] = encR r from by simp [rcells]]
  exact ho
set_option maxHeartbeats 1000000 in
theorem reps_any (bs : List Nat) (A : Option Addr) (c : Nat) (w : World) (hS : Src w 1 A bs.length c (ocells bs)) (hl : bs.length ≤ 16777216) (hc : bs.length ≤ c) (hg : ∀ b ∈ bs, b < 256) :
    Calls Tryz.prog 130 #[.slice A bs.length c] w (RepsTo w bs) := by
  have HST := keepf (steps_any bs A c w hS hl hg)
  have HL := keepf (fun (W : World) (g : Nat → Nat) (go p : Nat) (hS : Src W 1 A bs.length c (ocells bs)) (hR : SRow W (.slice (some ⟨go, 0, none⟩) bs.length bs.length) bs.length g) (hO : StepsOk bs g) (hp : p < bs.length) => longest_any bs A c p go g W hS hl hc hg hR hO hp)
  have HS := keepf hS
  obtain ⟨n, hn⟩ : ∃ n, n = bs.length := ⟨_, rfl⟩
  have HN := keepf hn
  rw [← hn] at hl hc HST HL HS ⊢
  clear hS hg hn
  obtain ⟨i0, hi, hz0, hz1, hz2⟩ := info_parts info_rep
  go_enter Tryz.func130, Tryz.ntmps130
  go_wp2_with (go_at_call 144; refine HST.out.mono ?_; rintro e w1 ⟨go, g, rfl, hrow, hok, hch, hgo⟩; have HROW := keepf hrow; have HOK := keepf hok; have HCH := keepf hch; clear hrow hok hch)
  go_loopw [4, 5] (fun vo va wr => ∃ p : Nat, ∃ L : List Rp, ∃ A2 : Option Addr, ∃ c2 : Nat, p ≤ n ∧ va = .int .i64 p ∧ vo = .slice A2 L.length c2 ∧ Hid (RLoop w w1 wr bs g L A2 c2 p)) (fun _ va _ => n - (intOf va).toNat)
  case atStart => exact ⟨0, [], none, 0, Nat.zero_le _, rfl, rfl, ⟨own_nil _ _ _ _, rfl, Chg.refl _ _, fun a h => by cases h⟩⟩
  case round =>
    obtain ⟨p, L, A2, c2, hp, rfl, rfl, HR⟩ := hrel
    obtain ⟨m, hm⟩ : ∃ m, m = L.length := ⟨_, rfl⟩
    have hmp := HR.out.lead.len
    rw [← hm] at hmp ⊢
    have HMM := keepf hm
    clear hm
    by_cases hlt : p < n
    · have HLC := keepf (HL.out wr g go p (Src.below (w0 := w) HS.out (HCH.out.trans HR.out.chg (fun _ _ h => h))) (own_chg HROW.out HR.out.chg (fun _ _ h => h)) HOK.out hlt)
      have HOWN := keepf (show wr.ownsRow 0 186 2 (.slice A2 m c2) m (rcells L) by rw [HMM.out]; exact HR.out.own)
      go_upto_region 5 with fail
      go_wp2_with (first
        | (go_at_call 145; refine HLC.out.mono ?_; rintro e w3 ⟨l, f, rfl, hro, hgt, hc3⟩; have HRO := keepf hro; have HGT := keepf hgt; have HC3 := keepf hc3; have hll := hro.le; have hsl := RepOk.size_le (r := (l, f)) hro (by have := HN.out; omega); clear hro hgt hc3; rcases Decidable.em ((l : Int) < 1) with h1 | h1)
        | (at_builtin; refine wpList_append_src rfl (.tmp 17) (.tmp 19) 183 rfl 186 i0 _ 2 4 Tryz.underlying183 hi hz0 hz1 hz2 rfl (by decide) (.slice A2 m c2) m (rcells L) rfl (own_chg (S := NoS) HOWN.out ((HC3.out.alloc _).alloc _) (fun _ _ h => h)) (some ⟨w3.heap.size + 1, 0, none⟩) 1 1 (encR (l, f)) rfl (src_new #[.int .u16 (l : Nat), .int .u16 (f : Nat)] _ (by simp) rfl) (encR_one _) (by unfold maxLen; omega) (by omega) ?_
           intro S2 w4 hown4 hgr4 hat4
           obtain ⟨A3, c3, rfl, hA3⟩ := own_slice hown4
           have hne : some w3.heap.size ≠ (Value.slice A2 m c2).ownBlock := fun e => by have h5 := own_lt HOWN.out e.symm; have h6 := HC3.out.size; omega
           have hb4 := (((Blk.new w3 186 #[.int .u16 (l : Nat), .int .u16 (f : Nat)]).alloc (.cells #[.int .u16 (l : Nat), .int .u16 (f : Nat)] 186)).grown hgr4 hne)
           have d0 := hb4.cell 0
           simp at d0
           have HG4 := keepf hgr4
           have HO4 := keepf hown4
           have HA4 := keepf hat4
           clear hown4 hgr4 hat4 hA3 hne hb4))
      all_goals
        go_roundw
        case rel =>
          refine ⟨p + Rp.size (l, f), L ++ [(l, f)], A3, c3, by have := HN.out; omega, ?_, by rw [List.length_append, ← HMM.out]; rfl, ?_⟩
          · have e : Rp.size (l, f) = if l = 0 then 1 else l := rfl
            first
              | (rw [e, if_pos (by omega)]; go_num)
              | (rw [e, if_neg (by omega)]; go_num)
          · refine HR.out.turn (r := (l, f)) ((HC3.out.alloc _).alloc _) (by rw [← HMM.out]; exact HG4.out) (by rw [← HMM.out]; exact HO4.out) (by rw [← HMM.out]; exact HA4.out) HRO.out HGT.out (by have := HN.out; omega)
        case measure => simp [intOf]; omega
    · have HP := keepf (show p = bs.length by have := HN.out; omega)
      go_wp2_with fail
      go_ret
      refine ⟨L, g, A2, c2, by rw [HMM.out]; rfl, HR.out.own, by rw [← HP.out]; exact HR.out.lead, HOK.out, HCH.out.trans HR.out.chg (fun _ _ h => h), fun a ha => ?_⟩
      have := HR.out.new a ha
      have := HCH.out.size
      omega
end Go.Proofs.YtmmilchmnimjoaaGreat
/- Tokens: bytes' tokens, of which the bytes come back. -/
namespace Go.Proofs.YtmmilchmnimjoaaGreat
open Go.RowKit
set_option linter.unusedVariables false
set_option linter.unusedSimpArgs false
def tokOf (bs : List Nat) (p : Nat) (r : Rp) : Tk := ⟨if r.1 = 0 then bs.getD p 0 else 0, (r.1 : Nat), (r.2 : Nat)⟩
def toks (bs : List Nat) : List Rp → Nat → List Tk
  | [], _ => []
  | r :: L, p => tokOf bs p r :: toks bs L (p + r.size)
theorem toks_len (bs : List Nat) : ∀ (L : List Rp) (p : Nat), (toks bs L p).length = L.length
  | [], _ => rfl
  | r :: L, p => by simp [toks, toks_len bs L]
theorem toks_snoc {bs : List Nat} {g : Nat → Nat} {r : Rp} : ∀ {L : List Rp} {p q : Nat}, Lead bs g L p q → toks bs (L ++ [r]) p = toks bs L p ++ [tokOf bs q r]
  | [], p, q, h => by cases h; rfl
  | s :: L, p, q, h => by rw [List.cons_append, toks, toks, toks_snoc h.2.2.2, List.cons_append]
theorem tok_size (bs : List Nat) (p : Nat) (r : Rp) : (tokOf bs p r).size = (r.size : Nat) := by
  unfold Tk.size tokOf Rp.size
  simp only
  split <;> split <;> omega
theorem take_getD {bs : List Nat} {p : Nat} (h : p < bs.length) : bs.take (p + 1) = bs.take p ++ [bs.getD p 0] := by
  rw [List.take_succ_eq_append_getElem h, List.getD_eq_getElem?_getD, List.getElem?_eq_getElem h]
  rfl
theorem repL_take {bs : List Nat} {far : Nat} : ∀ (l p : Nat), far ≤ p → 1 ≤ far → p + l ≤ bs.length → (∀ j, j < l → bs.getD (p + j) 0 = bs.getD (p + j - far) 0) → repL far l (bs.take p) = bs.take (p + l)
  | 0, p, _, _, _, _ => rfl
  | l + 1, p, hf, h1, hl, he => by
    have hlen : (bs.take p).length = p := by rw [List.length_take]; omega
    rw [repL, hlen]
    have e1 : (bs.take p).getD (p - far) 0 = bs.getD p 0 := by
      have := he 0 (by omega)
      rw [Nat.add_zero] at this
      rw [this, List.getD_eq_getElem?_getD, List.getD_eq_getElem?_getD, List.getElem?_take_of_lt (by omega)]
    rw [e1, ← take_getD (by omega), repL_take l (p + 1) (by omega) h1 (by omega) (fun j hj => by
      have := he (j + 1) (by omega)
      rw [show p + (j + 1) = p + 1 + j from by omega] at this
      exact this), show p + 1 + l = p + (l + 1) from by omega]
theorem tok_put {bs : List Nat} {p : Nat} {r : Rp} (h : RepOk bs p r.1 r.2) (hp : p < bs.length) {most : Int} (hm : (p : Int) + (r.size : Nat) ≤ most) : (tokOf bs p r).err (bs.take p).length most = 0 ∧ (tokOf bs p r).put (bs.take p) = bs.take (p + r.size) := by
  obtain ⟨l, f⟩ := r
  have hlen : (bs.take p).length = p := by rw [List.length_take]; omega
  have hsz := tok_size bs p (l, f)
  rcases h with ⟨h1, h2⟩ | ⟨h1, h2, h3, h4, h5, h6, h7⟩
  · simp only at h1 h2
    subst h1 h2
    have hw : (tokOf bs p (0, 0)).wellB = true := by simp [tokOf, Tk.wellB]
    refine ⟨?_, ?_⟩
    · unfold Tk.err
      rw [hw, hsz, hlen, if_neg (by decide), if_neg (by show ¬ (p : Int) < ((0 : Nat) : Int); omega), if_neg (by omega)]
    · have : Rp.size (0, 0) = 1 := rfl
      rw [this, take_getD hp]
      simp [Tk.put, tokOf]
  · simp only at h1 h2 h3 h4 h5 h6 h7
    have hw : (tokOf bs p (l, f)).wellB = true := by simp [tokOf, Tk.wellB]; split <;> omega
    refine ⟨?_, ?_⟩
    · unfold Tk.err
      rw [hw, hsz, hlen, if_neg (by decide), if_neg (by show ¬ (p : Int) < ((f : Nat) : Int); omega), if_neg (by omega)]
    · have : Rp.size (l, f) = l := by unfold Rp.size; rw [if_neg (show ¬ l = 0 by omega)]
      rw [this, Tk.put, if_neg (by simp [tokOf]; omega)]
      simp only [tokOf, Int.toNat_natCast]
      exact repL_take l p h5 h3 h6 h7
theorem toks_run {bs : List Nat} {g : Nat → Nat} {most : Int} (hm : (bs.length : Int) ≤ most) : ∀ {L : List Rp} {p q : Nat}, Lead bs g L p q → runT most (toks bs L p) (bs.take p) = .ok (bs.take q)
  | [], p, q, h => by cases h; rfl
  | r :: L, p, q, h => by
    have h1 := h.1.size_le h.2.2.1
    obtain ⟨h2, h3⟩ := tok_put h.1 h.2.2.1 (most := most) (by omega)
    rw [toks, runT, if_pos h2, h3]
    exact toks_run hm h.2.2.2
theorem toks_good {bs : List Nat} {g : Nat → Nat} (hb : ∀ b ∈ bs, b < 256) : ∀ {L : List Rp} {p q : Nat}, Lead bs g L p q → ∀ t ∈ toks bs L p, t.b < 256 ∧ 0 ≤ t.l ∧ t.l ≤ 258 ∧ 0 ≤ t.f ∧ t.f ≤ 32768
  | [], p, q, h, t, ht => by cases ht
  | r :: L, p, q, h, t, ht => by
    rcases List.mem_cons.1 ht with rfl | ht
    · have := h.1.le
      refine ⟨?_, by simp [tokOf], by simp [tokOf]; omega, by simp [tokOf], by simp [tokOf]; omega⟩
      show (if r.1 = 0 then bs.getD p 0 else 0) < 256
      split
      · exact getD_lt hb p
      · decide
    · exact toks_good hb h.2.2.2 t ht
theorem toks_single {bs : List Nat} : ∀ {L : List Rp} {p : Nat}, (∀ t ∈ toks bs L p, t.l = 0) → ∀ r ∈ L, r.1 = 0
  | [], p, h, r, hr => by cases hr
  | s :: L, p, h, r, hr => by
    rcases List.mem_cons.1 hr with rfl | hr
    · have := h _ (List.mem_cons_self ..)
      simpa [tokOf] using this
    · exact toks_single (fun t ht => h t (List.mem_cons_of_mem _ ht)) r hr
structure TokensOk (bs : List Nat) (T : List Tk) : Prop where
  run : runT bs.length T [] = .ok bs
  good : ∀ t ∈ T, t.b < 256 ∧ 0 ≤ t.l ∧ t.l ≤ 258 ∧ 0 ≤ t.f ∧ t.f ≤ 32768
  count : T.length ≤ bs.length
  fewer : (∃ v p, v < p ∧ p + 2 < bs.length ∧ p ≤ v + 32768 ∧ threeOf bs v = threeOf bs p) → T.length < bs.length
  led : ∃ (g : Nat → Nat) (L : List Rp), StepsOk bs g ∧ Lead bs g L 0 bs.length ∧ T = toks bs L 0
theorem TokensOk.one {bs : List Nat} {T T' : List Tk} (h : TokensOk bs T) (h' : TokensOk bs T') : T = T' := by
  obtain ⟨g, L, h1, h2, rfl⟩ := h.led
  obtain ⟨g', L', h3, h4, rfl⟩ := h'.led
  obtain rfl := h1.one h3
  rw [h2.one h4]
theorem tokens_ok {bs : List Nat} {g : Nat → Nat} {L : List Rp} (hb : ∀ b ∈ bs, b < 256) (h : Lead bs g L 0 bs.length) (hg : StepsOk bs g) : TokensOk bs (toks bs L 0) := by
  have hr := toks_run (most := bs.length) (Int.le_refl _) h
  rw [List.take_zero, List.take_length] at hr
  have hc := runT_count _ _ _ hr
  refine ⟨hr, toks_good hb h, by simpa using hc, ?_, ⟨g, L, hg, h, rfl⟩⟩
  rintro ⟨v, p, h1, h2, h3, h4⟩
  have hx : ∃ t ∈ toks bs L 0, t.l ≠ 0 := by
    apply Classical.byContradiction
    intro hn
    have hall : ∀ t ∈ toks bs L 0, t.l = 0 := fun t ht => Classical.byContradiction fun h0 => hn ⟨t, ht, h0⟩
    exact (hg.at_ p h2).found v h1 h3 h4 (h.single (toks_single hall) p (Nat.zero_le _) (by omega))
  simpa using runT_fewer _ _ _ hr hx
def TokensTo (w : World) (bs : List Nat) (e : Ending) (w' : World) : Prop :=
  ∃ (T : List Tk) (A : Option Addr) (c : Nat), e = .returned (.slice A T.length c) ∧ NewT w T A c w' ∧ (bs.length ≤ 16777216 → TokensOk bs T) ∧ (16777216 < bs.length → T = [])
theorem info_tok : (Tryz.prog.info? 180).map (fun i => (i.zero, i.size, i.bytes)) = some (some (.agg #[.int .u8 0, .int .i64 0, .int .i64 0]), 3, 24) := by kernel_rfl
structure TLoop (w1 wr : World) (bs : List Nat) (g : Nat → Nat) (L : List Rp) (k p : Nat) (A : Option Addr) (c : Nat) : Prop where
  own : wr.ownsRow 0 180 3 (.slice A k c) k (kcells (toks bs (L.take k) 0))
  one : Lead bs g (L.take k) 0 p
  two : Lead bs g (L.drop k) p bs.length
  chg : Chg NoS w1 wr
  new : ∀ a, A = some a → w1.heap.size ≤ a.block
theorem TLoop.turn {w1 wr w2 wr' w5 : World} {bs : List Nat} {g : Nat → Nat} {L : List Rp} {k p : Nat} {A A2 : Option Addr} {c c2 : Nat} {r : Rp} (h : TLoop w1 wr bs g L k p A c) (hr : L[k]? = some r) (hc : Chg NoS wr w2)
    (hg : w2.grownBy wr' (Value.slice A k c).ownBlock) (ho : wr'.ownsRow 0 180 3 (.slice A2 (k + 1) c2) (k + 1) (kcells (toks bs (L.take k) 0) ++ encT (tokOf bs p r)))
    (hat : (Value.slice A2 (k + 1) c2).ownBlock = (Value.slice A k c).ownBlock ∨ (Value.slice A2 (k + 1) c2).ownBlock = some w2.heap.size) (h5 : Chg NoS wr' w5) : TLoop w1 w5 bs g L (k + 1) (p + r.size) A2 c2 := by
  have h2 := h.two
  rw [drop_at hr] at h2
  have hs := h.chg.size
  have hs2 := hc.size
  refine ⟨?_, ?_, h2.2.2.2, (grow_chg h.chg h.new hc hg).trans h5 (fun _ _ h => h), grow_new h.new (by omega) hat⟩
  · rw [take_succ_at hr, toks_snoc h.one, kcells_app, show kcells [tokOf bs p r] = encT (tokOf bs p r) from by simp [kcells]]
    exact own_chg (S := NoS) ho h5 (fun _ _ h => h)
  · rw [take_succ_at hr]
    exact h.one.snoc h2.1 h2.2.1 h2.2.2.1
set_option maxHeartbeats 1000000 in
theorem tokens_any (bs : List Nat) (A : Option Addr) (c : Nat) (w : World) (hS : Src w 1 A bs.length c (ocells bs)) (hl : bs.length ≤ 16777216) (hc : bs.length ≤ c) (hg : ∀ b ∈ bs, b < 256) :
    Calls Tryz.prog 110 #[.slice A bs.length c] w (TokensTo w bs) := by
  have HRP := keepf (reps_any bs A c w hS hl hc hg)
  have HS := keepf hS
  have HG := keepf hg
  obtain ⟨n, hn⟩ : ∃ n, n = bs.length := ⟨_, rfl⟩
  have HN := keepf hn
  rw [← hn] at hl hc HRP HS ⊢
  clear hS hg hn
  have d1 : decide ((16777216 : Int) < n) = false := by simp; omega
  obtain ⟨i0, hi, hz0, hz1, hz2⟩ := info_parts info_tok
  go_enter Tryz.func110, Tryz.ntmps110
  go_wp2_with (first
    | (go_at_call 130; refine HRP.out.mono ?_; rintro e w1 ⟨L, g, AL, cL, rfl, hown, hlead, hok, hch, hnew⟩; obtain ⟨m, hm⟩ : ∃ m, m = L.length := ⟨_, rfl⟩; have hmn := hlead.len; rw [← hm] at hown hmn ⊢; have HMM := keepf hm; have HOWN := keepf hown; have HLEAD := keepf hlead; have HOK := keepf hok; have HCH := keepf hch; have HNEW := keepf hnew; have hmn2 : m ≤ n := by have := HN.out; omega
       clear hown hlead hok hch hnew hm hmn)
    | (at_make; go_loud (refine wpList_make_own _ rfl (.const (.int .i64 0)) (.tmp 15) 69 rfl 0 180 i0 (.agg #[.int .u8 0, .int .i64 0, .int .i64 0]) 3 Tryz.underlying69 hi hz0 hz1 .i64 .i64 _ m rfl rfl (by simp) (by rw [hz2]; omega) (by unfold maxLen; omega) (Nat.zero_le _) ?_); intro w2 hown2 hgr; have HO2 := keepf hown2; have HG2 := keepf hgr; clear hown2 hgr))
  have HTL := keepf (show TLoop w1 w2 bs g L 0 0 (some ⟨w1.heap.size, 0, none⟩) m from ⟨HO2.out, rfl, by rw [List.drop_zero]; exact HLEAD.out, (Chg.refl _ _).grown HG2.out (fun k e _ => by cases e), fun a h => by injection h with h; subst h; exact Nat.le_refl _⟩)
  obtain ⟨A3, c3, hA3, hc3⟩ : ∃ A3 c3, A3 = some (⟨w1.heap.size, 0, none⟩ : Addr) ∧ c3 = m := ⟨_, _, rfl, rfl⟩
  rw [← hA3] at HTL ⊢
  have HTL : Hid (TLoop w1 w2 bs g L 0 0 A3 c3) := by rw [hc3]; exact HTL
  have HC3 := keepf hc3
  clear hA3 HO2 HG2 hc3
  go_loopw [4, 5, 19] (fun vo va vk wr => ∃ k p : Nat, ∃ A2 : Option Addr, ∃ c2 : Nat, k ≤ m ∧ p ≤ n ∧ vk = .int .i64 k ∧ va = .int .i64 p ∧ vo = .slice A2 k c2 ∧ Hid (TLoop w1 wr bs g L k p A2 c2)) (fun _ _ vk _ => m - (intOf vk).toNat)
  case atStart => exact ⟨0, 0, A3, c3, Nat.zero_le _, Nat.zero_le _, rfl, rfl, by rw [HC3.out], HTL.out⟩
  case round =>
    clear HTL HC3
    obtain ⟨k, p, A2, c2, hk, hp, rfl, rfl, rfl, HT⟩ := hrel
    by_cases hlt : k < m
    · obtain ⟨r, hr⟩ : ∃ r, L[k]? = some r := ⟨_, List.getElem?_eq_getElem (by have := HMM.out; omega)⟩
      have hdr := drop_at hr
      have htwo := HT.out.two
      rw [hdr] at htwo
      have hpn : p < n := by have := HN.out; have := htwo.2.2.1; omega
      have hsz := htwo.1.size_le htwo.2.2.1
      have hrl := htwo.1.le
      have HR := keepf hr
      have HTWO := keepf htwo
      obtain ⟨bb, off, rfl, hcell⟩ := byte_cell (k := p) (Src.below (w0 := w) HS.out (HCH.out.trans HT.out.chg (fun _ _ h => h))) (Chg.refl _ _) (by have := HN.out; omega)
      have hcb := hcell p (by have := HN.out; omega)
      have hol := own_chg (S := NoS) HOWN.out HT.out.chg (fun _ _ h => h)
      obtain ⟨gL, cL2, hAL, _, _⟩ := own_form hol (by omega)
      injection hAL with hAL e1 e2
      clear e1 e2
      subst hAL
      have q0 := hol.cellAt (k * 2) (by omega)
      have q1 := hol.cellAt (k * 2 + 1) (by omega)
      rw [rcells_0 hr] at q0
      rw [rcells_1 hr] at q1
      obtain ⟨l, f⟩ := r
      simp only at q0 q1 hrl
      obtain ⟨x, hx⟩ : ∃ x, bs.getD p 0 = x := ⟨_, rfl⟩
      rw [hx] at hcb
      have hlb : bb < wr.heap.size := cell_lt hcb
      have HX := keepf hx
      clear hr hdr htwo hcell hol hx
      by_cases h0 : l = 0
      · subst h0
        have HTS := keepf (fun (W : World) => tsize_any ⟨x, 0, (f : Nat)⟩ W)
        rw [show (⟨x, 0, (f : Nat)⟩ : Tk).size = 1 from rfl] at HTS
        have HE := keepf (show encT (tokOf bs p (0, f)) = [.int .u8 (x : Nat), .int .i64 0, .int .i64 (f : Nat)] by rw [← HX.out]; rfl)
        go_upto_region 12 with fail
        go_wp2_with (first
          | (at_builtin; refine wpList_append_src rfl (.tmp 38) (.tmp 40) 69 rfl 180 i0 _ 3 24 Tryz.underlying69 hi hz0 hz1 hz2 rfl (by decide) (.slice A2 k c2) k (kcells (toks bs (L.take k) 0)) rfl (own_chg (S := NoS) HT.out.own ((((Chg.refl _ _).alloc _).alloc _).alloc _) (fun _ _ h => h)) (some ⟨wr.heap.size + 2, 0, none⟩) 1 1 [.int .u8 (x : Nat), .int .i64 0, .int .i64 (f : Nat)] rfl (src_new #[.int .u8 (x : Nat), .int .i64 0, .int .i64 (f : Nat)] _ (by simp) rfl) (by intro u hu; simp only [List.mem_cons, List.not_mem_nil, or_false] at hu; rcases hu with rfl | rfl | rfl <;> rfl) (by unfold maxLen; omega) (by omega) ?_
             intro S2 w4 hown4 hgr4 hat4
             obtain ⟨A4, c4, rfl, hA4⟩ := own_slice hown4
             have hne : some (wr.heap.size + 1) ≠ (Value.slice A2 k c2).ownBlock := fun e => by have h5 := own_lt HT.out.own e.symm; omega
             have hb4 := (((Blk.new (wr.alloc (.cells #[.int .u16 0, .int .u16 (f : Nat)] 186)) 180 #[.int .u8 (x : Nat), .int .i64 0, .int .i64 (f : Nat)]).alloc (.cells #[.int .u8 (x : Nat), .int .i64 0, .int .i64 (f : Nat)] 180)).grown hgr4 (by rw [World.size_alloc]; exact hne))
             rw [World.size_alloc] at hb4
             have d0 := hb4.cell 0
             have d1 := hb4.cell 1
             have d2 := hb4.cell 2
             simp at d0 d1 d2
             have HG4 := keepf hgr4
             have HO4 := keepf hown4
             have HA4 := keepf hat4
             clear hown4 hgr4 hat4 hA4 hne hb4)
          | (go_at_call 131; refine (HTS.out _).mono ?_; rintro e w5 ⟨rfl, hc5⟩; have HC5 := keepf hc5; clear hc5))
        go_roundw
        case rel =>
          refine ⟨k + 1, p + Rp.size (0, f), A4, c4, by omega, by have := HN.out; omega, by go_num, ?_, rfl, ?_⟩
          · rw [show Rp.size (0, f) = 1 from rfl]; go_num
          · exact HT.out.turn (r := (0, f)) HR.out ((((Chg.refl NoS wr).alloc _).alloc _).alloc _) HG4.out (by have h := HO4.out; rw [← HE.out] at h; exact h) HA4.out HC5.out
        case measure => simp [intOf]; omega
      · have u0 : ((l : Int) == 0) = false := by simp; omega
        have HTS := keepf (fun (W : World) => tsize_any ⟨0, (l : Nat), (f : Nat)⟩ W)
        rw [show (⟨0, (l : Nat), (f : Nat)⟩ : Tk).size = (l : Nat) from by unfold Tk.size; rw [if_neg (by simp only; omega)]] at HTS
        have HE := keepf (show encT (tokOf bs p (l, f)) = [.int .u8 0, .int .i64 (l : Nat), .int .i64 (f : Nat)] by unfold encT tokOf; simp only; rw [if_neg h0]; rfl)
        have HL0 := keepf h0
        clear h0
        go_upto_region 12 with fail
        go_wp2_with (first
          | (at_builtin; refine wpList_append_src rfl (.tmp 38) (.tmp 40) 69 rfl 180 i0 _ 3 24 Tryz.underlying69 hi hz0 hz1 hz2 rfl (by decide) (.slice A2 k c2) k (kcells (toks bs (L.take k) 0)) rfl (own_chg (S := NoS) HT.out.own ((((Chg.refl _ _).alloc _).alloc _).alloc _) (fun _ _ h => h)) (some ⟨wr.heap.size + 2, 0, none⟩) 1 1 [.int .u8 0, .int .i64 (l : Nat), .int .i64 (f : Nat)] rfl (src_new #[.int .u8 0, .int .i64 (l : Nat), .int .i64 (f : Nat)] _ (by simp) rfl) (by intro u hu; simp only [List.mem_cons, List.not_mem_nil, or_false] at hu; rcases hu with rfl | rfl | rfl <;> rfl) (by unfold maxLen; omega) (by omega) ?_
             intro S2 w4 hown4 hgr4 hat4
             obtain ⟨A4, c4, rfl, hA4⟩ := own_slice hown4
             have hne : some (wr.heap.size + 1) ≠ (Value.slice A2 k c2).ownBlock := fun e => by have h5 := own_lt HT.out.own e.symm; omega
             have hb4 := (((Blk.new (wr.alloc (.cells #[.int .u16 (l : Nat), .int .u16 (f : Nat)] 186)) 180 #[.int .u8 0, .int .i64 (l : Nat), .int .i64 (f : Nat)]).alloc (.cells #[.int .u8 0, .int .i64 (l : Nat), .int .i64 (f : Nat)] 180)).grown hgr4 (by rw [World.size_alloc]; exact hne))
             rw [World.size_alloc] at hb4
             have d0 := hb4.cell 0
             have d1 := hb4.cell 1
             have d2 := hb4.cell 2
             simp at d0 d1 d2
             have HG4 := keepf hgr4
             have HO4 := keepf hown4
             have HA4 := keepf hat4
             clear hown4 hgr4 hat4 hA4 hne hb4)
          | (go_at_call 131; refine (HTS.out _).mono ?_; rintro e w5 ⟨rfl, hc5⟩; have HC5 := keepf hc5; clear hc5))
        go_roundw
        case rel =>
          refine ⟨k + 1, p + Rp.size (l, f), A4, c4, by omega, by have := HN.out; omega, by go_num, ?_, rfl, ?_⟩
          · rw [show Rp.size (l, f) = l from by unfold Rp.size; rw [if_neg HL0.out]]; go_num
          · exact HT.out.turn (r := (l, f)) HR.out ((((Chg.refl NoS wr).alloc _).alloc _).alloc _) HG4.out (by have h := HO4.out; rw [← HE.out] at h; exact h) HA4.out HC5.out
        case measure => simp [intOf]; omega
    · have HK := keepf (show k = L.length by have := HMM.out; omega)
      go_wp2_with fail
      go_ret
      have HTO := HT.out.own
      rw [HK.out, List.take_length] at HTO
      have hln := toks_len bs L 0
      refine ⟨toks bs L 0, A2, c2, by rw [hln, HK.out]; rfl, ⟨by rw [hln]; exact HTO, HCH.out.trans HT.out.chg (fun _ _ h => h), fun a ha => ?_⟩, fun _ => tokens_ok HG.out HLEAD.out HOK.out, fun h => ?_⟩
      · have := HT.out.new a ha
        have := HCH.out.size
        omega
      · have := HN.out; omega
end Go.Proofs.YtmmilchmnimjoaaGreat
