/- longestAt: the longest repetition that is found for a place. -/
import Derived.Test.YtomkejeofcpchaaSteps
import Derived.WalkMore
namespace Go.Proofs.Ytomkejeofcpchaa
open Go.RowKit
set_option linter.unusedVariables false
set_option linter.unusedSimpArgs false

/-- A repetition at the place p that may be, or none. -/
def RepOk (bs : List Nat) (p l f : Nat) : Prop :=
  (l = 0 ∧ f = 0) ∨ (3 ≤ l ∧ l ≤ 258 ∧ 1 ≤ f ∧ f ≤ 32768 ∧ f ≤ p ∧ p + l ≤ bs.length ∧ ∀ j, j < l → bs.getD (p + j) 0 = bs.getD (p + j - f) 0)

/-- In the search: so far ahead, with that step, and the best one so far. -/
structure Srch (bs : List Nat) (g : Nat → Nat) (p far step bl bf : Nat) : Prop where
  le : far ≤ p
  st : step = g (p - far)
  three : far = 0 ∨ (p + 2 < bs.length ∧ threeOf bs (p - far) = threeOf bs p)
  rep : RepOk bs p bl bf
  got : far = 0 ∨ bl ≠ 0

theorem RepOk.le {bs : List Nat} {p l f : Nat} (h : RepOk bs p l f) : l ≤ 258 ∧ f ≤ 32768 := by
  rcases h with ⟨rfl, rfl⟩ | ⟨_, h1, _, h2, _⟩ <;> omega

section
variable {bs : List Nat} {g : Nat → Nat} {p far step bl bf : Nat}
theorem Srch.start (bs : List Nat) (g : Nat → Nat) (p : Nat) : Srch bs g p 0 (g p) 0 0 := ⟨Nat.zero_le _, rfl, .inl rfl, .inl ⟨rfl, rfl⟩, .inl rfl⟩
theorem StepsOk.le (h : StepsOk bs g) (p : Nat) : g p ≤ p ∧ g p ≤ 32768 := by
  rcases Nat.lt_or_ge (p + 2) bs.length with h1 | h1
  · exact ⟨(h.at_ p h1).le, (h.at_ p h1).far⟩
  · rw [h.zero p h1]; omega
theorem Srch.step_le (h : Srch bs g p far step bl bf) (hs : StepsOk bs g) : step ≤ p - far ∧ step ≤ 32768 := by
  rw [h.st]; exact hs.le _
theorem Srch.stop (h : Srch bs g p far step bl bf) (hs : StepsOk bs g) (he : step = 0 ∨ 32768 < far + step) : g p ≠ 0 → bl ≠ 0 := by
  intro hg
  rcases h.got with h0 | h0
  · subst h0
    have h1 := h.st
    rw [Nat.sub_zero] at h1
    have := (hs.le p).2
    omega
  · exact h0
theorem Srch.go (h : Srch bs g p far step bl bf) (hs : StepsOk bs g) (hb : ∀ b ∈ bs, b < 256) (h0 : step ≠ 0) (hf : far + step ≤ 32768) :
    far + step ≤ p ∧ p + 2 < bs.length ∧ threeOf bs (p - (far + step)) = threeOf bs p ∧ 3 ≤ mtI bs p ((far + step : Nat) : Int) 258 ∧ mtI bs p ((far + step : Nat) : Int) 258 ≤ 258 ∧ RepOk bs p (mtI bs p ((far + step : Nat) : Int) 258) (far + step) := by
  have h1 := (h.step_le hs).1
  have h2 : p - far + 2 < bs.length := by
    rcases Nat.lt_or_ge (p - far + 2) bs.length with h2 | h2
    · exact h2
    · have := hs.zero _ h2
      rw [← h.st] at this
      exact absurd this h0
  have h3 : p + 2 < bs.length := by
    rcases h.three with e | e
    · subst e; rw [Nat.sub_zero] at h2; exact h2
    · exact e.1
  have h4 : threeOf bs (p - (far + step)) = threeOf bs p := by
    have e1 := (hs.at_ _ h2).same (by rw [← h.st]; exact h0)
    rw [← h.st, show p - far - step = p - (far + step) from by omega] at e1
    rcases h.three with e | e
    · subst e; rw [e1, Nat.sub_zero]
    · rw [e1, e.2]
  have hle := h.le
  have hI : mtI bs p ((far + step : Nat) : Int) 258 = mtF bs (far + step) 258 p := by
    rw [mtI, if_neg (by omega)]; rfl
  have h5 : 3 ≤ mtF bs (far + step) 258 p := mtF_ge bs _ 258 p 3 (by decide) (by omega) (fun j hj => by
    have := three_inj hb h4 j hj
    rw [show p + j - (far + step) = p - (far + step) + j from by omega, this])
  rw [hI]
  refine ⟨by omega, h3, h4, h5, mtF_le _ _ _ _, .inr ⟨h5, mtF_le _ _ _ _, by omega, hf, by omega, mtF_in _ _ _ _ (by omega), fun j hj => mtF_eq _ _ _ _ _ hj⟩⟩
end

theorem info_rep : (Try.prog.info? 51).map (fun i => (i.zero, i.size, i.bytes)) = some (some (.agg #[.int .u16 0, .int .u16 0]), 2, 4) := by kernel_rfl

def LongTo (w : World) (bs : List Nat) (g : Nat → Nat) (p : Nat) (e : Ending) (w' : World) : Prop :=
  ∃ l f : Nat, e = .returned (.agg #[.int .u16 (l : Nat), .int .u16 (f : Nat)]) ∧ RepOk bs p l f ∧ (g p ≠ 0 → l ≠ 0) ∧ Chg NoS w w'

set_option maxHeartbeats 1000000 in
theorem longest_any (bs : List Nat) (A : Option Addr) (c p go : Nat) (g : Nat → Nat) (w : World) (hS : Src w 1 A bs.length c (ocells bs)) (hl : bs.length ≤ 16777216) (hc : bs.length ≤ c) (hg : ∀ b ∈ bs, b < 256)
    (hR : SRow w (.slice (some ⟨go, 0, none⟩) bs.length bs.length) bs.length g) (hO : StepsOk bs g) (hp : p < bs.length) :
    Calls Try.prog 22 #[.slice A bs.length c, .slice (some ⟨go, 0, none⟩) bs.length bs.length, .int .i64 p] w (LongTo w bs g p) := by
  have HM := keepf (fun (W : World) (far : Nat) (hS : Src W 1 A bs.length c (ocells bs)) => match_any bs A c p far 258 W hS (by unfold maxLen; omega) hc (by decide))
  have HG := keepf hg
  have HS := keepf hS
  have HR := keepf hR
  have HO := keepf hO
  have hq := hR.cellAt p (by omega)
  rw [srow_at hp] at hq
  have hgl := hO.le p
  obtain ⟨s0, hs0⟩ : ∃ s0, g p = s0 := ⟨_, rfl⟩
  rw [hs0] at hq hgl
  have HS0 := keepf hs0
  obtain ⟨n, hn⟩ : ∃ n, n = bs.length := ⟨_, rfl⟩
  have HN := keepf hn
  rw [← hn] at hl hc hp HM HS HR ⊢
  have hpN : (p : Int) < n := by omega
  have hlg : go < w.heap.size := own_lt HR.out rfl
  clear hS hg hn hR hO hs0
  go_enter Try.func22, Try.ntmps22
  go_wp2_with fail
  go_step3
  go_wp2_with fail
  go_quiet (fail)
  go_wp2_with fail
  go_step3
  go_wp2_with fail
  go_loopw [8, 9, 17] (fun vf vs vi wr => ∃ i far step bl bf : Nat, i ≤ 64 ∧ vi = .int .i64 i ∧ vf = .int .i64 far ∧ vs = .int .i64 step ∧ Hid (Srch bs g p far step bl bf) ∧ Hid (i = 0 ∨ bl ≠ 0) ∧ Hid (Blk wr w.heap.size 51 #[.int .u16 0, .int .u16 0]) ∧ Hid (Blk wr (w.heap.size + 1) 51 #[.int .u16 (bl : Nat), .int .u16 (bf : Nat)]) ∧ Hid (Chg NoS w wr)) (fun _ _ vi _ => 64 - (intOf vi).toNat)
  case atStart =>
    refine ⟨0, 0, s0, 0, 0, by decide, rfl, rfl, rfl, ?_, .inl rfl, ?_, ?_, ?_⟩
    · rw [← HS0.out]; exact Srch.start bs g p
    · exact ((Blk.new _ _ _).alloc _).drewN _
    · have h := Blk.new (w.alloc (.cells #[.int .u16 0, .int .u16 0] 51)) 51 #[.int .u16 0, .int .u16 0]
      rw [World.size_alloc] at h
      exact h.drewN _
    · exact (((Chg.refl _ _).alloc _).alloc _).drewN _
  case round =>
    obtain ⟨i, far, step, bl, bf, hi, rfl, rfl, rfl, HR1, HI, HB0, HB1, HC⟩ := hrel
    have e0 := HB1.out.cell 0
    have e1 := HB1.out.cell 1
    have q0 := HB0.out.cell 0
    have q1 := HB0.out.cell 1
    have k0 := HB1.out.frozen 0
    have k1 := HB1.out.frozen 1
    have z0 := HB0.out.frozen 0
    have z1 := HB0.out.frozen 1
    simp at e0 e1 q0 q1
    have hstep := HR1.out.step_le HO.out
    have hrle := HR1.out.rep.le
    have hfp := HR1.out.le
    by_cases hlt : i < 64
    · by_cases hstop : step = 0 ∨ 32768 < far + step
      · have HGOT := keepf (HR1.out.stop HO.out hstop)
        rcases Decidable.em (step = 0) with h0 | h0
        · subst h0
          go_wp2_with fail
          try simp only [Exit.noGoto_ret]
          have hb := (HB0.out.set_ 0 (.int .u16 (bl : Nat))).set_ 1 (.int .u16 (bf : Nat))
          have r0 := hb.cell 0
          have r1 := hb.cell 1
          simp at r0 r1
          refine bodyPost_ret (v := .agg #[.int .u16 (bl : Nat), .int .u16 (bf : Nat)]) (by simp [results, Try.results22, go_sem, r0, r1]) rfl ⟨bl, bf, rfl, HR1.out.rep, HGOT.out, (HC.out.setCell (p := ⟨w.heap.size, 0, none⟩) (fun h => absurd h (Nat.lt_irrefl _)) _).setCell (p := ⟨w.heap.size, 1, none⟩) (fun h => absurd h (Nat.lt_irrefl _)) _⟩
        · have u0 : ((step : Int) == 0) = false := by simp; omega
          have hbig : (32768 : Int) < (far : Int) + step := by omega
          clear hstop h0
          go_wp2_with fail
          try simp only [Exit.noGoto_ret]
          have hb := (HB0.out.set_ 0 (.int .u16 (bl : Nat))).set_ 1 (.int .u16 (bf : Nat))
          have r0 := hb.cell 0
          have r1 := hb.cell 1
          simp at r0 r1
          refine bodyPost_ret (v := .agg #[.int .u16 (bl : Nat), .int .u16 (bf : Nat)]) (by simp [results, Try.results22, go_sem, r0, r1]) rfl ⟨bl, bf, rfl, HR1.out.rep, HGOT.out, (HC.out.setCell (p := ⟨w.heap.size, 0, none⟩) (fun h => absurd h (Nat.lt_irrefl _)) _).setCell (p := ⟨w.heap.size, 1, none⟩) (fun h => absurd h (Nat.lt_irrefl _)) _⟩
      · have h0 : step ≠ 0 := fun h => hstop (.inl h)
        have hle : far + step ≤ 32768 := by omega
        have hgo := HR1.out.go HO.out HG.out h0 hle
        obtain ⟨F, hF⟩ : ∃ F, F = far + step := ⟨_, rfl⟩
        rw [← hF] at hgo hle
        obtain ⟨nn, hnn⟩ : ∃ nn, mtI bs p (F : Nat) 258 = nn := ⟨_, rfl⟩
        rw [hnn] at hgo
        have hF2 : (far : Int) + step = F := by omega
        have u0 : ((step : Int) == 0) = false := by simp; omega
        have hF1 : 1 ≤ F := by omega
        have hFp : F ≤ p := hgo.1
        have hn3 : 3 ≤ nn := hgo.2.2.2.1
        have hn258 : nn ≤ 258 := hgo.2.2.2.2.1
        have HGO := keepf hgo
        have HC2 := keepf (HM.out wr F (Src.below (w0 := w) HS.out HC.out))
        rw [hnn] at HC2
        have hq2 := (own_chg (S := NoS) HR.out HC.out (fun _ _ h => h)).cellAt (p - F) (by omega)
        rw [srow_at (by omega)] at hq2
        have hgl2 := (HO.out.le (p - F))
        obtain ⟨s2, hs2⟩ : ∃ s2, g (p - F) = s2 := ⟨_, rfl⟩
        rw [hs2] at hq2 hgl2
        have HS2 := keepf hs2
        have i0 : (0 : Int) ≤ (p : Int) - F := by omega
        have i1 : (p : Int) - F < n := by omega
        have i2 : ((p : Int) - F).toNat = p - F := by omega
        have i3 : p - F < n := by omega
        have hleI : (F : Int) ≤ 32768 := by omega
        clear hgo hF hnn hs2 hstop h0
        by_cases h258 : nn = 258
        · subst h258
          go_wp2_with (go_at_call 14; refine HC2.out.mono ?_; rintro e w3 ⟨rfl, q, rfl⟩)
          have hch := ((HC.out.drewN q).setCell (p := ⟨w.heap.size + 1, 0, none⟩) (fun h => absurd h (show ¬ w.heap.size + 1 < w.heap.size by omega)) (.int .u16 258)).setCell (p := ⟨w.heap.size + 1, 1, none⟩) (fun h => absurd h (show ¬ w.heap.size + 1 < w.heap.size by omega)) (.int .u16 (F : Nat))
          have hb0 := ((HB0.out.drewN q).far (p := ⟨w.heap.size + 1, 0, none⟩) (show w.heap.size ≠ w.heap.size + 1 by omega) (.int .u16 258)).far (p := ⟨w.heap.size + 1, 1, none⟩) (show w.heap.size ≠ w.heap.size + 1 by omega) (.int .u16 (F : Nat))
          try simp only [Exit.noGoto_ret]
          have hb := (hb0.set_ 0 (.int .u16 (258 : Nat))).set_ 1 (.int .u16 (F : Nat))
          have r0 := hb.cell 0
          have r1 := hb.cell 1
          simp at r0 r1
          refine bodyPost_ret (v := .agg #[.int .u16 (258 : Nat), .int .u16 (F : Nat)]) (by simp [results, Try.results22, go_sem, r0, r1]) rfl ⟨258, F, rfl, HGO.out.2.2.2.2.2, fun _ => by decide, (hch.setCell (p := ⟨w.heap.size, 0, none⟩) (fun h => absurd h (Nat.lt_irrefl _)) _).setCell (p := ⟨w.heap.size, 1, none⟩) (fun h => absurd h (Nat.lt_irrefl _)) _⟩
        · have u1 : ((nn : Int) == 258) = false := by simp; omega
          clear h258
          by_cases hbet : bl < nn
          · go_wp2_with (go_at_call 14; refine HC2.out.mono ?_; rintro e w3 ⟨rfl, q, rfl⟩)
            go_roundw
            case rel =>
              refine ⟨i + 1, F, s2, nn, F, by omega, by go_num, rfl, rfl, ⟨HGO.out.1, HS2.out.symm, .inr ⟨HGO.out.2.1, HGO.out.2.2.1⟩, HGO.out.2.2.2.2.2, .inr (by have := HGO.out.2.2.2.1; omega)⟩, .inr (by have := HGO.out.2.2.2.1; omega), ?_, ?_, ?_⟩
              · exact ((HB0.out.drewN q).far (p := ⟨w.heap.size + 1, 0, none⟩) (show w.heap.size ≠ w.heap.size + 1 by omega) _).far (p := ⟨w.heap.size + 1, 1, none⟩) (show w.heap.size ≠ w.heap.size + 1 by omega) _
              · exact keepf (by simpa using ((HB1.out.drewN q).set_ 0 (.int .u16 (nn : Nat))).set_ 1 (.int .u16 (F : Nat)))
              · exact ((HC.out.drewN q).setCell (p := ⟨w.heap.size + 1, 0, none⟩) (fun h => absurd h (show ¬ w.heap.size + 1 < w.heap.size by omega)) _).setCell (p := ⟨w.heap.size + 1, 1, none⟩) (fun h => absurd h (show ¬ w.heap.size + 1 < w.heap.size by omega)) _
            case measure => simp [intOf]; omega
          · have HBL := keepf (show bl ≠ 0 by omega)
            go_wp2_with (go_at_call 14; refine HC2.out.mono ?_; rintro e w3 ⟨rfl, q, rfl⟩)
            go_roundw
            case rel => exact ⟨i + 1, F, s2, bl, bf, by omega, by go_num, rfl, rfl, ⟨HGO.out.1, HS2.out.symm, .inr ⟨HGO.out.2.1, HGO.out.2.2.1⟩, HR1.out.rep, .inr HBL.out⟩, .inr HBL.out, HB0.out.drewN q, HB1.out.drewN q, HC.out.drewN q⟩
            case measure => simp [intOf]; omega
    · have HGOT := keepf (show g p ≠ 0 → bl ≠ 0 from fun _ => HI.out.resolve_left (by omega))
      go_wp2_with fail
      try simp only [Exit.noGoto_ret]
      have hb := (HB0.out.set_ 0 (.int .u16 (bl : Nat))).set_ 1 (.int .u16 (bf : Nat))
      have r0 := hb.cell 0
      have r1 := hb.cell 1
      simp at r0 r1
      refine bodyPost_ret (v := .agg #[.int .u16 (bl : Nat), .int .u16 (bf : Nat)]) (by simp [results, Try.results22, go_sem, r0, r1]) rfl ⟨bl, bf, rfl, HR1.out.rep, HGOT.out, (HC.out.setCell (p := ⟨w.heap.size, 0, none⟩) (fun h => absurd h (Nat.lt_irrefl _)) _).setCell (p := ⟨w.heap.size, 1, none⟩) (fun h => absurd h (Nat.lt_irrefl _)) _⟩
end Go.Proofs.Ytomkejeofcpchaa
