/- All blocks. -/
import Derived.Test.YtbdnhhhagpgibaaFixed
import Derived.Test.YtbdnhhhagpgibaaSymP
namespace Go.Proofs.Ytbdnhhhagpgibaa
open Go.RowKit
set_option linter.unusedVariables false
set_option linter.unusedSimpArgs false

/-- At a block's head: n bits are left. -/
def BlkR (w : World) (g gr : Nat) (bs : List Nat) (a : Nat) (S : Value) (most : Nat) (out : List Nat) (So : Value) (n : Nat) (w' : World) : Prop :=
  ∃ (b : Nat) (out' : List Nat) (So' fx' : Value), n = 8 * bs.length - b ∧ Pk w' g gr bs b S most out' So' fx' ∧ Mv g gr w So w' So' ∧ Leads bs most ⟨a, out, .head⟩ ⟨b, out', .head⟩
def BlkJ (w : World) (g gr : Nat) (bs : List Nat) (a : Nat) (S : Value) (most : Nat) (out : List Nat) (So : Value) (n : Nat) (x : Act) (w' : World) : Prop :=
  x.defers = [] ∧ x.tmps.size = 61 ∧ x.tmps.getD 0 undef = .pointer (some ⟨g, 0, none⟩) ∧ BlkR w g gr bs a S most out So n w'
theorem BlkJ.elim {w : World} {g gr : Nat} {bs : List Nat} {a : Nat} {S : Value} {most : Nat} {out : List Nat} {So : Value} {n : Nat} {x : Act} {w' : World} {C : Act → Prop} (h : BlkJ w g gr bs a S most out So n x w')
    (k : BlkR w g gr bs a S most out So n w' → ∀ f : Nat → Value, C { tmps := #[.pointer (some ⟨g, 0, none⟩), f 1, f 2, f 3, f 4, f 5, f 6, f 7, f 8, f 9, f 10, f 11, f 12, f 13, f 14, f 15, f 16, f 17, f 18, f 19, f 20, f 21, f 22, f 23, f 24, f 25, f 26, f 27, f 28, f 29, f 30, f 31, f 32, f 33, f 34, f 35, f 36, f 37, f 38, f 39, f 40, f 41, f 42, f 43, f 44, f 45, f 46, f 47, f 48, f 49, f 50, f 51, f 52, f 53, f 54, f 55, f 56, f 57, f 58, f 59, f 60], defers := [] }) : C x := by
  obtain ⟨t, d⟩ := x
  obtain ⟨h1, h2, h3, hR⟩ := h
  simp only at h1 h2 h3
  subst h1
  have h5 := k hR (fun i => t.getD i undef)
  rw [← h3] at h5
  rw [arr_any t 61 h2]
  exact h5

/-- Behind all blocks. -/
def GotA (w : World) (g gr : Nat) (bs : List Nat) (a : Nat) (S : Value) (most : Nat) (out : List Nat) (So : Value) (e : Ending) (w' : World) : Prop :=
  ∃ (k : Int) (b : Nat) (out' : List Nat) (So' fx' : Value), e = .returned (.int .i64 k) ∧ Pk w' g gr bs b S most out' So' fx' ∧ Mv g gr w So w' So' ∧
    ((k = 0 ∧ Runs bs most ⟨a, out, .head⟩ (.ok out' b)) ∨ (k ≠ 0 ∧ Runs bs most ⟨a, out, .head⟩ (.err k)))

theorem end_head {bs : List Nat} {most b : Nat} {out : List Nat} : Step bs most ⟨b, out, .plain 0 0⟩ (.inl ⟨b, out, .head⟩) := .plain (by simp [stPlain])
theorem end_last {bs : List Nat} {most b last : Nat} {out : List Nat} (h : last ≠ 0) : Step bs most ⟨b, out, .plain 0 last⟩ (.inr (.ok out b)) := .plain (by simp [stPlain, h])

set_option maxHeartbeats 4000000 in
set_option maxRecDepth 100000 in
theorem pblocks (w : World) (g gr a most : Nat) (bs out : List Nat) (S So fx : Value) (hP : Pk w g gr bs a S most out So fx) :
    Calls Try.prog 20 #[.pointer (some ⟨g, 0, none⟩)] w (GotA w g gr bs a S most out So) := by
  have HP := keepf hP
  clear hP
  go_enter Try.func20, Try.ntmps20
  go_wp2
  refine wp_scope_hops 0 1 (BlkJ w g gr bs a S most out So) rfl rfl ?pass ?first
  case first =>
    intro hpass
    have HPass := keepf hpass
    clear hpass
    go_wp2
    go_step3
    rename_i hK
    refine hK _ _ (HPass.out _ _ _ ⟨rfl, rfl, rfl, a, out, So, fx, rfl, HP.out, Mv.refl _ _ _ _, Leads.refl _⟩)
  case pass =>
    intro n x w1 hx
    refine BlkJ.elim hx (C := fun y => Code.wp _ _ _ y w1) ?_
    rintro ⟨b, out1, So1, fx1, rfl, hP1, hm1, hl1⟩
    clear hx
    intro f
    have c0 := hP1.c0
    have HP1 := keepf hP1
    have HM1 := keepf hm1
    have HL1 := keepf hl1
    have HG1 := keepf (pget w1 g gr b 1 most bs out1 S So1 fx1 hP1 (by omega))
    clear hP1 hm1 hl1
    go_upto_region 5 with (go_at_call 31; refine HG1.out.mono ?_; rintro e w2 ⟨L, b2, k, rfl, hP2, hm2, hx2, hk⟩; have c02 := hP2.c0; have HP2 := keepf hP2; have HM2 := keepf (HM1.out.trans hm2); have HX2 := keepf hx2; have HK2 := keepf hk; clear hP2 hm2 hx2 hk)
    rcases HK2.out with ⟨rfl, rfl, hle2, hLe⟩ | ⟨rfl, rfl, rfl, hlt⟩
    · have HLE := keepf hLe
      have HLT2 := keepf hle2
      have HG2 := keepf (pget w2 g gr _ 2 most bs out1 S So1 fx1 HP2.out (by omega))
      have hL2 : L < 2 := by simpa using HX2.out
      clear hLe hle2 c0 HG1 HK2 HX2
      go_upto_region 8 with (go_at_call 31; refine HG2.out.mono ?_; rintro e w3 ⟨kd, b3, k, rfl, hP3, hm3, hx3, hk⟩; have HP3 := keepf hP3; have HM3 := keepf (HM2.out.trans hm3); have HX3 := keepf hx3; have HK3 := keepf hk; clear hP3 hm3 hx3 hk)
      rcases HK3.out with ⟨rfl, rfl, hle3, hke⟩ | ⟨rfl, rfl, rfl, hlt⟩
      · have hkd : kd < 4 := by simpa using HX3.out
        have hst : Step bs most ⟨b, out1, .head⟩ (if kd = 0 then .inl ⟨b + 3, out1, .stored L⟩ else if kd = 1 then .inl ⟨b + 3, out1, .coded fixS fixD L⟩ else if kd = 2 then .inl ⟨b + 3, out1, .own L⟩ else .inr (.err 11)) := .head (by
          unfold stHead
          rw [if_neg (by omega), ← HLE.out, ← hke])
        have HST := keepf hst
        have e3 : b + 1 + 2 = b + 3 := by omega
        rw [e3] at HP3
        have HLT3 := keepf (show b + 3 ≤ 8 * bs.length by omega)
        clear hst e3 hle3 hke HG2 HK3 HX3 HLE HLT2 HP2 HM2 c02
        by_cases k0 : kd = 0
        · subst k0
          have HPL := keepf (pplain w3 g gr (b + 3) most bs out1 S So1 fx1 HP3.out)
          have hlead : Leads bs most ⟨a, out, .head⟩ ⟨b + 3, out1, .stored L⟩ := HL1.out.then (by have := HST.out; rw [if_pos rfl] at this; exact this)
          have HLd := keepf hlead
          clear hlead HST
          go_wp2_with (go_at_call 32; refine HPL.out.mono ?_; rintro e w4 ⟨k, b4, out4, So4, rfl, hP4, hm4, hk4⟩; have HP4 := keepf hP4; have HM4 := keepf (HM3.out.trans hm4); have HK4 := keepf hk4; clear hP4 hm4 hk4)
          go_step3
          refine Or.inr ⟨rfl, ?_⟩
          rcases HK4.out with ⟨rfl, hb4, hl4⟩ | ⟨hk, hr4⟩
          · by_cases hL : L = 0
            · subst hL
              go_wp2_with fail
              go_step3
              refine ⟨rfl, 8 * bs.length - b4, by have := HLT3.out; omega, ?_⟩
              exact ⟨rfl, rfl, rfl, b4, out4, So4, fx1, rfl, HP4.out, HM4.out, (HLd.out.trans (hl4 0)).then end_head⟩
            · have dL : ((L : Int) == 0) = false := by simp; omega
              have dL' : (L == 0) = false := by simp; omega
              have HRu := keepf ((HLd.out.trans (hl4 L)).stop (end_last hL))
              clear hl4 hb4
              go_wp2_with fail
              simp only [Exit.jump]
              go_ret
              exact ⟨0, b4, out4, So4, fx1, rfl, HP4.out, HM4.out, .inl ⟨rfl, HRu.out⟩⟩
          · have dk : (k == 0) = false := by simpa using hk
            have HRu := keepf (HLd.out _ (hr4 L))
            have HK := keepf hk
            clear hr4 hk
            go_wp2_with fail
            simp only [Exit.jump]
            go_ret
            exact ⟨k, b4, out4, So4, fx1, rfl, HP4.out, HM4.out, .inr ⟨HK.out, HRu.out⟩⟩
        · have dk0 : ((kd : Int) == 0) = false := by simp; omega
          have dk0' : (kd == 0) = false := by simp; omega
          by_cases k1 : kd = 1
          · subst k1
            have HPX := keepf (pfixed w3 g gr (b + 3) most bs out1 S So1 fx1 HP3.out)
            have hlead : Leads bs most ⟨a, out, .head⟩ ⟨b + 3, out1, .coded fixS fixD L⟩ := HL1.out.then (by have := HST.out; rw [if_neg k0, if_pos rfl] at this; exact this)
            have HLd := keepf hlead
            clear hlead HST
            go_upto_region 21 with (first
              | (go_at_call 33; refine HPX.out.mono ?_; rintro e w4 ⟨c, fx4, rfl, hP4, hm4, hcd4⟩; have HS := keepf (psymbols w4 g gr (b + 3) most c bs out1 fixS fixD S So1 fx4 hP4 hcd4); have HM4 := keepf (HM3.out.trans hm4); clear hP4 hm4 hcd4)
              | (go_at_call 35; refine HS.out.mono ?_; rintro e w5 ⟨k, b5, out5, So5, rfl, hP5, hm5, hk5⟩; have HP5 := keepf hP5; have HM5 := keepf (HM4.out.trans hm5); have HK5 := keepf hk5; clear hP5 hm5 hk5)
              | go_step3)
            rcases HK5.out with ⟨rfl, hb5, hl5⟩ | ⟨hk, hr5⟩
            · by_cases hL : L = 0
              · subst hL
                go_wp2_with fail
                go_step3
                refine Or.inl ⟨rfl, 8 * bs.length - b5, by have := HLT3.out; skip; omega, ?_⟩
                exact ⟨rfl, rfl, rfl, b5, out5, So5, fx4, rfl, HP5.out, HM5.out, (HLd.out.trans (hl5 0)).then end_head⟩
              · have dL : ((L : Int) == 0) = false := by simp; omega
                have dL' : (L == 0) = false := by simp; omega
                have HRu := keepf ((HLd.out.trans (hl5 L)).stop (end_last hL))
                clear hl5 hb5
                go_wp2_with fail
                simp only [hop]
                go_ret
                exact ⟨0, b5, out5, So5, fx4, rfl, HP5.out, HM5.out, .inl ⟨rfl, HRu.out⟩⟩
            · have dk : (k == 0) = false := by simpa using hk
              have HRu := keepf (HLd.out _ (hr5 L))
              have HK := keepf hk
              clear hr5 hk
              go_wp2_with fail
              simp only [hop]
              go_ret
              exact ⟨k, b5, out5, So5, fx4, rfl, HP5.out, HM5.out, .inr ⟨HK.out, HRu.out⟩⟩
          · have dk1 : ((kd : Int) == 1) = false := by simp; omega
            have dk1' : (kd == 1) = false := by simp; omega
            by_cases k2 : kd = 2
            · subst k2
              have HPO := keepf (pownCodes w3 g gr (b + 3) most bs out1 S So1 fx1 HP3.out)
              have hlead : Leads bs most ⟨a, out, .head⟩ ⟨b + 3, out1, .own L⟩ := HL1.out.then (by have := HST.out; rw [if_neg k0, if_neg k1, if_pos rfl] at this; exact this)
              have HLd0 := keepf hlead
              clear hlead HST
              go_upto_region 18 with (go_at_call 34; refine HPO.out.mono ?_; rintro e w4 ⟨b4, hP4, hm4, hab4, hk4⟩; have HP4 := keepf hP4; have HM4 := keepf (HM3.out.trans hm4); have HB4 := keepf hab4; clear hP4 hm4 hab4; rcases hk4 with ⟨c, ls, ds, rfl, hcd4, hl4⟩ | ⟨k, hk, rfl, hr4⟩)
              · have HS := keepf (psymbols w4 g gr b4 most c bs out1 ls ds S So1 fx1 HP4.out hcd4)
                have HLd := keepf (HLd0.out.trans (hl4 L))
                clear hcd4 hl4
                obtain ⟨fx4, hfx4⟩ : ∃ fx4, fx4 = fx1 := ⟨_, rfl⟩
                rw [← hfx4] at HS
                clear hfx4
                go_upto_region 21 with (first
                  | (go_at_call 35; refine HS.out.mono ?_; rintro e w5 ⟨k, b5, out5, So5, rfl, hP5, hm5, hk5⟩; have HP5 := keepf hP5; have HM5 := keepf (HM4.out.trans hm5); have HK5 := keepf hk5; clear hP5 hm5 hk5)
                  | go_step3)
                rcases HK5.out with ⟨rfl, hb5, hl5⟩ | ⟨hk, hr5⟩
                · by_cases hL : L = 0
                  · subst hL
                    go_wp2_with fail
                    go_step3
                    refine Or.inl ⟨rfl, 8 * bs.length - b5, by have := HLT3.out; have := HB4.out; omega, ?_⟩
                    exact ⟨rfl, rfl, rfl, b5, out5, So5, fx4, rfl, HP5.out, HM5.out, (HLd.out.trans (hl5 0)).then end_head⟩
                  · have dL : ((L : Int) == 0) = false := by simp; omega
                    have dL' : (L == 0) = false := by simp; omega
                    have HRu := keepf ((HLd.out.trans (hl5 L)).stop (end_last hL))
                    clear hl5 hb5
                    go_wp2_with fail
                    simp only [hop]
                    go_ret
                    exact ⟨0, b5, out5, So5, fx4, rfl, HP5.out, HM5.out, .inl ⟨rfl, HRu.out⟩⟩
                · have dk : (k == 0) = false := by simpa using hk
                  have HRu := keepf (HLd.out _ (hr5 L))
                  have HK := keepf hk
                  clear hr5 hk
                  go_wp2_with fail
                  simp only [hop]
                  go_ret
                  exact ⟨k, b5, out5, So5, fx4, rfl, HP5.out, HM5.out, .inr ⟨HK.out, HRu.out⟩⟩
              · have HRu := keepf (HLd0.out _ (hr4 L))
                clear hr4
                rcases hk with rfl | rfl | rfl
                all_goals
                  go_wp2_with fail
                  simp only [hop]
                  go_ret
                  exact ⟨_, b4, out1, So1, fx1, rfl, HP4.out, HM4.out, .inr ⟨by omega, HRu.out⟩⟩
            · have dk2 : ((kd : Int) == 2) = false := by simp; omega
              have dk2' : (kd == 2) = false := by simp; omega
              have HRu := keepf (HL1.out.stop (by have := HST.out; rw [if_neg k0, if_neg k1, if_neg k2] at this; exact this))
              clear HST
              go_wp2_with fail
              simp only [hop]
              go_ret
              exact ⟨11, _, out1, So1, fx1, rfl, HP3.out, HM3.out, .inr ⟨by omega, HRu.out⟩⟩
      · have HRu := keepf (HL1.out.stop (.head (by unfold stHead; rw [if_pos (by omega)])))
        go_wp2_with fail
        simp only [hop]
        go_ret
        exact ⟨10, _, out1, So1, fx1, rfl, HP3.out, HM3.out, .inr ⟨by omega, HRu.out⟩⟩
    · have HRu := keepf (HL1.out.stop (.head (by unfold stHead; rw [if_pos (by omega)])))
      go_wp2_with fail
      simp only [hop]
      go_ret
      exact ⟨10, _, out1, So1, fx1, rfl, HP2.out, HM2.out, .inr ⟨by omega, HRu.out⟩⟩
end Go.Proofs.Ytbdnhhhagpgibaa
