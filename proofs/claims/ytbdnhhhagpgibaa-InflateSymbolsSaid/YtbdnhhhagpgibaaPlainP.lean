/- A block of bytes that are not packed. -/
import Derived.Test.YtbdnhhhagpgibaaPutP
namespace Go.Proofs.Ytbdnhhhagpgibaa
open Go.RowKit
set_option linter.unusedVariables false
set_option linter.unusedSimpArgs false

/-- Behind a block: it has ended, or there is an error. -/
def GotB (w : World) (g gr : Nat) (bs : List Nat) (a : Nat) (S : Value) (most : Nat) (out : List Nat) (So fx : Value) (m : Nat → Mode) (e : Ending) (w' : World) : Prop :=
  ∃ (k : Int) (b : Nat) (out' : List Nat) (So' : Value), e = .returned (.int .i64 k) ∧ Pk w' g gr bs b S most out' So' fx ∧ Mv g gr w So w' So' ∧
    ((k = 0 ∧ a ≤ b ∧ ∀ last, Leads bs most ⟨a, out, m last⟩ ⟨b, out', .plain 0 last⟩) ∨ (k ≠ 0 ∧ ∀ last, Runs bs most ⟨a, out, m last⟩ (.err k)))

set_option maxRecDepth 100000 in
theorem palign (w : World) (g gr a most : Nat) (bs out : List Nat) (S So fx : Value) (hP : Pk w g gr bs a S most out So fx) :
    Calls Try.prog 49 #[.pointer (some ⟨gr, 0, none⟩)] w fun e w' => e = .returned (.tuple #[]) ∧ Pk w' g gr bs ((a + 7) / 8 * 8) S most out So fx ∧ Mv g gr w So w' So := by
  have h0 := hP.rd.1.cell 0
  have h2 := hP.rd.1.cell 2
  have f2 := hP.rd.1.frozen 2
  have hne := own_ne_blk hP.rd.2 hP.rd.1 (by decide)
  simp at h0 h2
  have ha : a ≤ 1073741824 := by have := hP.le; have := hP.len; omega
  have HP := keepf hP
  have HN := keepf hne
  clear hP hne
  go_enter Try.func49, Try.ntmps49
  go_wp2_with (go_at_call 36; refine (rready_any gr _ h0).mono ?_; rintro e w' ⟨rfl, rfl⟩)
  obtain ⟨d, hd⟩ : ∃ d, d = (8 - a % 8) % 8 := ⟨_, rfl⟩
  have HG := keepf (fun W h => gap_any gr a W (by omega) h)
  rw [← hd] at HG
  have hs : IntKind.i64.wrap ((a : Int) + d) = (a : Int) + d := by rw [IntKind.wrap_i64]; omega
  have he : a + d = (a + 7) / 8 * 8 := by omega
  have HE := keepf he
  clear hd he
  refine wp_region_still_tail 13 (by kernel_rfl) (by kernel_rfl) ?_
  simp only [List.take_succ_cons, List.take_zero, List.drop_succ_cons, List.drop_zero]
  change wpStill _ _ w.drew _ _ _
  repeat still_step
  still_call (same_right (HG.out _ h2))
  repeat still_step
  refine wpStill_nil ?_
  change wpList _ _ _ _ _ w.drew
  go_wp2
  go_end0
  have hc : Chg (fun i => i = gr) w (w.drew.setCell ⟨gr, 2, none⟩ (.int .i64 ((a : Int) + d))) := ((Chg.refl (fun i => i = gr) w).drew).setCell (p := ⟨gr, 2, none⟩) (fun _ => rfl) _
  refine ⟨rfl, HP.out.go (by have := HP.out.le; omega) ⟨?_, ?_⟩ hc, Mv.of (mv_gr hc)⟩
  · have h1 := (HP.out.rd.1.set_ 2 (.int .i64 ((a : Int) + d))).drew
    rw [← HE.out]
    simpa using h1
  · exact own_chg HP.out.rd.2 hc (fun i hi e => HN.out (by rw [hi, e]))

theorem xor_u32 (x : Nat) (hx : x < 65536) : bits BinOp.xor IntKind.u32 (x : Int) 65535 = ((x ^^^ 65535 : Nat) : Int) := by
  simpa using u32_xor_nat x 65535 (by omega) (by omega)

set_option maxHeartbeats 1000000 in
set_option maxRecDepth 100000 in
theorem pplain (w : World) (g gr a most : Nat) (bs out : List Nat) (S So fx : Value) (hP : Pk w g gr bs a S most out So fx) :
    Calls Try.prog 32 #[.pointer (some ⟨g, 0, none⟩)] w (GotB w g gr bs a S most out So fx .stored) := by
  have c0 := hP.c0
  have HP := keepf hP
  have HA := keepf (palign w g gr a most bs out S So fx hP)
  clear hP
  go_enter Try.func32, Try.ntmps32
  go_upto_region 3 with (first
    | (go_at_call 49; refine HA.out.mono ?_; rintro e w1 ⟨rfl, hP1, hm1⟩; have c01 := hP1.c0; have HG1 := keepf (pget w1 g gr _ 16 most bs out S So fx hP1 (by omega)); have HM1 := keepf hm1; clear hP1 hm1)
    | (go_at_call 31; refine HG1.out.mono ?_; rintro e w2 ⟨x, b, k, rfl, hP2, hm2, hx, hk⟩; have c02 := hP2.c0; have HP2 := keepf hP2; have HM2 := keepf (HM1.out.trans hm2); have HK := keepf hk; clear hP2 hm2 hk))
  obtain ⟨a1, ha1⟩ : ∃ a1, a1 = (a + 7) / 8 * 8 := ⟨_, rfl⟩
  have HA1 := keepf ha1
  have HK2 : Hid ((k = 0 ∧ b = a1 + 16 ∧ a1 + 16 ≤ 8 * bs.length ∧ x = numAt false bs a1 16) ∨ (k = 10 ∧ b = a1 ∧ x = 0 ∧ 8 * bs.length < a1 + 16)) := by rw [ha1]; exact HK.out
  clear ha1 HK c0 c01 HA HG1 HM1
  rcases HK2.out with ⟨rfl, rfl, hle, hxe⟩ | ⟨rfl, rfl, rfl, hlt⟩
  · have HXE := keepf hxe
    have HL1 := keepf hle
    have hx16 : x < 65536 := by simpa using hx
    have HG2 := keepf (pget w2 g gr _ 16 most bs out S So fx HP2.out (by omega))
    clear hxe hle hx
    go_upto_region 6 with (go_at_call 31; refine HG2.out.mono ?_; rintro e w3 ⟨y, b, k, rfl, hP3, hm3, hy, hk⟩; have c03 := hP3.c0; have HP3 := keepf hP3; have HM3 := keepf (HM2.out.trans hm3); have HK3 := keepf hk; clear hP3 hm3 hk)
    rcases HK3.out with ⟨rfl, rfl, hle, hye⟩ | ⟨rfl, rfl, rfl, hlt⟩
    · have HYE := keepf hye
      have HL2 := keepf hle
      have hy16 : y < 65536 := by simpa using hy
      clear hye hle hy HG2 HP2 HM2 HK2 c02
      have hxor := xor_u32 x hx16
      obtain ⟨z, hz⟩ : ∃ z, z = x ^^^ 65535 := ⟨_, rfl⟩
      rw [← hz] at hxor
      have hz32 : z < 65536 := by rw [hz]; exact Nat.xor_lt_two_pow (n := 16) hx16 (by omega)
      have HZ := keepf hz
      clear hz
      by_cases hyz : y = z
      · have d1 : ((y : Int) == (z : Int)) = true := by rw [hyz]; simp
        have d2 : (y == z) = true := by simpa using hyz
        have HYZ := keepf hyz
        clear hyz
        go_wp2_with fail
        clear d1 d2 hxor
        have hstart : ∀ last, Leads bs most ⟨a, out, .stored last⟩ ⟨a1 + 16 + 16, out, .plain x last⟩ := fun last => .step (.stored (by
          unfold stStored
          rw [← HA1.out, if_neg (by have := HL2.out; omega), ← HYE.out, ← HXE.out, if_neg (by rw [HYZ.out, HZ.out]; simp)]))
        have HS := keepf hstart
        clear hstart
        go_loopw [40] (fun vb wr => ∃ (j b : Nat) (out' : List Nat) (So' : Value), j ≤ x ∧ vb = .int .u32 j ∧ Hid (a ≤ b) ∧ Hid (Pk wr g gr bs b S most out' So' fx) ∧ Hid (Mv g gr w So wr So') ∧ Hid (∀ last, Leads bs most ⟨a, out, .stored last⟩ ⟨b, out', .plain (x - j) last⟩)) (fun vb _ => x - (intOf vb).toNat)
        case atStart => exact ⟨0, _, out, So, Nat.zero_le _, rfl, (by show a ≤ _; have := HA1.out; omega), HP3.out, HM3.out, HS.out⟩
        case round =>
          obtain ⟨j, b, out', So', hj, rfl, HAB, HPj, HMj, HLj⟩ := hrel
          have c0j := HPj.out.c0
          by_cases hlt : j < x
          · have HGj := keepf (pget wr g gr b 8 most bs out' S So' fx HPj.out (by omega))
            go_upto_region 13 with (go_at_call 31; refine HGj.out.mono ?_; rintro e w4 ⟨v, b4, k, rfl, hP4, hm4, hv, hk⟩; have c04 := hP4.c0; have HP4 := keepf hP4; have HM4 := keepf (HMj.out.trans hm4); have HK4 := keepf hk; clear hP4 hm4 hk)
            have hv8 : v < 256 := by simpa using hv
            clear hv
            rcases HK4.out with ⟨rfl, rfl, hle, hve⟩ | ⟨rfl, rfl, rfl, hlt2⟩
            · have HVE := keepf hve
              have HL4 := keepf hle
              clear hve hle
              by_cases hm : out'.length < most
              · have HPT := keepf (pput w4 g gr _ most v bs out' S So' fx HP4.out hm)
                have HMM := keepf hm
                clear hm
                go_wp2_with (go_at_call 50; refine HPT.out.mono ?_; rintro e w5 ⟨So5, rfl, hP5, hm5⟩; have HP5 := keepf hP5; have HM5 := keepf (HM4.out.trans hm5); clear hP5 hm5)
                go_roundw
                case rel =>
                  refine ⟨j + 1, b + 8, out' ++ [v], So5, by omega, by go_num, (by show a ≤ _; have := HAB.out; omega), HP5.out, HM5.out, fun last => (HLj.out last).then (.plain ?_)⟩
                  unfold stPlain
                  rw [if_neg (by omega), if_neg (by have := HL4.out; omega), if_neg (by have := HMM.out; omega), ← HVE.out, show x - j - 1 = x - (j + 1) from by omega]
                case measure => simp [intOf]; omega
              · have HPT := keepf (pput_no w4 g gr _ most v bs out' S So' fx HP4.out (by omega))
                have HMM := keepf hm
                clear hm
                go_wp2_with (go_at_call 50; refine HPT.out.mono ?_; rintro e w5 ⟨rfl, m5, rfl⟩)
                go_ret
                refine ⟨3, _, _, _, rfl, HP4.out.drewN m5, HM4.out.drewN m5, .inr ⟨by omega, fun last => (HLj.out last).stop (.plain ?_)⟩⟩
                unfold stPlain
                rw [if_neg (by omega), if_neg (by have := HL4.out; omega), if_pos (by have := HMM.out; omega)]
            · have HL4 := keepf hlt2
              go_wp2_with fail
              go_ret
              refine ⟨10, _, _, _, rfl, HP4.out, HM4.out, .inr ⟨by omega, fun last => (HLj.out last).stop (.plain ?_)⟩⟩
              unfold stPlain
              rw [if_neg (by omega), if_pos (by have := HL4.out; omega)]
          · obtain rfl : x = j := by omega
            go_wp2_with fail
            go_ret
            refine ⟨0, b, out', So', rfl, HPj.out, HMj.out, .inl ⟨rfl, HAB.out, fun last => ?_⟩⟩
            have := HLj.out last
            rw [Nat.sub_self] at this
            exact this
      · have d1 : ((y : Int) == (z : Int)) = false := by simp; omega
        have d2 : (y == z) = false := by simpa using hyz
        have HYZ := keepf hyz
        clear hyz
        go_wp2_with fail
        go_ret
        refine ⟨11, _, _, _, rfl, HP3.out, HM3.out, .inr ⟨by omega, fun last => .stop (.stored ?_)⟩⟩
        unfold stStored
        rw [← HA1.out, if_neg (by have := HL2.out; omega), ← HYE.out, ← HXE.out, if_pos (by rw [← HZ.out]; exact HYZ.out)]
    · have HL2 := keepf hlt
      go_wp2_with fail
      go_ret
      refine ⟨10, _, _, _, rfl, HP3.out, HM3.out, .inr ⟨by omega, fun last => .stop (.stored ?_)⟩⟩
      unfold stStored
      rw [if_pos (by have := HA1.out; have := HL2.out; omega)]
  · go_wp2_with fail
    go_ret
    refine ⟨10, _, _, _, rfl, HP2.out, HM2.out, .inr ⟨by omega, fun last => .stop (.stored ?_)⟩⟩
    unfold stStored
    rw [if_pos (by have := HA1.out; omega)]
end Go.Proofs.Ytbdnhhhagpgibaa
