/- A block's symbols. -/
import Derived.Test.YtbdnhhhagpgibaaPlainP
import Derived.Test.YtbdnhhhagpgibaaRepP
import Derived.Test.YtbdnhhhagpgibaaLenD
import Derived.Test.YtbdnhhhagpgibaaHop
namespace Go.Proofs.Ytbdnhhhagpgibaa
open Go.RowKit
set_option linter.unusedVariables false
set_option linter.unusedSimpArgs false

/-- At a symbol: n bits are left. -/
def SymR (w : World) (g gr : Nat) (bs : List Nat) (a : Nat) (S : Value) (most : Nat) (out : List Nat) (So fx : Value) (ls ds : List Int) (n : Nat) (w' : World) : Prop :=
  ∃ (b : Nat) (out' : List Nat) (So' : Value), n = 8 * bs.length - b ∧ Pk w' g gr bs b S most out' So' fx ∧ Mv g gr w So w' So' ∧ a ≤ b ∧ ∀ last, Leads bs most ⟨a, out, .coded ls ds last⟩ ⟨b, out', .coded ls ds last⟩
def SymJ (w : World) (g gr : Nat) (bs : List Nat) (a : Nat) (S : Value) (most : Nat) (out : List Nat) (So fx : Value) (c : Nat) (ls ds : List Int) (n : Nat) (x : Act) (w' : World) : Prop :=
  x.defers = [] ∧ x.tmps.size = 87 ∧ x.tmps.getD 0 undef = .pointer (some ⟨g, 0, none⟩) ∧ x.tmps.getD 1 undef = .pointer (some ⟨c, 0, none⟩) ∧ SymR w g gr bs a S most out So fx ls ds n w'
theorem SymJ.elim {w : World} {g gr : Nat} {bs : List Nat} {a : Nat} {S : Value} {most : Nat} {out : List Nat} {So fx : Value} {c : Nat} {ls ds : List Int} {n : Nat} {x : Act} {w' : World} {C : Act → Prop} (h : SymJ w g gr bs a S most out So fx c ls ds n x w')
    (k : SymR w g gr bs a S most out So fx ls ds n w' → ∀ f : Nat → Value, C { tmps := #[.pointer (some ⟨g, 0, none⟩), .pointer (some ⟨c, 0, none⟩), f 2, f 3, f 4, f 5, f 6, f 7, f 8, f 9, f 10, f 11, f 12, f 13, f 14, f 15, f 16, f 17, f 18, f 19, f 20, f 21, f 22, f 23, f 24, f 25, f 26, f 27, f 28, f 29, f 30, f 31, f 32, f 33, f 34, f 35, f 36, f 37, f 38, f 39, f 40, f 41, f 42, f 43, f 44, f 45, f 46, f 47, f 48, f 49, f 50, f 51, f 52, f 53, f 54, f 55, f 56, f 57, f 58, f 59, f 60, f 61, f 62, f 63, f 64, f 65, f 66, f 67, f 68, f 69, f 70, f 71, f 72, f 73, f 74, f 75, f 76, f 77, f 78, f 79, f 80, f 81, f 82, f 83, f 84, f 85, f 86], defers := [] }) : C x := by
  obtain ⟨t, d⟩ := x
  obtain ⟨h1, h2, h3, h4, hR⟩ := h
  simp only at h1 h2 h3 h4
  subst h1
  have h5 := k hR (fun i => t.getD i undef)
  rw [← h3, ← h4] at h5
  rw [arr_any t 87 h2]
  exact h5

set_option maxHeartbeats 4000000 in
set_option maxRecDepth 100000 in
theorem psymbols (w : World) (g gr a most c : Nat) (bs out : List Nat) (ls ds : List Int) (S So fx : Value) (hP : Pk w g gr bs a S most out So fx) (hC : Cd w c ls ds) :
    Calls Try.prog 35 #[.pointer (some ⟨g, 0, none⟩), .pointer (some ⟨c, 0, none⟩)] w (GotB w g gr bs a S most out So fx (.coded ls ds)) := by
  have HP := keepf hP
  have HC := keepf hC
  clear hP hC
  go_enter Try.func35, Try.ntmps35
  go_wp2
  refine wp_scope_hops 0 1 (SymJ w g gr bs a S most out So fx c ls ds) rfl rfl ?pass ?first
  case first =>
    intro hpass
    have HPass := keepf hpass
    clear hpass
    go_wp2
    go_step3
    rename_i hK
    refine hK _ _ (HPass.out _ _ _ ⟨rfl, rfl, rfl, rfl, a, out, So, rfl, HP.out, Mv.refl _ _ _ _, Nat.le_refl _, fun last => Leads.refl _⟩)
  case pass =>
    intro n x w1 hx
    refine SymJ.elim hx (C := fun y => Code.wp _ _ _ y w1) ?_
    rintro ⟨b, out1, So1, rfl, hP1, hm1, hab, hl1⟩
    clear hx
    intro f
    have hC1 := HP.out.cd HC.out hm1.1
    obtain ⟨gs, gd, hB1, hT1, hD1, hMs, hMd⟩ := hC1
    have c0 := hP1.c0
    have s0 := hB1.cell 0
    simp at s0
    have lg : g < w1.heap.size := hP1.blk.lt
    have HP1 := keepf hP1
    have HM1 := keepf hm1
    have HAB := keepf hab
    have HL1 := keepf hl1
    have HB1 := keepf hB1
    have HT1 := keepf hT1
    have HD1 := keepf hD1
    have HMs := keepf hMs
    have HMd := keepf hMd
    have HSY := keepf (psym w1.drew g gr b most gs bs out1 ls S So1 fx (hP1.news ((Chg.refl NoS _).drew)) hMs (hT1.chg ((Chg.refl NoS _).drew) (fun h => h)))
    have hcell : ∀ W, Chg (KP g gr So1) w1.drew W → W.cell? ⟨c, 0, none⟩ = some (.pointer (some ⟨gs, 0, none⟩)) := fun W hW => by
      have h1 := (hB1.chg ((Chg.refl NoS _).drew) (fun h => h)).chg hW ((hP1.news ((Chg.refl NoS _).drew)).no_blk (hB1.chg ((Chg.refl NoS _).drew) (fun h => h)) (by decide) (by decide) (by decide))
      rw [h1.cell]
      rfl
    have HCell := keepf hcell
    clear hP1 hm1 hab hl1 hB1 hT1 hD1 hMs hMd hcell
    go_upto_region 3 with fail
    first
      | (go_loud (go_region_held3 (fun w2 => w2.cell? ⟨g, 0, none⟩ = some (.pointer (some ⟨gr, 0, none⟩)) ∧ w2.cell? ⟨c, 0, none⟩ = some (.pointer (some ⟨gs, 0, none⟩)))
          (first | (go_keep; done) | exact ⟨by assumption, by assumption⟩)
          (first
            | (go_at_call 55; refine HSY.out.mono ?_; rintro e w3 ⟨s, m, k, rfl, ho, hP3, hm3, hs3, hs4⟩; have e1 := hP3.c0; have e2 := HCell.out _ hm3.1; have HO3 := keepf ho; have HP3 := keepf hP3; have HM3 := keepf hm3; have HS3 := keepf hs3; have HS4 := keepf hs4; clear ho hP3 hm3 hs3 hs4))))
      | fail "region"
    have HMa := keepf (HM1.out.trans ⟨HM3.out.1.undrewN (n := 1), HM3.out.2⟩)
    have hble : b ≤ 8 * bs.length := HP1.out.le
    have hbml : b + m ≤ 8 * bs.length := HP3.out.le
    clear c0 s0 HSY HM3 HCell lg e1 e2
    by_cases hk : k = 0
    · subst hk
      have hm0 := (HS4.out rfl).1
      have HM0 := keepf hm0
      clear hm0
      by_cases h256 : s = 256
      · subst h256
        go_wp2_with fail
        simp only [hop]
        go_ret
        refine ⟨0, b + m, out1, So1, rfl, HP3.out, HMa.out, .inl ⟨rfl, by have := HAB.out; omega, fun last => (HL1.out last).then (.coded HO3.out ?_)⟩⟩
        simp [stCoded]
      · have d1 : ((s : Int) == 256) = false := by simp; omega
        have d1' : (s == 256) = false := by simp; omega
        by_cases hlt : s < 256
        · have d2 : decide ((256 : Int) < s) = false := by simp; omega
          have d2' : decide (256 < s) = false := by simp; omega
          by_cases hfull : most ≤ out1.length
          · have HPT := keepf (pput_no w3 g gr _ most s bs out1 S So1 fx HP3.out hfull)
            have HF := keepf hfull
            clear hfull
            go_wp2_with (go_at_call 50; refine HPT.out.mono ?_; rintro e w5 ⟨rfl, m5, rfl⟩)
            simp only [hop]
            go_ret
            refine ⟨3, b + m, out1, So1, rfl, HP3.out.drewN m5, HMa.out.drewN m5, .inr ⟨by omega, fun last => (HL1.out last).stop (.coded HO3.out ?_)⟩⟩
            unfold stCoded
            rw [if_neg (by omega), if_neg h256, if_pos hlt, if_pos HF.out]
          · have HPT := keepf (pput w3 g gr _ most s bs out1 S So1 fx HP3.out (by omega))
            have HF := keepf hfull
            clear hfull
            go_wp2_with (go_at_call 50; refine HPT.out.mono ?_; rintro e w5 ⟨So5, rfl, hP5, hm5⟩; have HP5 := keepf hP5; have HM5 := keepf (HMa.out.trans hm5); clear hP5 hm5)
            go_step3
            refine Or.inl ⟨rfl, 8 * bs.length - (b + m), by have := HM0.out; omega, ?_⟩
            refine ⟨rfl, rfl, rfl, rfl, b + m, out1 ++ [s], So5, rfl, HP5.out, HM5.out, by have := HAB.out; omega, fun last => (HL1.out last).then (.coded HO3.out ?_)⟩
            unfold stCoded
            rw [if_neg (by omega), if_neg h256, if_pos hlt, if_neg HF.out]
        · have d2 : decide ((256 : Int) < s) = true := by simp; omega
          have d2' : decide (256 < s) = true := by simp; omega
          have hs320 : s < 320 := HS3.out
          have HO4 := keepf HO3.out
          cases hlen : lenOf s with
          | none =>
            have hno : s < 257 ∨ 285 < s := by
              unfold lenOf at hlen
              by_cases e : s < 257 ∨ 285 < s
              · exact e
              · rw [if_neg e] at hlen
                repeat' split at hlen
                all_goals cases hlen
            have HLN := keepf (length_no s w3 (by omega) (by omega) (by omega))
            have HMN := keepf (pmore_no g 0 0 w3)
            have hrun : ∀ last, Runs bs most ⟨a, out, .coded ls ds last⟩ (.err 11) := fun last => (HL1.out last).stop (.coded HO3.out (by unfold stCoded; rw [if_neg (by omega), if_neg h256, if_neg hlt, hlen]))
            have HR := keepf hrun
            clear hrun hlen hno
            go_wp2_with fail
            go_step3
            refine Or.inr ⟨rfl, ?_⟩
            go_wp2_with (first
              | (go_at_call 10; refine HLN.out.mono ?_; rintro e w5 ⟨rfl, rfl⟩)
              | (go_at_call 52; refine HMN.out.mono ?_; rintro e w5 ⟨rfl, rfl⟩))
            simp only [Exit.jump]
            go_ret
            exact ⟨11, b + m, out1, So1, rfl, HP3.out, HMa.out, .inr ⟨by omega, HR.out⟩⟩
          | some xn =>
            obtain ⟨y, nn⟩ := xn
            obtain ⟨hy1, hy2, _, _⟩ := lenOf_le hlen
            have HLN := keepf (length_ok s y nn w3 hlen)
            have HMO := keepf (pmore w3 g gr _ nn y most bs out1 S So1 fx HP3.out (by omega) (by omega))
            have hp6 : 2 ^ nn ≤ 2 ^ 6 := Nat.pow_le_pow_right (by decide) hy2
            have HP6 := keepf hp6
            have hstep : ∀ last, Step bs most ⟨b, out1, .coded ls ds last⟩ (if 8 * bs.length < b + m + nn then .inr (.err 10) else .inl ⟨b + m + nn, out1, .dist (y + numAt false bs (b + m) nn) ls ds last⟩) := fun last => .coded HO3.out (by unfold stCoded; rw [if_neg (by omega), if_neg h256, if_neg hlt, hlen])
            have HST := keepf hstep
            clear hstep hlen hp6 hy2 HO4
            go_wp2_with fail
            go_step3
            refine Or.inr ⟨rfl, ?_⟩
            go_upto_region 11 with (first
              | (go_at_call 10; refine HLN.out.mono ?_; rintro e w5 ⟨rfl, rfl⟩)
              | (go_at_call 52; refine HMO.out.mono ?_; rintro e w5 ⟨z, b5, k, rfl, hP5, hm5, hz, hk⟩; have HP5 := keepf hP5; have HM5 := keepf (HMa.out.trans hm5); have HZ := keepf hz; have HK := keepf hk; clear hP5 hm5 hz hk))
            rcases HK.out with ⟨rfl, rfl, hle, hze⟩ | ⟨rfl, rfl, hlt5⟩
            · have hstep : ∀ last, Leads bs most ⟨a, out, .coded ls ds last⟩ ⟨b + m + nn, out1, .dist z ls ds last⟩ := fun last => (HL1.out last).then (by have := HST.out last; rw [if_neg (by omega), ← hze] at this; exact this)
              have HL5 := keepf hstep
              have hz100 : z ≤ 1000 := by have := HZ.out; have := HP6.out; omega
              have HLE5 := keepf hle
              have hab5 : a ≤ b + m + nn := by have := HAB.out; omega
              have hn5 : 8 * bs.length - (b + m + nn) < 8 * bs.length - b := by have := HM0.out; omega
              clear hstep hle hze d1 d1' d2 d2' HST HMO HLN HK HMa HS4 HB1 HT1 HD1 HMs HMd HO3 HP3 HS3 HL1 HM0 hble hbml h256 hlt hs320 HZ HP6
              obtain ⟨b5, hb5⟩ : ∃ b5, b5 = b + m + nn := ⟨_, rfl⟩
              rw [← hb5] at HP5 HL5 HLE5 hab5 hn5
              have HAB5 := keepf hab5
              have HN5 := keepf hn5
              clear hb5 hab5 hn5 HAB hy1
              have hC5 := HP.out.cd HC.out HM5.out.1
              obtain ⟨gs5, gd5, hB5, hT5, hD5, hMs5, hMd5⟩ := hC5
              have c05 := HP5.out.c0
              have s05 := hB5.cell 1
              simp at s05
              have HMd5 := keepf hMd5
              have HSY5 := keepf (psym w5.drew g gr b5 most gd5 bs out1 ds S So1 fx (HP5.out.news ((Chg.refl NoS _).drew)) hMd5 (hD5.chg ((Chg.refl NoS _).drew) (fun h => h)))
              have hcell5 : ∀ W, Chg (KP g gr So1) w5.drew W → W.cell? ⟨c, 1, none⟩ = some (.pointer (some ⟨gd5, 0, none⟩)) := fun W hW => by
                have h1 := (hB5.chg ((Chg.refl NoS _).drew) (fun h => h)).chg hW ((HP5.out.news ((Chg.refl NoS _).drew)).no_blk (hB5.chg ((Chg.refl NoS _).drew) (fun h => h)) (by decide) (by decide) (by decide))
                rw [h1.cell]
                rfl
              have HCell5 := keepf hcell5
              clear hB5 hT5 hD5 hMs5 hMd5 hcell5
              go_upto_region 13 with fail
              first
                | (go_loud (go_region_held3 (fun w2 => w2.cell? ⟨g, 0, none⟩ = some (.pointer (some ⟨gr, 0, none⟩)) ∧ w2.cell? ⟨c, 1, none⟩ = some (.pointer (some ⟨gd5, 0, none⟩)))
                    (first | (go_keep; done) | exact ⟨by assumption, by assumption⟩)
                    (first
                      | (go_at_call 55; refine HSY5.out.mono ?_; rintro e w6 ⟨t, m6, k, rfl, ho, hP6, hm6, hs6, hs7⟩; have e1 := hP6.c0; have e2 := HCell5.out _ hm6.1; have HO6 := keepf ho; have HP6 := keepf hP6; have HM6 := keepf hm6; have HS6 := keepf hs6; clear ho hP6 hm6 hs6 hs7))))
                | fail "region"
              have HMb := keepf (HM5.out.trans ⟨HM6.out.1.undrewN (n := 1), HM6.out.2⟩)
              clear c05 s05 HSY5 HM6 HCell5 e1 e2 HM5
              by_cases hk : k = 0
              · subst hk
                have ht320 : t < 320 := HS6.out
                cases hdist : distOf t with
                | none =>
                  have hno : 29 < t := by
                    unfold distOf at hdist
                    by_cases e : 29 < t
                    · exact e
                    · rw [if_neg e] at hdist
                      repeat' split at hdist
                      all_goals cases hdist
                  have HLN := keepf (distance_no t w6 (by omega) (by omega) (by omega))
                  have HMN := keepf (pmore_no g 0 0 w6)
                  have hrun : ∀ last, Runs bs most ⟨a, out, .coded ls ds last⟩ (.err 11) := fun last => (HL5.out last).stop (.dist HO6.out (by unfold stDist; rw [if_neg (by omega), hdist]))
                  have HR := keepf hrun
                  clear hrun hdist hno
                  go_wp2_with (first
                    | (go_at_call 12; refine HLN.out.mono ?_; rintro e w7 ⟨rfl, rfl⟩)
                    | (go_at_call 52; refine HMN.out.mono ?_; rintro e w7 ⟨rfl, rfl⟩))
                  simp only [Exit.jump]
                  go_ret
                  exact ⟨11, _, out1, So1, rfl, HP6.out, HMb.out, .inr ⟨by omega, HR.out⟩⟩
                | some yn =>
                  obtain ⟨y, nn6⟩ := yn
                  obtain ⟨hy0, hy1, hy2⟩ := distOf_le hdist
                  have HLN := keepf (distance_ok t y nn6 w6 hdist)
                  have HMO := keepf (pmore w6 g gr _ nn6 y most bs out1 S So1 fx HP6.out (by omega) (by omega))
                  have hp14 : 2 ^ nn6 ≤ 2 ^ 14 := Nat.pow_le_pow_right (by decide) hy2
                  have HP14 := keepf hp14
                  have hstep : ∀ last, Step bs most ⟨b5, out1, .dist z ls ds last⟩ (if 8 * bs.length < b5 + m6 + nn6 then .inr (.err 10) else if out1.length < y + numAt false bs (b5 + m6) nn6 then .inr (.err 14) else if most - out1.length < z then .inr (.err 3) else .inl ⟨b5 + m6 + nn6, rep (y + numAt false bs (b5 + m6) nn6) z out1, .coded ls ds last⟩) := fun last => .dist HO6.out (by unfold stDist; rw [if_neg (by omega), hdist])
                  have HST := keepf hstep
                  have HY0 := keepf hy0
                  have HLB := keepf HP6.out.le
                  clear hstep hdist hp14 hy2 HO6 hy0
                  go_upto_region 17 with (first
                    | (go_at_call 12; refine HLN.out.mono ?_; rintro e w7 ⟨rfl, rfl⟩)
                    | (go_at_call 52; refine HMO.out.mono ?_; rintro e w7 ⟨far, b7, k, rfl, hP7, hm7, hz7, hk⟩; have HP7 := keepf hP7; have HM7 := keepf (HMb.out.trans hm7); have HZ7 := keepf hz7; have HK7 := keepf hk; clear hP7 hm7 hz7 hk))
                  rcases HK7.out with ⟨rfl, rfl, hle, hfe⟩ | ⟨rfl, rfl, hlt7⟩
                  · have hst2 : ∀ last, Step bs most ⟨b5, out1, .dist z ls ds last⟩ (if out1.length < far then .inr (.err 14) else if most - out1.length < z then .inr (.err 3) else .inl ⟨b5 + m6 + nn6, rep far z out1, .coded ls ds last⟩) := fun last => by
                      have := HST.out last
                      rw [if_neg (by omega), ← hfe] at this
                      exact this
                    have HST2 := keepf hst2
                    have hfar : far ≤ 100000 := by have := HZ7.out; have := HP14.out; omega
                    have hfar0 : 1 ≤ far := by have := HY0.out; omega
                    have HF0 := keepf hfar0
                    have HLE7 := keepf hle
                    clear hst2 hle hfe HST HMO HLN HK7 HMb hfar0
                    by_cases hff : out1.length < far
                    · have HPR := keepf (prep_far w7 g gr _ most z far bs out1 S So1 fx HP7.out (by omega) hfar hff)
                      have hrun : ∀ last, Runs bs most ⟨a, out, .coded ls ds last⟩ (.err 14) := fun last => (HL5.out last).stop (by have := HST2.out last; rw [if_pos hff] at this; exact this)
                      have HR := keepf hrun
                      clear hrun hff
                      go_wp2_with (go_at_call 56; refine HPR.out.mono ?_; rintro e w8 ⟨rfl, m8, rfl⟩)
                      simp only [Exit.jump]
                      go_ret
                      exact ⟨14, _, out1, So1, rfl, HP7.out.drewN m8, HM7.out.drewN m8, .inr ⟨by omega, HR.out⟩⟩
                    · by_cases hll : most - out1.length < z
                      · have HPR := keepf (prep_long w7 g gr _ most z far bs out1 S So1 fx HP7.out (by omega) (by omega) hll)
                        have hrun : ∀ last, Runs bs most ⟨a, out, .coded ls ds last⟩ (.err 3) := fun last => (HL5.out last).stop (by have := HST2.out last; rw [if_neg hff, if_pos hll] at this; exact this)
                        have HR := keepf hrun
                        clear hrun hff hll
                        go_wp2_with (go_at_call 56; refine HPR.out.mono ?_; rintro e w8 ⟨rfl, m8, rfl⟩)
                        simp only [Exit.jump]
                        go_ret
                        exact ⟨3, _, out1, So1, rfl, HP7.out.drewN m8, HM7.out.drewN m8, .inr ⟨by omega, HR.out⟩⟩
                      · have HPR := keepf (prep w7 g gr _ most z far bs out1 S So1 fx HP7.out (by omega) HF0.out (by omega) (by omega))
                        have hlead : ∀ last, Leads bs most ⟨a, out, .coded ls ds last⟩ ⟨b5 + m6 + nn6, rep far z out1, .coded ls ds last⟩ := fun last => (HL5.out last).then (by have := HST2.out last; rw [if_neg hff, if_neg hll] at this; exact this)
                        have HR := keepf hlead
                        clear hlead hff hll
                        go_wp2_with (go_at_call 56; refine HPR.out.mono ?_; rintro e w8 ⟨So8, rfl, hP8, hm8⟩; have HP8 := keepf hP8; have HM8 := keepf (HM7.out.trans hm8); clear hP8 hm8)
                        go_step3
                        refine ⟨rfl, 8 * bs.length - (b5 + m6 + nn6), by have := HN5.out; omega, ?_⟩
                        exact ⟨rfl, rfl, rfl, rfl, _, _, So8, rfl, HP8.out, HM8.out, by have := HAB5.out; omega, HR.out⟩
                  · have hrun : ∀ last, Runs bs most ⟨a, out, .coded ls ds last⟩ (.err 10) := fun last => (HL5.out last).stop (by have := HST.out last; rw [if_pos (by omega)] at this; exact this)
                    have HR := keepf hrun
                    clear hrun hlt7
                    go_wp2_with fail
                    simp only [Exit.jump]
                    go_ret
                    exact ⟨10, _, out1, So1, rfl, HP7.out, HM7.out, .inr ⟨by omega, HR.out⟩⟩
              · have hk2 : k = 10 ∨ k = 13 := by cases HO6.out <;> simp_all
                have hrun : ∀ last, Runs bs most ⟨a, out, .coded ls ds last⟩ (.err k) := fun last => (HL5.out last).stop (.dist HO6.out (by unfold stDist; rw [if_pos hk]))
                have HR := keepf hrun
                clear hrun hk
                rcases hk2 with rfl | rfl
                all_goals
                  go_wp2_with fail
                  simp only [Exit.jump]
                  go_ret
                  exact ⟨_, _, out1, So1, rfl, HP6.out, HMb.out, .inr ⟨by omega, HR.out⟩⟩
            · have hrun : ∀ last, Runs bs most ⟨a, out, .coded ls ds last⟩ (.err 10) := fun last => (HL1.out last).stop (by have := HST.out last; rw [if_pos (by omega)] at this; exact this)
              have HR := keepf hrun
              clear hrun hlt5
              go_wp2_with fail
              simp only [Exit.jump]
              go_ret
              exact ⟨10, b + m, out1, So1, rfl, HP5.out, HM5.out, .inr ⟨by omega, HR.out⟩⟩
    · have hk2 : k = 10 ∨ k = 13 := by cases HO3.out <;> simp_all
      have hrun : ∀ last, Runs bs most ⟨a, out, .coded ls ds last⟩ (.err k) := fun last => (HL1.out last).stop (.coded HO3.out (by unfold stCoded; rw [if_pos hk]))
      have HR := keepf hrun
      clear hrun hk
      rcases hk2 with rfl | rfl
      all_goals
        go_wp2_with fail
        simp only [hop]
        go_ret
        exact ⟨_, b + m, out1, So1, rfl, HP3.out, HMa.out, .inr ⟨by omega, HR.out⟩⟩
end Go.Proofs.Ytbdnhhhagpgibaa
