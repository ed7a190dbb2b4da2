/- The codes that a block tells ahead of its symbols. -/
import Derived.Test.YtbdnhhhagpgibaaOwnP
namespace Go.Proofs.Ytbdnhhhagpgibaa
open Go.RowKit
set_option linter.unusedVariables false
set_option linter.unusedSimpArgs false

theorem size_i64 (w : World) : (sizeOf (Try.prog.elem 32)).run Try.prog w = .ok 1 w := by go_simp
theorem map_add_zero_I (A : Option Addr) : A.map (·.add (0 * 1)) = A := by
  cases A with
  | none => rfl
  | some a => simp [Addr.add]
set_option maxRecDepth 100000 in
theorem slice_toI (A : Option Addr) (len cap m : Nat) (hm : m ≤ cap) (w : World) : (Instr.sliceAt 32 (.slice A len cap) none (some (.int .i64 (m : Nat))) none).run Try.prog w = .ok (.slice A m cap) w := by
  rw [run_sliceAt_slice w _ _ _ _ _ Try.underlying32, run_slice_h w _ A len cap Try.underlying32 .i64 (m : Nat) (by omega) (by omega), size_i64]
  simp [Result.andThen, sliced, Addr.add]
set_option maxRecDepth 100000 in
theorem slice_fromI (b off len cap m : Nat) (hm : m ≤ len) (hc : m < cap) (w : World) : (Instr.sliceAt 32 (.slice (some ⟨b, off, none⟩) len cap) (some (.int .i64 (m : Nat))) none none).run Try.prog w = .ok (.slice (some ⟨b, off + m, none⟩) (len - m) (cap - m)) w := by
  rw [run_sliceAt_slice w _ _ _ _ _ Try.underlying32, run_slice_l w _ _ len cap Try.underlying32 .i64 (m : Nat) (by omega) (by omega), size_i64]
  have hne : ¬ (cap = m) := by omega
  by_cases h0 : m = 0
  · subst h0; simp [Result.andThen, sliced, hne, Addr.add]
  · simp [Result.andThen, sliced, hne, Addr.add, h0]
theorem src_takeI {w : World} {g off n c k : Nat} {l : List Int} (h : Src w 1 (some ⟨g, off, none⟩) n c (icells l)) (hl : l.length = n) (hk : k ≤ n) : Src w 1 (some ⟨g, off, none⟩) (l.take k).length c (icells (l.take k)) := by
  refine ⟨by simp [icells], fun e => (by cases e), fun ad e j u hu => ?_⟩
  refine h.2.2 ad e j u ?_
  have hj : j < k := by
    have := (List.getElem?_eq_some_iff.1 hu).1
    simp [icells] at this
    omega
  simp only [icells, List.map_take] at hu ⊢
  rw [List.getElem?_take, if_pos hj] at hu
  exact hu
theorem src_dropI {w : World} {g n c k : Nat} {l : List Int} (h : Src w 1 (some ⟨g, 0, none⟩) n c (icells l)) (hl : l.length = n) (hk : k ≤ n) : Src w 1 (some ⟨g, k, none⟩) (l.drop k).length (c - k) (icells (l.drop k)) := by
  refine ⟨by simp [icells], fun e => (by cases e), fun ad e j u hu => ?_⟩
  cases e
  have h1 := h.2.2 _ rfl (k + j) u (by simpa [icells, List.getElem?_drop] using hu)
  rw [Addr.add_mid] at h1 ⊢
  simpa using h1

/-- Behind ownCodes. -/
def GotO (w : World) (g gr : Nat) (bs : List Nat) (a : Nat) (S : Value) (most : Nat) (out : List Nat) (So fx : Value) (e : Ending) (w' : World) : Prop :=
  ∃ b : Nat, Pk w' g gr bs b S most out So fx ∧ Mv g gr w So w' So ∧ a ≤ b ∧
    ((∃ (c : Nat) (ls ds : List Int), e = .returned (.tuple #[.pointer (some ⟨c, 0, none⟩), .int .i64 0]) ∧ Cd w' c ls ds ∧ ∀ last, Leads bs most ⟨a, out, .own last⟩ ⟨b, out, .coded ls ds last⟩) ∨
      (∃ k : Int, (k = 10 ∨ k = 11 ∨ k = 13) ∧ e = .returned (.tuple #[.pointer none, .int .i64 k]) ∧ ∀ last, Runs bs most ⟨a, out, .own last⟩ (.err k)))

set_option maxHeartbeats 4000000 in
set_option maxRecDepth 100000 in
theorem pownCodes (w : World) (g gr a most : Nat) (bs out : List Nat) (S So fx : Value) (hP : Pk w g gr bs a S most out So fx) :
    Calls Try.prog 34 #[.pointer (some ⟨g, 0, none⟩)] w (GotO w g gr bs a S most out So fx) := by
  have HP := keepf hP
  have HM1 := keepf (pmore w g gr a 5 257 most bs out S So fx hP (by omega) (by omega))
  clear hP
  go_enter Try.func34, Try.ntmps34
  go_upto_region 2 with (go_at_call 52; refine HM1.out.mono ?_; rintro e w2 ⟨x, b, k, rfl, hP2, hm2, hx, hk⟩; have HP2 := keepf hP2; have HV2 := keepf hm2; have HX := keepf hx; have HK2 := keepf hk; clear hP2 hm2 hx hk)
  rcases HK2.out with ⟨rfl, rfl, hle2, hxe⟩ | ⟨rfl, rfl, hlt⟩
  · have HXE := keepf hxe
    have HLE2 := keepf hle2
    have hx288 : x ≤ 288 := by have := HX.out; omega
    have hx257 : 257 ≤ x := by omega
    have HM2 := keepf (pmore w2 g gr _ 5 1 most bs out S So fx HP2.out (by omega) (by omega))
    clear hxe hle2 HM1 HK2 HX
    go_upto_region 5 with (go_at_call 52; refine HM2.out.mono ?_; rintro e w3 ⟨y, b, k, rfl, hP3, hm3, hy, hk⟩; have HP3 := keepf hP3; have HV3 := keepf (HV2.out.trans hm3); have HY := keepf hy; have HK3 := keepf hk; clear hP3 hm3 hy hk)
    rcases HK3.out with ⟨rfl, rfl, hle3, hye⟩ | ⟨rfl, rfl, hlt⟩
    · have HYE := keepf hye
      have HLE3 := keepf hle3
      have hy32 : y ≤ 32 := by have := HY.out; omega
      have hy1 : 1 ≤ y := by omega
      have HM3 := keepf (pmore w3 g gr _ 4 4 most bs out S So fx HP3.out (by omega) (by omega))
      clear hye hle3 HM2 HK3 HY HP2 HV2
      go_upto_region 8 with (go_at_call 52; refine HM3.out.mono ?_; rintro e w4 ⟨z, b, k, rfl, hP4, hm4, hz, hk⟩; have HP4 := keepf hP4; have HV4 := keepf (HV3.out.trans hm4); have HZ := keepf hz; have HK4 := keepf hk; clear hP4 hm4 hz hk)
      rcases HK4.out with ⟨rfl, rfl, hle4, hze⟩ | ⟨rfl, rfl, hlt⟩
      · have HZE := keepf hze
        have HLE4 := keepf hle4
        have hz19 : z ≤ 19 := by have := HZ.out; omega
        clear hze hle4 HM3 HK4 HZ HP3 HV3
        have hst : ∀ last, Step bs most ⟨a, out, .own last⟩ (if 286 < x ∨ 30 < y then .inr (.err 11) else .inl ⟨a + 14, out, .kinds (order.take z) (List.replicate 19 0) (x + y) x last⟩) := fun last => .own (by
          unfold stOwn
          rw [if_neg (by have := HLE4.out; omega), ← HXE.out, ← HYE.out, show a + 10 = a + 5 + 5 from by omega, ← HZE.out])
        have HST := keepf hst
        have e14 : a + 5 + 5 + 4 = a + 14 := by omega
        rw [e14] at HP4
        clear hst e14
        by_cases hbig : 286 < x ∨ 30 < y
        · have hrun : ∀ last, Runs bs most ⟨a, out, .own last⟩ (.err 11) := fun last => .stop (by have := HST.out last; rw [if_pos hbig] at this; exact this)
          have HRu := keepf hrun
          clear hrun HST
          by_cases h286 : 286 < x
          · have d1 : decide ((286 : Int) < x) = true := by simp; omega
            have d1' : decide (286 < x) = true := by simp; omega
            clear hbig
            go_wp2_with fail
            go_ret2
            exact ⟨_, HP4.out, HV4.out, by omega, .inr ⟨11, by simp, rfl, HRu.out⟩⟩
          · have d1 : decide ((286 : Int) < x) = false := by simp; omega
            have d1' : decide (286 < x) = false := by simp; omega
            have d2 : decide ((30 : Int) < y) = true := by simp; omega
            have d2' : decide (30 < y) = true := by simp; omega
            clear hbig
            go_wp2_with fail
            go_ret2
            exact ⟨_, HP4.out, HV4.out, by omega, .inr ⟨11, by simp, rfl, HRu.out⟩⟩
        · have hlead : ∀ last, Leads bs most ⟨a, out, .own last⟩ ⟨a + 14, out, .kinds (order.take z) (List.replicate 19 0) (x + y) x last⟩ := fun last => .step (by have := HST.out last; rw [if_neg hbig] at this; exact this)
          have HL4 := keepf hlead
          have hx286 : x ≤ 286 := by omega
          have hy30 : y ≤ 30 := by omega
          have d1 : decide ((286 : Int) < x) = false := by simp; omega
          have d1' : decide (286 < x) = false := by simp; omega
          have d2 : decide ((30 : Int) < y) = false := by simp; omega
          have d2' : decide (30 < y) = false := by simp; omega
          have HK := keepf (plengthCodes w4 g gr (a + 14) most z bs out S So fx HP4.out hz19)
          clear hlead hbig HST HXE HYE HZE HLE2 HLE3 HLE4
          go_upto_region 13 with (go_at_call 53; refine HK.out.mono ?_; rintro e w5 ⟨b5, hP5, hm5, hab5, hk5⟩; have HP5 := keepf hP5; have HV5 := keepf (HV4.out.trans hm5); have HB5 := keepf hab5; clear hP5 hm5 hab5; rcases hk5 with ⟨t, l5, rfl, hmay, htb, hl5⟩ | ⟨k, hk, rfl, hru⟩)
          · have HMay := keepf hmay
            have HTb := keepf htb
            have HL5 := keepf hl5
            have hlens := plengths w5 g gr b5 most t (x + y) bs out l5 S So fx HP5.out hmay htb (by omega)
            have exy : ((x + y : Nat) : Int) = (x : Int) + y := by omega
            rw [exy] at hlens
            have HLN := keepf hlens
            clear hmay htb hl5 hlens exy HK d1 d1' d2 d2'
            go_upto_region 16 with (go_at_call 54; refine HLN.out.mono ?_; rintro e w6 ⟨b6, hP6, hm6, hab6, hk6⟩; have HP6 := keepf hP6; have HV6 := keepf (HV5.out.trans hm6); have HB6 := keepf hab6; clear hP6 hm6 hab6; rcases hk6 with ⟨A, c, l, rfl, hlen, hown, hz, hfr, hl6⟩ | ⟨k, hk, rfl, hru⟩)
            · have HN := keepf hlen
              have HO6 := keepf hown
              have HZ6 := keepf hz
              have HL6 := keepf hl6
              obtain ⟨ga, ca, hA, hcap1, hcap2⟩ := own_form hown (by omega)
              simp only [Value.slice.injEq] at hA
              obtain ⟨rfl, _, rfl⟩ := hA
              have c256 := hown.cellAt 256 (by omega)
              obtain ⟨v, hv⟩ : ∃ v, v = l.getD 256 0 := ⟨_, rfl⟩
              have hiv : (icells l)[256]? = some (.int .i64 v) := by
                rw [hv]
                simp [icells, List.getD_eq_getElem?_getD, show 256 < l.length by omega]
              rw [hiv] at c256
              have HVV := keepf hv
              rw [hlen] at hcap1
              have i1 : (256 : Int) < (x : Int) + y := by omega
              have i1' : 256 < x + y := by omega
              have hends : ∀ last, Step bs most ⟨b6, out, .lens l5 l (x + y) x last⟩ (stEnd b6 out l x last) := fun last => .lensEnd (by omega) rfl
              have HEN := keepf hends
              clear hiv hv hz hl6 hlen hfr hends hown HLN HP5 HV5 HMay HTb
              by_cases hv0 : v = 0
              · subst hv0
                have hrun : ∀ last, Runs bs most ⟨a, out, .own last⟩ (.err 11) := fun last => ((HL4.out last).trans ((HL5.out _ _ last).trans (HL6.out _ last))).stop (by have := HEN.out last; unfold stEnd at this; rw [if_pos HVV.out.symm] at this; exact this)
                have HRu := keepf hrun
                clear hrun HEN
                go_wp2_with fail
                go_ret2
                exact ⟨b6, HP6.out, HV6.out, by have := HB5.out; have := HB6.out; omega, .inr ⟨11, by simp, rfl, HRu.out⟩⟩
              · have dv : (v == 0) = false := by simpa using hv0
                have hsrc : Src w6 1 (some ⟨ga, 0, none⟩) (x + y) c (icells l) := by rw [← HN.out]; exact src_own HO6.out
                have htl : (l.take x).length = x := by rw [List.length_take, HN.out]; omega
                have hdl : (l.drop x).length = y := by rw [List.length_drop, HN.out]; omega
                have hcall : ∀ W, Chg NoS w6 W → Calls Try.prog 51 #[.slice (some ⟨ga, 0, none⟩) x c, .slice (some ⟨ga, x, none⟩) y (c - x)] W (NewC W (l.take x) (l.drop x)) := fun W hW => by
                  have h1 := newCodes_any (l.take x) (l.drop x) (some ⟨ga, 0, none⟩) (some ⟨ga, x, none⟩) c (c - x) W ((src_takeI hsrc HN.out (by omega)).below (w0 := W) hW) ((src_dropI hsrc HN.out (by omega)).below (w0 := W) hW)
                    (fun z hz => by have := HZ6.out z (List.mem_of_mem_take hz); omega) (fun z hz => by have := HZ6.out z (List.mem_of_mem_drop hz); omega) (by omega) (by omega)
                  rw [htl, hdl] at h1
                  exact h1
                have HCall := keepf hcall
                have hs1 := fun W => slice_toI (some ⟨ga, 0, none⟩) (x + y) c x (by omega) W
                have hs2 := fun W => slice_fromI ga 0 (x + y) c x (by omega) (by omega) W
                rw [show 0 + x = x from by omega, show x + y - x = y from by omega] at hs2
                have HV0 := keepf hv0
                clear hsrc hcall htl hdl hv0
                go_upto_region 20 with fail
                first
                  | (go_loud (go_region_held3 (fun _ => True)
                      (trivial)
                      (first
                        | (go_at_call 51; refine (HCall.out _ ((Chg.refl NoS w6).drew)).mono ?_; rintro e w7 ⟨p7, k, rfl, hc7, hk7⟩; have HC7 := keepf (Chg.undrewN (n := 1) hc7); have HK7 := keepf hk7; clear hc7 hk7))))
                  | fail "region"
                go_wp2_with fail
                go_ret2
                refine ⟨b6, HP6.out.news HC7.out, HV6.out.news HC7.out, by have := HB5.out; have := HB6.out; omega, ?_⟩
                rcases HK7.out with ⟨rfl, hm1, hm2, cg, rfl, hcd, _⟩ | ⟨rfl, rfl, hm⟩
                · refine .inl ⟨cg, l.take x, l.drop x, rfl, hcd, fun last => ((HL4.out last).trans ((HL5.out _ _ last).trans (HL6.out _ last))).then ?_⟩
                  have := HEN.out last
                  unfold stEnd at this
                  rw [if_neg (by rw [← HVV.out]; exact HV0.out), if_neg (by simpa using hm1), if_neg (by simpa using hm2)] at this
                  exact this
                · refine .inr ⟨13, by simp, rfl, fun last => ((HL4.out last).trans ((HL5.out _ _ last).trans (HL6.out _ last))).stop ?_⟩
                  have := HEN.out last
                  unfold stEnd at this
                  rw [if_neg (by rw [← HVV.out]; exact HV0.out)] at this
                  by_cases h1 : May (l.take x)
                  · rw [if_neg (by simpa using h1), if_pos (by rcases hm with h | h; exact absurd h1 h; exact h)] at this
                    exact this
                  · rw [if_pos h1] at this
                    exact this
            · have hrun : ∀ last, Runs bs most ⟨a, out, .own last⟩ (.err k) := fun last => (HL4.out last) _ ((HL5.out _ _ last) _ (hru _ last))
              have HRu := keepf hrun
              clear hrun hru
              rcases hk with rfl | rfl | rfl
              all_goals
                go_wp2_with fail
                go_ret2
                exact ⟨b6, HP6.out, HV6.out, by have := HB5.out; have := HB6.out; omega, .inr ⟨_, by simp, rfl, HRu.out⟩⟩
          · have hrun : ∀ last, Runs bs most ⟨a, out, .own last⟩ (.err k) := fun last => HL4.out last _ (hru _ _ last)
            have HRu := keepf hrun
            clear hrun hru
            rcases hk with rfl | rfl
            all_goals
              go_wp2_with fail
              go_ret2
              exact ⟨b5, HP5.out, HV5.out, by have := HB5.out; omega, .inr ⟨_, by simp, rfl, HRu.out⟩⟩
      · go_wp2_with fail
        go_ret2
        refine ⟨_, HP4.out, HV4.out, by omega, .inr ⟨10, by simp, rfl, fun last => .stop (.own ?_)⟩⟩
        unfold stOwn
        rw [if_pos (by omega)]
    · go_wp2_with fail
      go_ret2
      refine ⟨_, HP3.out, HV3.out, by omega, .inr ⟨10, by simp, rfl, fun last => .stop (.own ?_)⟩⟩
      unfold stOwn
      rw [if_pos (by omega)]
  · go_wp2_with fail
    go_ret2
    refine ⟨_, HP2.out, HV2.out, by omega, .inr ⟨10, by simp, rfl, fun last => .stop (.own ?_)⟩⟩
    unfold stOwn
    rw [if_pos (by omega)]
end Go.Proofs.Ytbdnhhhagpgibaa
