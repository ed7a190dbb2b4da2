/- The walk of 'NumAgain', from what num's functions are to answer. -/
import Derived.Test.YtnkfbjddlbdnfaaDoorNBk
namespace Go.Proofs.YtnkfbjddlbdnfaaDoor.nagain
open Go.RowKit
set_option linter.unusedVariables false

set_option maxHeartbeats 2000000 in
theorem walk (H : NumOk) (s : ByteArray) (w : World) (hL : LibOk w) (ws : s.size ≤ maxLen) :
    Calls Tryd.prog 6 #[.string s] w fun e w' => e = .returned (.bool true) ∧ Below w.heap.size w w' := by
  have HLW := keepf hL
  clear hL
  unfold maxLen at ws
  obtain ⟨n, hn⟩ : ∃ n, s.size = n := ⟨_, rfl⟩
  rw [hn] at ws
  have HW := keepf (fun W hLW => works_any9 H W hLW)
  by_cases h300 : n ≤ 300
  · have d1 : decide ((300 : Int) < n) = false := by simp; omega
    have d1' : decide (300 < n) = false := by simp; omega
    obtain ⟨⟨z, kk, x⟩, hN⟩ : ∃ t, numOf (sl s) = t := ⟨_, rfl⟩
    have HP : Hid (∀ W, LibOk W → Calls Tryd.prog 8 #[.string s] W fun e w' => e = .returned (.tuple #[.agg #[.int .i64 (kk : Nat), .int .i64 x, .string ⟨#[]⟩, .slice none 0 0], .int .i64 z]) ∧ Chg NoS W w') := fun W hLW =>
      (H.parse s W hLW (by omega)).mono fun e w' h => by
        unfold PaTo at h
        rw [hN] at h
        exact h
    have HS : Hid (∀ W, Calls Tryd.prog 12 #[.agg #[.int .i64 (kk : Nat), .int .i64 x, .string ⟨#[]⟩, .slice none 0 0], .agg #[.int .i64 (kk : Nat), .int .i64 x, .string ⟨#[]⟩, .slice none 0 0]] W fun e w' => e = .returned (.bool true) ∧ Chg NoS W w') := fun W =>
      (same9_any _ _ _ _ _ _ _ _ 0 0 0 0 W).mono fun e w' h => by
        obtain ⟨⟨b, rfl, hb⟩, hc⟩ := h
        obtain rfl : b = true := hb.2 ⟨rfl, rfl, rfl, rfl⟩
        exact ⟨rfl, hc⟩
    by_cases hz : z = 0
    · subst hz
      have hmay := num_may hN
      obtain ⟨t, ht⟩ : ∃ t, t = sb (tellL kk x) := ⟨_, rfl⟩
      have HPR : Hid (∀ W, LibOk W → Calls Tryd.prog 13 #[.agg #[.int .i64 (kk : Nat), .int .i64 x, .string ⟨#[]⟩, .slice none 0 0]] W fun e w' => e = .returned (.tuple #[.string t, .int .i64 0]) ∧ Chg NoS W w') := fun W hLW =>
        (H.print kk x ⟨#[]⟩ none 0 0 W hLW).mono fun e w' h => by
          unfold PrTo at h
          rw [show prOf kk x (ByteArray.mk #[]).size 0 = (tellL kk x, 0) from pr_tell hmay, ← ht] at h
          exact h
      have HP2 : Hid (∀ W, LibOk W → Calls Tryd.prog 8 #[.string t] W fun e w' => e = .returned (.tuple #[.agg #[.int .i64 (kk : Nat), .int .i64 x, .string ⟨#[]⟩, .slice none 0 0], .int .i64 0]) ∧ Chg NoS W w') := fun W hLW =>
        (H.parse t W hLW (by rw [ht]; have := (tell_num hmay).2; omega)).mono fun e w' h => by
          unfold PaTo at h
          rw [ht, (tell_num hmay).1] at h
          exact h
      have HCK : Hid (∀ W, Calls Tryd.prog 17 #[.agg #[.int .i64 (kk : Nat), .int .i64 x, .string ⟨#[]⟩, .slice none 0 0]] W fun e w' => e = .returned (.int .i64 0) ∧ Chg NoS W w') := fun W =>
        (H.check kk x ⟨#[]⟩ none 0 0 W).mono fun e w' h => by
          rw [show chkOf kk x (ByteArray.mk #[]).size 0 = 0 from if_pos ⟨rfl, rfl, hmay⟩] at h
          exact h
      clear H hN hmay ht
      go_enter Tryd.func6, Tryd.ntmps6
      go_upto_region 4 with (go_at_call 8; refine (HP.out _ (by first | exact HLW.out.chg HC9.out | exact HLW.out.chg HC8.out | exact HLW.out.chg HC7.out | exact HLW.out.chg HC6.out | exact HLW.out.chg HC5.out | exact HLW.out.chg HC4.out | exact HLW.out.chg HC3.out | exact HLW.out.chg HC2.out | exact HLW.out.chg HA.out | exact HLW.out)).mono ?_; rintro e w2 ⟨rfl, hc2⟩; have HC2 := keepf hc2; clear hc2)
      have HB3 := keepf (Blk.new w2 25 #[.int .i64 (kk : Nat), .int .i64 x, .string ⟨#[]⟩, .slice none 0 0])
      have HC3 := keepf (HC2.out.alloc (.cells #[.int .i64 (kk : Nat), .int .i64 x, .string ⟨#[]⟩, .slice none 0 0] 25))
      obtain ⟨W3, hW⟩ : ∃ W, W = w2.alloc (.cells #[.int .i64 (kk : Nat), .int .i64 x, .string ⟨#[]⟩, .slice none 0 0] 25) := ⟨_, rfl⟩
      rw [← hW] at HB3 HC3 ⊢
      obtain ⟨g, hg⟩ : ∃ g, g = w2.heap.size := ⟨_, rfl⟩
      rw [← hg] at HB3 ⊢
      clear hW hg HC2
      have q0 := HB3.out.cell 0
      have q1 := HB3.out.cell 1
      have q2 := HB3.out.cell 2
      have q3 := HB3.out.cell 3
      simp at q0 q1 q2 q3
      go_upto_region 7 with (go_at_call 13; refine (HPR.out _ (by first | exact HLW.out.chg HC9.out | exact HLW.out.chg HC8.out | exact HLW.out.chg HC7.out | exact HLW.out.chg HC6.out | exact HLW.out.chg HC5.out | exact HLW.out.chg HC4.out | exact HLW.out.chg HC3.out | exact HLW.out.chg HC2.out | exact HLW.out.chg HA.out | exact HLW.out)).mono ?_; rintro e w4 ⟨rfl, hc4⟩; have HB4 := keepf (HB3.out.chg hc4 (fun h => h)); have HC4 := keepf (HC3.out.trans hc4 (fun _ _ h => h)); clear hc4)
      clear q0 q1 q2 q3
      go_upto_region 8 with (go_at_call 8; refine (HP2.out _ (by first | exact HLW.out.chg HC9.out | exact HLW.out.chg HC8.out | exact HLW.out.chg HC7.out | exact HLW.out.chg HC6.out | exact HLW.out.chg HC5.out | exact HLW.out.chg HC4.out | exact HLW.out.chg HC3.out | exact HLW.out.chg HC2.out | exact HLW.out.chg HA.out | exact HLW.out)).mono ?_; rintro e w5 ⟨rfl, hc5⟩; have HB5 := keepf (HB4.out.chg hc5 (fun h => h)); have HC5 := keepf (HC4.out.trans hc5 (fun _ _ h => h)); clear hc5)
      have HV6 := keepf (Blk.new w5 25 #[.int .i64 (kk : Nat), .int .i64 x, .string ⟨#[]⟩, .slice none 0 0])
      have HB6 := keepf (HB5.out.alloc (.cells #[.int .i64 (kk : Nat), .int .i64 x, .string ⟨#[]⟩, .slice none 0 0] 25))
      have HC6 := keepf (HC5.out.alloc (.cells #[.int .i64 (kk : Nat), .int .i64 x, .string ⟨#[]⟩, .slice none 0 0] 25))
      obtain ⟨W6, hW⟩ : ∃ W, W = w5.alloc (.cells #[.int .i64 (kk : Nat), .int .i64 x, .string ⟨#[]⟩, .slice none 0 0] 25) := ⟨_, rfl⟩
      rw [← hW] at HB6 HC6 HV6 ⊢
      obtain ⟨g2, hg⟩ : ∃ g, g = w5.heap.size := ⟨_, rfl⟩
      rw [← hg] at HV6 ⊢
      clear hW hg HB3 HC3 HB4 HC4 HB5 HC5
      have q0 := HB6.out.cell 0
      have q1 := HB6.out.cell 1
      have q2 := HB6.out.cell 2
      have q3 := HB6.out.cell 3
      simp at q0 q1 q2 q3
      go_wp2_with first | (go_at_call 17; refine (HCK.out _).mono ?_; rintro e w7 ⟨rfl, hc7⟩; have HB7 := keepf (HB6.out.chg hc7 (fun h => h)); have HV7 := keepf (HV6.out.chg hc7 (fun h => h)); have HC7 := keepf (HC6.out.trans hc7 (fun _ _ h => h)); clear hc7; have r0 := HB7.out.cell 0; have r1 := HB7.out.cell 1; have r2 := HB7.out.cell 2; have r3 := HB7.out.cell 3; have y0 := HV7.out.cell 0; have y1 := HV7.out.cell 1; have y2 := HV7.out.cell 2; have y3 := HV7.out.cell 3; simp at r0 r1 r2 r3 y0 y1 y2 y3) | (go_at_call 12; refine (HS.out _).mono ?_; rintro e w8 ⟨rfl, hc8⟩; have HC8 := keepf (HC7.out.trans hc8 (fun _ _ h => h)); clear hc8) | (go_at_call 7; refine (HW.out _ (by first | exact HLW.out.chg HC9.out | exact HLW.out.chg HC8.out | exact HLW.out.chg HC7.out | exact HLW.out.chg HC6.out | exact HLW.out.chg HC5.out | exact HLW.out.chg HC4.out | exact HLW.out.chg HC3.out | exact HLW.out.chg HC2.out | exact HLW.out.chg HA.out | exact HLW.out)).mono ?_; rintro e wx ⟨rfl, hcx⟩; have HCx := keepf (HC8.out.trans hcx (fun _ _ e => e)); clear hcx)
      go_ret
      exact ⟨rfl, HCx.out.no_below⟩
    · obtain ⟨rfl, rfl⟩ := num_err hN hz
      have u1 : (z != 0) = true := by simp [hz]
      have u2 : (z == 0) = false := by simp [hz]
      clear H hN
      go_enter Tryd.func6, Tryd.ntmps6
      go_upto_region 4 with (go_at_call 8; refine (HP.out _ (by first | exact HLW.out.chg HC9.out | exact HLW.out.chg HC8.out | exact HLW.out.chg HC7.out | exact HLW.out.chg HC6.out | exact HLW.out.chg HC5.out | exact HLW.out.chg HC4.out | exact HLW.out.chg HC3.out | exact HLW.out.chg HC2.out | exact HLW.out.chg HA.out | exact HLW.out)).mono ?_; rintro e w2 ⟨rfl, hc2⟩; have HC2 := keepf hc2; clear hc2)
      have HB3 := keepf (Blk.new w2 25 #[.int .i64 0, .int .i64 0, .string ⟨#[]⟩, .slice none 0 0])
      have HC3 := keepf (HC2.out.alloc (.cells #[.int .i64 0, .int .i64 0, .string ⟨#[]⟩, .slice none 0 0] 25))
      obtain ⟨W3, hW⟩ : ∃ W, W = w2.alloc (.cells #[.int .i64 0, .int .i64 0, .string ⟨#[]⟩, .slice none 0 0] 25) := ⟨_, rfl⟩
      have hz0 : ((0 : Nat) : Int) = 0 := rfl
      try rw [hz0]
      rw [← hW] at HB3 HC3 ⊢
      obtain ⟨g, hg⟩ : ∃ g, g = w2.heap.size := ⟨_, rfl⟩
      rw [← hg] at HB3 ⊢
      clear hW hg HC2
      have q0 := HB3.out.cell 0
      have q1 := HB3.out.cell 1
      have q2 := HB3.out.cell 2
      have q3 := HB3.out.cell 3
      simp at q0 q1 q2 q3
      go_wp2_with first | (go_at_call 12; refine (HS.out _).mono ?_; rintro e w8 ⟨rfl, hc8⟩; have HC8 := keepf (HC3.out.trans hc8 (fun _ _ h => h)); clear hc8) | (go_at_call 7; refine (HW.out _ (by first | exact HLW.out.chg HC9.out | exact HLW.out.chg HC8.out | exact HLW.out.chg HC7.out | exact HLW.out.chg HC6.out | exact HLW.out.chg HC5.out | exact HLW.out.chg HC4.out | exact HLW.out.chg HC3.out | exact HLW.out.chg HC2.out | exact HLW.out.chg HA.out | exact HLW.out)).mono ?_; rintro e wx ⟨rfl, hcx⟩; have HCx := keepf (HC8.out.trans hcx (fun _ _ e => e)); clear hcx)
      go_ret
      exact ⟨rfl, HCx.out.no_below⟩
  · have d1 : decide ((300 : Int) < n) = true := by simp; omega
    have d1' : decide (300 < n) = true := by simp; omega
    clear h300 H
    go_enter Tryd.func6, Tryd.ntmps6
    go_wp2_with (go_at_call 7; refine (HW.out _ (by first | exact HLW.out.chg HC9.out | exact HLW.out.chg HC8.out | exact HLW.out.chg HC7.out | exact HLW.out.chg HC6.out | exact HLW.out.chg HC5.out | exact HLW.out.chg HC4.out | exact HLW.out.chg HC3.out | exact HLW.out.chg HC2.out | exact HLW.out.chg HA.out | exact HLW.out)).mono ?_; rintro e wx ⟨rfl, hcx⟩; have HCx := keepf hcx; clear hcx)
    go_ret
    exact ⟨rfl, HCx.out.no_below⟩
end Go.Proofs.YtnkfbjddlbdnfaaDoor.nagain
