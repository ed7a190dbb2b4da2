/- The walk of 'NumParses', from what num's functions are to answer. -/
import Derived.Test.YtnkfbjddlbdnfaaDoorNCon
namespace Go.Proofs.YtnkfbjddlbdnfaaDoor.nparses
open Go.RowKit
set_option linter.unusedVariables false

set_option maxHeartbeats 2000000 in
theorem walk (H : NumOk) (s : ByteArray) (w : World) (hL : LibOk w) (ws : s.size ≤ maxLen) :
    Calls Tryd.prog 3 #[.string s] w fun e w' => e = .returned (.bool true) ∧ Below w.heap.size w w' := by
  have HLW := keepf hL
  clear hL
  unfold maxLen at ws
  obtain ⟨n, hn⟩ : ∃ n, s.size = n := ⟨_, rfl⟩
  rw [hn] at ws
  have HW := keepf (fun W hLW => works_any9 H W hLW)
  by_cases h300 : n ≤ 300
  · have d1 : decide ((300 : Int) < n) = false := by simp; omega
    have d1' : decide (300 < n) = false := by simp; omega
    obtain ⟨⟨z, kk, x⟩, hN⟩ : ∃ t, numOf (sl s) = t := ⟨_, rfl⟩
    obtain ⟨⟨m, y⟩, hD⟩ : ∃ t, dgOf (sl s) = t := ⟨_, rfl⟩
    have HP : Hid (∀ W, LibOk W → Calls Tryd.prog 8 #[.string s] W fun e w' => e = .returned (.tuple #[.agg #[.int .i64 (kk : Nat), .int .i64 x, .string ⟨#[]⟩, .slice none 0 0], .int .i64 z]) ∧ Chg NoS W w') := fun W hLW =>
      (H.parse s W hLW (by omega)).mono fun e w' h => by
        unfold PaTo at h
        rw [hN] at h
        exact h
    have HR : Hid (∀ W, Calls Tryd.prog 9 #[.string s] W fun e w' => e = .returned (.tuple #[.agg #[.int .i64 (kk : Nat), .int .i64 x, .string ⟨#[]⟩, .slice none 0 0], .int .i64 z]) ∧ Chg NoS W w') := fun W =>
      (rparse_any s W (by omega)).mono fun e w' h => by
        unfold PaTo at h
        rw [hN] at h
        exact h
    have HD : Hid (∀ W, Calls Tryd.prog 10 #[.string s] W fun e w' => e = .returned (.tuple #[.int .i64 m, .int .i64 y]) ∧ Chg NoS W w') := fun W =>
      (H.digits s W (by omega)).mono fun e w' h => by
        rw [hD] at h
        exact h
    have HE : Hid (∀ W, Calls Tryd.prog 11 #[.string s] W fun e w' => e = .returned (.tuple #[.int .i64 m, .int .i64 y]) ∧ W = w') := fun W =>
      (rdigits_any s W (by omega)).mono fun e w' h => by
        rw [hD] at h
        exact h
    have HS : Hid (∀ W, Calls Tryd.prog 12 #[.agg #[.int .i64 (kk : Nat), .int .i64 x, .string ⟨#[]⟩, .slice none 0 0], .agg #[.int .i64 (kk : Nat), .int .i64 x, .string ⟨#[]⟩, .slice none 0 0]] W fun e w' => e = .returned (.bool true) ∧ Chg NoS W w') := fun W =>
      (same9_any _ _ _ _ _ _ _ _ 0 0 0 0 W).mono fun e w' h => by
        obtain ⟨⟨b, rfl, hb⟩, hc⟩ := h
        obtain rfl : b = true := hb.2 ⟨rfl, rfl, rfl, rfl⟩
        exact ⟨rfl, hc⟩
    clear H hN hD
    go_enter Tryd.func3, Tryd.ntmps3
    go_upto_region 4 with (go_at_call 8; refine (HP.out _ (by first | exact HLW.out.chg HC9.out | exact HLW.out.chg HC8.out | exact HLW.out.chg HC7.out | exact HLW.out.chg HC6.out | exact HLW.out.chg HC5.out | exact HLW.out.chg HC4.out | exact HLW.out.chg HC3.out | exact HLW.out.chg HC2.out | exact HLW.out.chg HA.out | exact HLW.out)).mono ?_; rintro e w2 ⟨rfl, hc2⟩; have HC2 := keepf hc2; clear hc2)
    have HB3 := keepf (Blk.new w2 25 #[.int .i64 (kk : Nat), .int .i64 x, .string ⟨#[]⟩, .slice none 0 0])
    have HC3 := keepf (HC2.out.alloc (.cells #[.int .i64 (kk : Nat), .int .i64 x, .string ⟨#[]⟩, .slice none 0 0] 25))
    obtain ⟨W3, hW⟩ : ∃ W, W = w2.alloc (.cells #[.int .i64 (kk : Nat), .int .i64 x, .string ⟨#[]⟩, .slice none 0 0] 25) := ⟨_, rfl⟩
    rw [← hW] at HB3 HC3 ⊢
    obtain ⟨g, hg⟩ : ∃ g, g = w2.heap.size := ⟨_, rfl⟩
    rw [← hg] at HB3 ⊢
    clear hW hg HC2
    go_upto_region 5 with (go_at_call 9; refine (HR.out _).mono ?_; rintro e w4 ⟨rfl, hc4⟩; have HB4 := keepf (HB3.out.chg hc4 (fun h => h)); have HC4 := keepf (HC3.out.trans hc4 (fun _ _ h => h)); clear hc4)
    have HV5 := keepf (Blk.new w4 25 #[.int .i64 (kk : Nat), .int .i64 x, .string ⟨#[]⟩, .slice none 0 0])
    have HB5 := keepf (HB4.out.alloc (.cells #[.int .i64 (kk : Nat), .int .i64 x, .string ⟨#[]⟩, .slice none 0 0] 25))
    have HC5 := keepf (HC4.out.alloc (.cells #[.int .i64 (kk : Nat), .int .i64 x, .string ⟨#[]⟩, .slice none 0 0] 25))
    obtain ⟨W5, hW⟩ : ∃ W, W = w4.alloc (.cells #[.int .i64 (kk : Nat), .int .i64 x, .string ⟨#[]⟩, .slice none 0 0] 25) := ⟨_, rfl⟩
    rw [← hW] at HB5 HC5 HV5 ⊢
    obtain ⟨g2, hg⟩ : ∃ g, g = w4.heap.size := ⟨_, rfl⟩
    rw [← hg] at HV5 ⊢
    clear hW hg HB3 HC3 HB4 HC4
    go_upto_region 6 with (go_at_call 10; refine (HD.out _).mono ?_; rintro e w6 ⟨rfl, hc6⟩; have HB6 := keepf (HB5.out.chg hc6 (fun h => h)); have HV6 := keepf (HV5.out.chg hc6 (fun h => h)); have HC6 := keepf (HC5.out.trans hc6 (fun _ _ h => h)); clear hc6)
    go_upto_region 7 with (go_at_call 11; refine (HE.out _).mono ?_; rintro e w7 ⟨rfl, rfl⟩)
    have q0 := HB6.out.cell 0
    have q1 := HB6.out.cell 1
    have q2 := HB6.out.cell 2
    have q3 := HB6.out.cell 3
    have y0 := HV6.out.cell 0
    have y1 := HV6.out.cell 1
    have y2 := HV6.out.cell 2
    have y3 := HV6.out.cell 3
    simp at q0 q1 q2 q3 y0 y1 y2 y3
    go_wp2_with first | (go_at_call 12; refine (HS.out _).mono ?_; rintro e w8 ⟨rfl, hc8⟩; have HC8 := keepf (HC6.out.trans hc8 (fun _ _ h => h)); clear hc8) | (go_at_call 7; refine (HW.out _ (by first | exact HLW.out.chg HC9.out | exact HLW.out.chg HC8.out | exact HLW.out.chg HC7.out | exact HLW.out.chg HC6.out | exact HLW.out.chg HC5.out | exact HLW.out.chg HC4.out | exact HLW.out.chg HC3.out | exact HLW.out.chg HC2.out | exact HLW.out.chg HA.out | exact HLW.out)).mono ?_; rintro e wx ⟨rfl, hcx⟩; have HCx := keepf (HC8.out.trans hcx (fun _ _ e => e)); clear hcx)
    go_ret
    exact ⟨rfl, HCx.out.no_below⟩
  · have d1 : decide ((300 : Int) < n) = true := by simp; omega
    have d1' : decide (300 < n) = true := by simp; omega
    clear h300 H
    go_enter Tryd.func3, Tryd.ntmps3
    go_wp2_with (go_at_call 7; refine (HW.out _ (by first | exact HLW.out.chg HC9.out | exact HLW.out.chg HC8.out | exact HLW.out.chg HC7.out | exact HLW.out.chg HC6.out | exact HLW.out.chg HC5.out | exact HLW.out.chg HC4.out | exact HLW.out.chg HC3.out | exact HLW.out.chg HC2.out | exact HLW.out.chg HA.out | exact HLW.out)).mono ?_; rintro e wx ⟨rfl, hcx⟩; have HCx := keepf hcx; clear hcx)
    go_ret
    exact ⟨rfl, HCx.out.no_below⟩
end Go.Proofs.YtnkfbjddlbdnfaaDoor.nparses
