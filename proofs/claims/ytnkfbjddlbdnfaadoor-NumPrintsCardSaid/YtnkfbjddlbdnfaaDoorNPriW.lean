/- The walk of 'NumPrints', from what num's functions are to answer. -/
import Derived.Test.YtnkfbjddlbdnfaaDoorNCon
import Derived.Deep.RegionHeld3
namespace Go.Proofs.YtnkfbjddlbdnfaaDoor.nprints
open Go.RowKit
set_option linter.unusedVariables false

set_option maxHeartbeats 2000000 in
theorem walk (H : NumOk) (k n : Int) (s : ByteArray) (A : Option Addr) (len cap : Nat) (d : Int) (w : World) (hL : LibOk w) (bn : -9223372036854775808 ≤ n ∧ n ≤ 9223372036854775807) (bd : -9223372036854775808 ≤ d ∧ d ≤ 9223372036854775807) :
    Calls Tryd.prog 4 #[.agg #[.int .i64 k, .int .i64 n, .string s, .slice A len cap], .int .i64 d] w fun e w' => e = .returned (.bool true) ∧ Below w.heap.size w w' := by
  have HLW := keepf hL
  clear hL
  have HW := keepf (fun W hLW => works_any9 H W hLW)
  obtain ⟨t, ht⟩ : ∃ t, sb (prOf k n s.size len).1 = t := ⟨_, rfl⟩
  obtain ⟨z, hz⟩ : ∃ z, (prOf k n s.size len).2 = z := ⟨_, rfl⟩
  obtain ⟨p, hp⟩ : ∃ p, sb (padOf n d).1 = p := ⟨_, rfl⟩
  obtain ⟨y, hy⟩ : ∃ y, (padOf n d).2 = y := ⟨_, rfl⟩
  obtain ⟨c, hc⟩ : ∃ c, chkOf k n s.size len = c := ⟨_, rfl⟩
  have H1 : Hid (∀ W, LibOk W → Calls Tryd.prog 13 #[.agg #[.int .i64 k, .int .i64 n, .string s, .slice A len cap]] W fun e w' => e = .returned (.tuple #[.string t, .int .i64 z]) ∧ Chg NoS W w') := fun W hLW =>
    (H.print k n s A len cap W hLW).mono fun e w' h => by
      unfold PrTo at h
      rw [ht, hz] at h
      exact h
  have H2 : Hid (∀ W, Calls Tryd.prog 14 #[.agg #[.int .i64 k, .int .i64 n, .string s, .slice A len cap]] W fun e w' => e = .returned (.tuple #[.string t, .int .i64 z]) ∧ Chg NoS W w') := fun W =>
    (rprint_any k n s A len cap W).mono fun e w' h => by
      unfold PrTo at h
      rw [ht, hz] at h
      exact h
  have H3 : Hid (∀ W, LibOk W → Calls Tryd.prog 15 #[.int .i64 n, .int .i64 d] W fun e w' => e = .returned (.tuple #[.string p, .int .i64 y]) ∧ Chg NoS W w') := fun W hLW =>
    (H.pad n d W hLW bn bd).mono fun e w' h => by
      rw [hp, hy] at h
      exact h
  have H4 : Hid (∀ W, Calls Tryd.prog 16 #[.int .i64 n, .int .i64 d] W fun e w' => e = .returned (.tuple #[.string p, .int .i64 y]) ∧ W = w') := fun W =>
    (rpad_any n d W bn bd).mono fun e w' h => by
      rw [hp, hy] at h
      exact h
  have H5 : Hid (∀ W, Calls Tryd.prog 17 #[.agg #[.int .i64 k, .int .i64 n, .string s, .slice A len cap]] W fun e w' => e = .returned (.int .i64 c) ∧ Chg NoS W w') := fun W =>
    (H.check k n s A len cap W).mono fun e w' h => by
      rw [hc] at h
      exact h
  have H6 : Hid (∀ W, Calls Tryd.prog 18 #[.agg #[.int .i64 k, .int .i64 n, .string s, .slice A len cap]] W fun e w' => e = .returned (.int .i64 c) ∧ Chg NoS W w') := fun W =>
    (rchk_any k n s A len cap W).mono fun e w' h => by
      rw [hc] at h
      exact h
  clear H ht hz hp hy hc
  have HB := keepf (Blk.new w 25 #[.int .i64 k, .int .i64 n, .string s, .slice A len cap])
  have HA := keepf ((Chg.refl NoS w).alloc (.cells #[.int .i64 k, .int .i64 n, .string s, .slice A len cap] 25))
  obtain ⟨W, hW⟩ : ∃ W, W = w.alloc (.cells #[.int .i64 k, .int .i64 n, .string s, .slice A len cap] 25) := ⟨_, rfl⟩
  rw [← hW] at HB HA
  go_enter Tryd.func4, Tryd.ntmps4
  go_upto_region 1 with fail
  rw [← hW]
  clear hW
  obtain ⟨g, hg⟩ : ∃ g, g = w.heap.size := ⟨_, rfl⟩
  rw [← hg] at HB ⊢
  have HG := keepf hg
  clear hg
  have q0 := HB.out.cell 0
  have q1 := HB.out.cell 1
  have q2 := HB.out.cell 2
  have q3 := HB.out.cell 3
  simp at q0 q1 q2 q3
  go_upto_region 2 with (go_at_call 13; refine (H1.out _ (by first | exact HLW.out.chg HC9.out | exact HLW.out.chg HC8.out | exact HLW.out.chg HC7.out | exact HLW.out.chg HC6.out | exact HLW.out.chg HC5.out | exact HLW.out.chg HC4.out | exact HLW.out.chg HC3.out | exact HLW.out.chg HC2.out | exact HLW.out.chg HA.out | exact HLW.out)).mono ?_; rintro e w2 ⟨rfl, hc2⟩; have HB2 := keepf (HB.out.chg hc2 (fun h => h)); have HC2 := keepf (HA.out.trans hc2 (fun _ _ h => h)); clear hc2)
  clear q0 q1 q2 q3
  have q0 := HB2.out.cell 0
  have q1 := HB2.out.cell 1
  have q2 := HB2.out.cell 2
  have q3 := HB2.out.cell 3
  simp at q0 q1 q2 q3
  go_upto_region 3 with (go_at_call 14; refine (H2.out _).mono ?_; rintro e w3 ⟨rfl, hc3⟩; have HB3 := keepf (HB2.out.chg hc3 (fun h => h)); have HC3 := keepf (HC2.out.trans hc3 (fun _ _ h => h)); clear hc3)
  clear q0 q1 q2 q3
  have q1 := HB3.out.cell 1
  simp at q1
  go_upto_region 4 with (go_at_call 15; refine (H3.out _ (by first | exact HLW.out.chg HC9.out | exact HLW.out.chg HC8.out | exact HLW.out.chg HC7.out | exact HLW.out.chg HC6.out | exact HLW.out.chg HC5.out | exact HLW.out.chg HC4.out | exact HLW.out.chg HC3.out | exact HLW.out.chg HC2.out | exact HLW.out.chg HA.out | exact HLW.out)).mono ?_; rintro e w4 ⟨rfl, hc4⟩; have HB4 := keepf (HB3.out.chg hc4 (fun h => h)); have HC4 := keepf (HC3.out.trans hc4 (fun _ _ h => h)); clear hc4)
  clear q1
  have q1 := HB4.out.cell 1
  simp at q1
  go_upto_region 5 with (go_at_call 16; refine (H4.out _).mono ?_; rintro e w5 ⟨rfl, rfl⟩)
  clear q1
  have q0 := HB4.out.cell 0
  have q1 := HB4.out.cell 1
  have q2 := HB4.out.cell 2
  have q3 := HB4.out.cell 3
  simp at q0 q1 q2 q3
  first
    | (go_loud (go_region_held3 (fun w' => w'.cell? ⟨g, 0, none⟩ = some (.int .i64 k) ∧ w'.cell? ⟨g, 1, none⟩ = some (.int .i64 n) ∧ w'.cell? ⟨g, 2, none⟩ = some (.string s) ∧ w'.cell? ⟨g, 3, none⟩ = some (.slice A len cap))
        (first | (go_keep; done) | (go_split_ands; exact ⟨by assumption, by assumption, by assumption, by assumption⟩))
        (first
          | (go_at_call 17; refine (H5.out _).mono ?_; rintro e w7 ⟨rfl, hc7⟩; have HB7 := keepf (HB4.out.drew.chg hc7 (fun h => h)); have HC7 := keepf (HC4.out.drew.trans hc7 (fun _ _ h => h)); clear hc7; have r0 := HB7.out.cell 0; have r1 := HB7.out.cell 1; have r2 := HB7.out.cell 2; have r3 := HB7.out.cell 3; simp at r0 r1 r2 r3)
          | (go_at_call 18; refine (H6.out _).mono ?_; rintro e w8 ⟨rfl, hc8⟩; have HB8 := keepf (HB7.out.chg hc8 (fun h => h)); have HC8 := keepf (HC7.out.trans hc8 (fun _ _ h => h)); clear hc8; have x0 := HB8.out.cell 0; have x1 := HB8.out.cell 1; have x2 := HB8.out.cell 2; have x3 := HB8.out.cell 3; simp at x0 x1 x2 x3)
          | (go_at_call 7; refine (HW.out _ (by first | exact HLW.out.chg HC9.out | exact HLW.out.chg HC8.out | exact HLW.out.chg HC7.out | exact HLW.out.chg HC6.out | exact HLW.out.chg HC5.out | exact HLW.out.chg HC4.out | exact HLW.out.chg HC3.out | exact HLW.out.chg HC2.out | exact HLW.out.chg HA.out | exact HLW.out)).mono ?_; rintro e wx ⟨rfl, hcx⟩; have HBx := keepf (HB8.out.chg hcx (fun h => h)); have HCx := keepf (HC8.out.trans hcx (fun _ _ e => e)); clear hcx; have y0 := HBx.out.cell 0; have y1 := HBx.out.cell 1; have y2 := HBx.out.cell 2; have y3 := HBx.out.cell 3; simp at y0 y1 y2 y3))))
    | fail "region"
  go_wp2_with fail
  go_ret
  have hgw := HG.out
  subst hgw
  exact ⟨rfl, HCx.out.no_below⟩
end Go.Proofs.YtnkfbjddlbdnfaaDoor.nprints
