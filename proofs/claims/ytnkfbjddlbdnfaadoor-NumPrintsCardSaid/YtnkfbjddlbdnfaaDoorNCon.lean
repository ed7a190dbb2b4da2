/- What the program's functions of numbers are to answer (to be proved of what lands), and the law's works from it. -/
import Derived.Test.YtnkfbjddlbdnfaaDoorRPar
import Derived.Test.YtnkfbjddlbdnfaaDoorNLib
import Derived.Test.YtnkfbjddlbdnfaaDoorRSame
import Derived.Test.YtnkfbjddlbdnfaaDoorRDig
namespace Go.Proofs.YtnkfbjddlbdnfaaDoor
open Go.RowKit
set_option linter.unusedVariables false
set_option linter.unusedSimpArgs false

structure NumOk : Prop where
  parse : ∀ (s : ByteArray) (w : World), LibOk w → s.size ≤ 100000 → Calls Tryd.prog 8 #[.string s] w (PaTo w (sl s))
  print : ∀ (k n : Int) (s : ByteArray) (A : Option Addr) (len cap : Nat) (w : World), LibOk w → Calls Tryd.prog 13 #[.agg #[.int .i64 k, .int .i64 n, .string s, .slice A len cap]] w (PrTo w k n s.size len)
  pad : ∀ (n d : Int) (w : World), LibOk w → (-9223372036854775808 ≤ n ∧ n ≤ 9223372036854775807) → (-9223372036854775808 ≤ d ∧ d ≤ 9223372036854775807) → Calls Tryd.prog 15 #[.int .i64 n, .int .i64 d] w fun e w' => e = .returned (.tuple #[.string (sb (padOf n d).1), .int .i64 (padOf n d).2]) ∧ Chg NoS w w'
  digits : ∀ (s : ByteArray) (w : World), s.size ≤ 100000 → Calls Tryd.prog 10 #[.string s] w fun e w' => e = .returned (.tuple #[.int .i64 (dgOf (sl s)).1, .int .i64 (dgOf (sl s)).2]) ∧ Chg NoS w w'
  check : ∀ (k n : Int) (s : ByteArray) (A : Option Addr) (len cap : Nat) (w : World), Calls Tryd.prog 17 #[.agg #[.int .i64 k, .int .i64 n, .string s, .slice A len cap]] w fun e w' => e = .returned (.int .i64 (chkOf k n s.size len)) ∧ Chg NoS w w'

theorem nw1 (H : NumOk) (w : World) (hL : LibOk w) : Calls Tryd.prog 8 #[.string ⟨#[46, 53]⟩] w fun e w' => e = .returned (.tuple #[.agg #[.int .i64 3, .int .i64 500000, .string ⟨#[]⟩, .slice none 0 0], .int .i64 0]) ∧ Chg NoS w w' :=
  (H.parse ⟨#[46, 53]⟩ w hL (by decide)).mono fun e w' h => by
    unfold PaTo at h
    rw [show numOf (sl ⟨#[46, 53]⟩) = (0, 3, 500000) from by decide +kernel] at h
    exact h
theorem nw2 (H : NumOk) (w : World) (hL : LibOk w) : Calls Tryd.prog 13 #[.agg #[.int .i64 3, .int .i64 500000, .string ⟨#[]⟩, .slice none 0 0]] w fun e w' => e = .returned (.tuple #[.string ⟨#[48, 46, 53]⟩, .int .i64 0]) ∧ Chg NoS w w' :=
  (H.print 3 500000 ⟨#[]⟩ none 0 0 w hL).mono fun e w' h => by
    unfold PrTo at h
    rw [show prOf 3 500000 (ByteArray.mk #[]).size 0 = ([48, 46, 53], 0) from by decide +kernel] at h
    exact h
theorem nw3 (H : NumOk) (w : World) (hL : LibOk w) : Calls Tryd.prog 15 #[.int .i64 7, .int .i64 3] w fun e w' => e = .returned (.tuple #[.string ⟨#[48, 48, 55]⟩, .int .i64 0]) ∧ Chg NoS w w' :=
  (H.pad 7 3 w hL (by decide) (by decide)).mono fun e w' h => by
    rw [show padOf 7 3 = ([48, 48, 55], 0) from by decide +kernel] at h
    exact h

set_option maxHeartbeats 1000000 in
theorem works_any9 (H : NumOk) (w : World) (hL : LibOk w) : Calls Tryd.prog 7 #[] w fun e w' => e = .returned (.bool true) ∧ Chg NoS w w' := by
  have H1 := keepf (nw1 H w hL)
  have HLW := keepf hL
  have H2 := keepf (fun W h => nw2 H W h)
  have H3 := keepf (fun W h => nw3 H W h)
  clear H hL
  go_enter Tryd.func7, Tryd.ntmps7
  go_upto_region 2 with (go_at_call 8; refine H1.out.mono ?_; rintro e w2 ⟨rfl, hc2⟩; have HC2 := keepf hc2; clear hc2)
  have HB2 := keepf (Blk.new w2 25 #[.int .i64 3, .int .i64 500000, .string ⟨#[]⟩, .slice none 0 0])
  have HC3 := keepf (HC2.out.alloc (.cells #[.int .i64 3, .int .i64 500000, .string ⟨#[]⟩, .slice none 0 0] 25))
  obtain ⟨W, hW⟩ : ∃ W, W = w2.alloc (.cells #[.int .i64 3, .int .i64 500000, .string ⟨#[]⟩, .slice none 0 0] 25) := ⟨_, rfl⟩
  rw [← hW] at HB2 HC3 ⊢
  obtain ⟨g, hg⟩ : ∃ g, g = w2.heap.size := ⟨_, rfl⟩
  rw [← hg] at HB2 ⊢
  clear hW hg HC2
  have q0 := HB2.out.cell 0
  have q1 := HB2.out.cell 1
  have q2 := HB2.out.cell 2
  have q3 := HB2.out.cell 3
  simp at q0 q1 q2 q3
  go_upto_region 3 with (go_at_call 13; refine (H2.out _ (by first | exact HLW.out.chg HC9.out | exact HLW.out.chg HC8.out | exact HLW.out.chg HC7.out | exact HLW.out.chg HC6.out | exact HLW.out.chg HC5.out | exact HLW.out.chg HC4.out | exact HLW.out.chg HC3.out | exact HLW.out.chg HC2.out | exact HLW.out.chg HA.out | exact HLW.out)).mono ?_; rintro e w3 ⟨rfl, hc3⟩; have HB3 := keepf (HB2.out.chg hc3 (fun h => h)); have HC4 := keepf (HC3.out.trans hc3 (fun _ _ h => h)); clear hc3)
  go_upto_region 4 with (go_at_call 15; refine (H3.out _ (by first | exact HLW.out.chg HC9.out | exact HLW.out.chg HC8.out | exact HLW.out.chg HC7.out | exact HLW.out.chg HC6.out | exact HLW.out.chg HC5.out | exact HLW.out.chg HC4.out | exact HLW.out.chg HC3.out | exact HLW.out.chg HC2.out | exact HLW.out.chg HA.out | exact HLW.out)).mono ?_; rintro e w4 ⟨rfl, hc4⟩; have HB4 := keepf (HB3.out.chg hc4 (fun h => h)); have HC5 := keepf (HC4.out.trans hc4 (fun _ _ h => h)); clear hc4)
  clear q0 q1 q2 q3
  have q0 := HB4.out.cell 0
  have q1 := HB4.out.cell 1
  have q2 := HB4.out.cell 2
  have q3 := HB4.out.cell 3
  simp at q0 q1 q2 q3
  go_wp2_with fail
  go_ret
  exact ⟨rfl, HC5.out⟩
end Go.Proofs.YtnkfbjddlbdnfaaDoor
