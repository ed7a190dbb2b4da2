/- The program's own small functions of words of a file: space, delimiters, digits to the base 16, what a byte behind a backslash is. -/
import Derived.Test.YtmmehaghcfdjdaaRLx1
import Derived.Test.YtmmehaghcfdjdaaRdr
import Derived.WalkMore
import Derived.BigQuiet
namespace Go.Proofs.Ytmmehaghcfdjdaa
open Go.RowKit
set_option linter.unusedVariables false
set_option linter.unusedSimpArgs false

theorem pspace_any (c : Nat) (w : World) : Calls Try.prog 13 #[.int .u8 (c : Nat)] w fun e w' => e = .returned (.bool (isSp c)) ∧ w = w' := by
  by_cases h : c = 0 ∨ c = 9 ∨ c = 10 ∨ c = 12 ∨ c = 13 ∨ c = 32
  · rcases h with rfl | rfl | rfl | rfl | rfl | rfl
    all_goals
      go_enter Try.func13, Try.ntmps13
      go_wp2_with fail
      go_ret
      exact ⟨rfl, rfl⟩
  · have HS := keepf (isSp_no (c := c) (by omega) (by omega) (by omega) (by omega) (by omega) (by omega))
    have e0 : ((c : Int) == 0) = false := by simp; omega
    have e1 : ((c : Int) == 9) = false := by simp; omega
    have e2 : ((c : Int) == 10) = false := by simp; omega
    have e3 : ((c : Int) == 12) = false := by simp; omega
    have e4 : ((c : Int) == 13) = false := by simp; omega
    have e5 : ((c : Int) == 32) = false := by simp; omega
    clear h
    go_enter Try.func13, Try.ntmps13
    go_wp2_with fail
    go_ret
    exact ⟨by rw [HS.out]; rfl, rfl⟩
theorem pdelim_any (c : Nat) (w : World) : Calls Try.prog 15 #[.int .u8 (c : Nat)] w fun e w' => e = .returned (.bool (isDl c)) ∧ w = w' := by
  by_cases h : c = 40 ∨ c = 41 ∨ c = 60 ∨ c = 62 ∨ c = 91 ∨ c = 93 ∨ c = 123 ∨ c = 125 ∨ c = 47 ∨ c = 37
  · rcases h with rfl | rfl | rfl | rfl | rfl | rfl | rfl | rfl | rfl | rfl
    all_goals
      go_enter Try.func15, Try.ntmps15
      go_wp2_with fail
      go_ret
      exact ⟨rfl, rfl⟩
  · have HS := keepf (isDl_no (c := c) (by omega) (by omega) (by omega) (by omega) (by omega) (by omega) (by omega) (by omega) (by omega) (by omega))
    have e0 : ((c : Int) == 40) = false := by simp; omega
    have e1 : ((c : Int) == 41) = false := by simp; omega
    have e2 : ((c : Int) == 60) = false := by simp; omega
    have e3 : ((c : Int) == 62) = false := by simp; omega
    have e4 : ((c : Int) == 91) = false := by simp; omega
    have e5 : ((c : Int) == 93) = false := by simp; omega
    have e6 : ((c : Int) == 123) = false := by simp; omega
    have e7 : ((c : Int) == 125) = false := by simp; omega
    have e8 : ((c : Int) == 47) = false := by simp; omega
    have e9 : ((c : Int) == 37) = false := by simp; omega
    clear h
    go_enter Try.func15, Try.ntmps15
    go_wp2_with fail
    go_ret
    exact ⟨by rw [HS.out]; rfl, rfl⟩
/-- A digit to the base 16, and whether it is one. -/
def hexV (c : Nat) : Nat := (hexD c).getD 0
theorem hexV_lt (c : Nat) : hexV c < 16 := by
  unfold hexV
  cases h : hexD c with
  | none => decide
  | some d => exact hexD_lt h
theorem pdigit_any (c : Nat) (hc : c < 256) (w : World) : Calls Try.prog 42 #[.int .u8 (c : Nat)] w fun e w' => e = .returned (.tuple #[.int .u8 (hexV c : Nat), .bool (hexD c).isSome]) ∧ w = w' := by
  by_cases h1 : 48 ≤ c ∧ c ≤ 57
  · have HE := keepf (show hexD c = some (c - 48) from by unfold hexD; rw [if_pos h1])
    have HV := keepf (show (hexV c : Int) = (c : Int) - 48 from by unfold hexV; rw [HE.out]; simp only [Option.getD_some]; omega)
    obtain ⟨a, b⟩ := h1
    have d1 : IntKind.u8.wrap ((c : Int) - 48) = (c : Int) - 48 := by rw [IntKind.wrap_u8]; omega
    go_enter Try.func42, Try.ntmps42
    go_wp2_with fail
    go_ret2
    exact ⟨by rw [HE.out, HV.out]; rfl, rfl⟩
  by_cases h2 : 97 ≤ c ∧ c ≤ 102
  · have HE := keepf (show hexD c = some (c - 87) from by unfold hexD; rw [if_neg h1, if_pos h2])
    have HV := keepf (show (hexV c : Int) = (c : Int) - 97 + 10 from by unfold hexV; rw [HE.out]; simp only [Option.getD_some]; omega)
    have g1 : ¬ c ≤ 57 := by omega
    have d1 : IntKind.u8.wrap ((c : Int) - 97) = (c : Int) - 97 := by rw [IntKind.wrap_u8]; omega
    have d2 : IntKind.u8.wrap ((c : Int) - 97 + 10) = (c : Int) - 97 + 10 := by rw [IntKind.wrap_u8]; omega
    obtain ⟨a, b⟩ := h2
    clear h1
    go_enter Try.func42, Try.ntmps42
    go_wp2_with fail
    go_ret2
    exact ⟨by rw [HE.out, HV.out]; rfl, rfl⟩
  by_cases h3 : 65 ≤ c ∧ c ≤ 70
  · have HE := keepf (show hexD c = some (c - 55) from by unfold hexD; rw [if_neg h1, if_neg h2, if_pos h3])
    have HV := keepf (show (hexV c : Int) = (c : Int) - 65 + 10 from by unfold hexV; rw [HE.out]; simp only [Option.getD_some]; omega)
    have g1 : ¬ c ≤ 57 := by omega
    have g2 : ¬ 97 ≤ c := by omega
    have d1 : IntKind.u8.wrap ((c : Int) - 65) = (c : Int) - 65 := by rw [IntKind.wrap_u8]; omega
    have d2 : IntKind.u8.wrap ((c : Int) - 65 + 10) = (c : Int) - 65 + 10 := by rw [IntKind.wrap_u8]; omega
    obtain ⟨a, b⟩ := h3
    clear h1 h2
    go_enter Try.func42, Try.ntmps42
    go_wp2_with fail
    go_ret2
    exact ⟨by rw [HE.out, HV.out]; rfl, rfl⟩
  · have HE := keepf (show hexD c = none from by unfold hexD; rw [if_neg h1, if_neg h2, if_neg h3])
    have HV := keepf (show hexV c = 0 from by unfold hexV; rw [HE.out]; rfl)
    have m1 : (decide ((48 : Int) ≤ c) && decide ((c : Int) ≤ 57)) = false := by simp; omega
    have m2 : (decide ((97 : Int) ≤ c) && decide ((c : Int) ≤ 102)) = false := by simp; omega
    have m3 : (decide ((65 : Int) ≤ c) && decide ((c : Int) ≤ 70)) = false := by simp; omega
    go_enter Try.func42, Try.ntmps42
    by_cases k1 : 48 ≤ c
    · have k2 : ¬ c ≤ 57 := by omega
      by_cases k3 : 97 ≤ c
      · have k4 : ¬ c ≤ 102 := by omega
        have k5 : 65 ≤ c := by omega
        have k6 : ¬ c ≤ 70 := by omega
        clear h1 h2 h3 m1 m2 m3
        go_wp2_with fail
        go_ret2
        exact ⟨by rw [HE.out, HV.out]; rfl, rfl⟩
      · by_cases k5 : 65 ≤ c
        · have k6 : ¬ c ≤ 70 := by omega
          clear h1 h2 h3 m1 m2 m3
          go_wp2_with fail
          go_ret2
          exact ⟨by rw [HE.out, HV.out]; rfl, rfl⟩
        · clear h1 h2 h3 m1 m2 m3
          go_wp2_with fail
          go_ret2
          exact ⟨by rw [HE.out, HV.out]; rfl, rfl⟩
    · have k3 : ¬ 97 ≤ c := by omega
      have k5 : ¬ 65 ≤ c := by omega
      clear h1 h2 h3 m1 m2 m3
      go_wp2_with fail
      go_ret2
      exact ⟨by rw [HE.out, HV.out]; rfl, rfl⟩
/-- What a byte behind a backslash is. -/
def mnt (c : Nat) : Nat := if c = 110 then 10 else if c = 114 then 13 else if c = 116 then 9 else if c = 98 then 8 else if c = 102 then 12 else c
theorem mnt_lt {c : Nat} (h : c < 256) : mnt c < 256 := by
  unfold mnt
  repeat' split
  all_goals omega
theorem pmeant_any (c : Nat) (w : World) : Calls Try.prog 41 #[.int .u8 (c : Nat)] w fun e w' => e = .returned (.int .u8 (mnt c : Nat)) ∧ w = w' := by
  by_cases h : c = 110 ∨ c = 114 ∨ c = 116 ∨ c = 98 ∨ c = 102
  · rcases h with rfl | rfl | rfl | rfl | rfl
    all_goals
      go_enter Try.func41, Try.ntmps41
      go_wp2_with fail
      go_ret
      exact ⟨rfl, rfl⟩
  · have HE := keepf (show mnt c = c from by unfold mnt; rw [if_neg (by omega), if_neg (by omega), if_neg (by omega), if_neg (by omega), if_neg (by omega)])
    have e0 : ((c : Int) == 110) = false := by simp; omega
    have e1 : ((c : Int) == 114) = false := by simp; omega
    have e2 : ((c : Int) == 116) = false := by simp; omega
    have e3 : ((c : Int) == 98) = false := by simp; omega
    have e4 : ((c : Int) == 102) = false := by simp; omega
    clear h
    go_enter Try.func41, Try.ntmps41
    go_wp2_with fail
    go_ret
    exact ⟨by rw [HE.out]; rfl, rfl⟩
end Go.Proofs.Ytmmehaghcfdjdaa
