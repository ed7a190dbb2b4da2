/- The program's Digits. -/
import Derived.Test.YtnkfbjddlbdnfaaDoorNDig
import Derived.Test.YtnkfbjddlbdnfaaDoorRChk
namespace Go.Proofs.YtnkfbjddlbdnfaaDoor
open Go.RowKit
set_option linter.unusedVariables false
set_option linter.unusedSimpArgs false

theorem str_em {s : ByteArray} (h : s.size ≠ 0) : s.toList.isEmpty = false := by
  have h := str_ne h
  cases hl : s.toList with
  | nil => exact absurd hl h
  | cons x l => rfl

set_option maxHeartbeats 1000000 in
theorem digits_any (s : ByteArray) (w : World) (hl : s.size ≤ 1000000) :
    Calls Tryd.prog 10 #[.string s] w fun e w' => e = .returned (.tuple #[.int .i64 (dgOf (sl s)).1, .int .i64 (dgOf (sl s)).2]) ∧ Chg NoS w w' := by
  by_cases hs : s.size = 0
  · obtain rfl := str_nil hs
    clear hs hl
    go_enter Tryd.func10, Tryd.ntmps10
    go_wp2_with fail
    go_ret2
    exact ⟨rfl, Chg.refl _ _⟩
  · have u1 := str_em hs
    have HNE : Hid (sl s ≠ []) := fun h => by
      have h2 := sl_len s
      rw [h] at h2
      exact hs h2.symm
    obtain ⟨b, hb⟩ : ∃ b, decide (allD (sl s)) = b := ⟨_, rfl⟩
    have HA := keepf (alld_any s w hl)
    rw [hb] at HA
    have HC := keepf (fun W (h : allD (sl s)) => count_any s W hl h)
    clear hs hl
    cases b with
    | false =>
      have HB : Hid (dgOf (sl s) = (0, 11)) := dg_bad (.inr (by
        have h := of_decide_eq_false hb
        unfold allD at h
        simpa using h))
      clear hb
      go_enter Tryd.func10, Tryd.ntmps10
      go_wp2_with (go_at_call 21; refine HA.out.mono ?_; rintro e w2 ⟨rfl, hc2⟩; have HC2 := keepf hc2; clear hc2)
      go_ret2
      rw [HB.out]
      exact ⟨rfl, HC2.out⟩
    | true =>
      have HD := keepf (of_decide_eq_true hb)
      clear hb
      obtain ⟨v, hv⟩ : ∃ v, valF 0 (sl s) = v := ⟨_, rfl⟩
      have HV := keepf hv
      obtain ⟨m, hm⟩ : ∃ m : Nat, min v 2147483648 = m := ⟨_, rfl⟩
      have HN : Hid (∀ W, Calls Tryd.prog 22 #[.string s] W fun e w' => e = .returned (.int .i64 (m : Int)) ∧ Chg NoS W w') := fun W => by
        rw [← hm, ← hv]
        exact HC.out W HD.out
      clear hv HC
      by_cases hb : 2147483647 < m
      · have d1 : decide ((2147483647 : Int) < m) = true := by simp; omega
        have d1' : decide (2147483647 < m) = true := by simp; omega
        have HB : Hid (dgOf (sl s) = (0, 5)) := dg_big HNE.out HD.out (by rw [HV.out]; omega)
        clear hm hb
        go_enter Tryd.func10, Tryd.ntmps10
        go_wp2_with first | (go_at_call 21; refine HA.out.mono ?_; rintro e w2 ⟨rfl, hc2⟩; have HC2 := keepf hc2; clear hc2) | (go_at_call 22; refine (HN.out _).mono ?_; rintro e w3 ⟨rfl, hc3⟩; have HC3 := keepf (HC2.out.trans hc3 (fun _ _ h => h)); clear hc3)
        go_ret2
        rw [HB.out]
        exact ⟨rfl, HC3.out⟩
      · have d1 : decide ((2147483647 : Int) < m) = false := by simp; omega
        have d1' : decide (2147483647 < m) = false := by simp; omega
        obtain rfl : m = v := by omega
        have HB : Hid (dgOf (sl s) = ((m : Int), 0)) := by
          have h := dg_ok HNE.out HD.out (by rw [HV.out]; omega)
          rw [HV.out] at h
          exact h
        clear hm hb
        go_enter Tryd.func10, Tryd.ntmps10
        go_wp2_with first | (go_at_call 21; refine HA.out.mono ?_; rintro e w2 ⟨rfl, hc2⟩; have HC2 := keepf hc2; clear hc2) | (go_at_call 22; refine (HN.out _).mono ?_; rintro e w3 ⟨rfl, hc3⟩; have HC3 := keepf (HC2.out.trans hc3 (fun _ _ h => h)); clear hc3)
        go_ret2
        rw [HB.out]
        exact ⟨rfl, HC3.out⟩
end Go.Proofs.YtnkfbjddlbdnfaaDoor
