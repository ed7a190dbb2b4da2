/- The document's own Pad, and Check of a number. -/
import Derived.Test.YtnkfbjddlbdnfaaDoorRTxt
namespace Go.Proofs.YtnkfbjddlbdnfaaDoor
open Go.RowKit
set_option linter.unusedVariables false
set_option linter.unusedSimpArgs false

/-- Digits with zeros ahead: the text, and the error. -/
def padOf (n d : Int) : List Nat × Int := if n < 0 ∨ d < 1 ∨ 20 < d ∨ d.toNat < (txt n.toNat d.toNat).length then ([], 2) else (txt n.toNat d.toNat, 0)
theorem pad_bad {n d : Int} (h : n < 0 ∨ d < 1 ∨ 20 < d ∨ d.toNat < (txt n.toNat d.toNat).length) : padOf n d = ([], 2) := if_pos h
theorem sb_nil : sb [] = ⟨#[]⟩ := rfl

theorem rpad_any (n d : Int) (w : World) (h0 : -9223372036854775808 ≤ n ∧ n ≤ 9223372036854775807) (h1 : -9223372036854775808 ≤ d ∧ d ≤ 9223372036854775807) :
    Calls Tryd.prog 16 #[.int .i64 n, .int .i64 d] w fun e w' => e = .returned (.tuple #[.string (sb (padOf n d).1), .int .i64 (padOf n d).2]) ∧ w = w' := by
  by_cases c1 : n < 0
  · have HB : Hid (padOf n d = ([], 2)) := pad_bad (.inl c1)
    have d1 : decide (n < 0) = true := by simpa using c1
    go_enter Tryd.func16, Tryd.ntmps16
    go_wp2_with fail
    go_ret2
    rw [HB.out]
    exact ⟨rfl, rfl⟩
  · have d1 : decide (n < 0) = false := by simpa using c1
    by_cases c2 : d < 1
    · have HB : Hid (padOf n d = ([], 2)) := pad_bad (.inr (.inl c2))
      have d2 : decide (d < 1) = true := by simpa using c2
      go_enter Tryd.func16, Tryd.ntmps16
      go_wp2_with fail
      go_ret2
      rw [HB.out]
      exact ⟨rfl, rfl⟩
    · have d2 : decide (d < 1) = false := by simpa using c2
      by_cases c3 : 20 < d
      · have HB : Hid (padOf n d = ([], 2)) := pad_bad (.inr (.inr (.inl c3)))
        have d3 : decide (20 < d) = true := by simpa using c3
        go_enter Tryd.func16, Tryd.ntmps16
        go_wp2_with fail
        go_ret2
        rw [HB.out]
        exact ⟨rfl, rfl⟩
      · have d3 : decide (20 < d) = false := by simpa using c3
        obtain ⟨n, rfl⟩ := Int.eq_ofNat_of_zero_le (show 0 ≤ n by omega)
        obtain ⟨d, rfl⟩ := Int.eq_ofNat_of_zero_le (show 0 ≤ d by omega)
        have HT := keepf (rtext_any n d w (by omega) (by omega) (by omega))
        obtain ⟨s, hs⟩ : ∃ s, s = sb (txt n d) := ⟨_, rfl⟩
        have HSS := keepf (sb_size (txt n d))
        rw [← hs] at HT HSS
        have HS := keepf hs
        obtain ⟨m, hm⟩ : ∃ m, s.size = m := ⟨_, rfl⟩
        rw [hm] at HSS
        clear hs
        have d1' : decide ((n : Int) < 0) = false := by simp
        by_cases c4 : d < m
        · have HB : Hid (padOf (n : Nat) (d : Nat) = ([], 2)) := pad_bad (.inr (.inr (.inr (by rw [Int.toNat_natCast, Int.toNat_natCast, ← HSS.out]; exact c4))))
          have d4 : decide ((d : Int) < m) = true := by simp; omega
          have d4' : decide (d < m) = true := by simp; omega
          go_enter Tryd.func16, Tryd.ntmps16
          go_wp2_with (go_at_call 27; refine HT.out.mono ?_; rintro e w' ⟨rfl, rfl⟩)
          go_ret2
          rw [HB.out]
          exact ⟨rfl, rfl⟩
        · have HB : Hid (padOf (n : Nat) (d : Nat) = (txt n d, 0)) := by
            show _ = _
            unfold padOf
            rw [Int.toNat_natCast, Int.toNat_natCast, if_neg (by rw [← HSS.out]; omega)]
          have d4 : decide ((d : Int) < m) = false := by simp; omega
          have d4' : decide (d < m) = false := by simp; omega
          go_enter Tryd.func16, Tryd.ntmps16
          go_wp2_with (go_at_call 27; refine HT.out.mono ?_; rintro e w' ⟨rfl, rfl⟩)
          go_ret2
          rw [HB.out, HS.out]
          exact ⟨rfl, rfl⟩
end Go.Proofs.YtnkfbjddlbdnfaaDoor
