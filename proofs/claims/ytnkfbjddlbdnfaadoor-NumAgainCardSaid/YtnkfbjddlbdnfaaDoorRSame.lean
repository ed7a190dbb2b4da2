/- The law's same: two numbers alike. -/
import Derived.Test.YtnkfbjddlbdnfaaDoorRChk
namespace Go.Proofs.YtnkfbjddlbdnfaaDoor
open Go.RowKit
set_option linter.unusedVariables false
set_option linter.unusedSimpArgs false

theorem str_ne2 {s s' : ByteArray} (h : s ≠ s') : ¬ s.toList = s'.toList := by
  rw [ByteArray.toList_eq, ByteArray.toList_eq]
  intro e
  obtain ⟨d⟩ := s
  obtain ⟨d'⟩ := s'
  exact h (congrArg ByteArray.mk (Array.ext' e))
set_option maxHeartbeats 1000000 in
theorem same9_any (k n k' n' : Int) (s s' : ByteArray) (A A' : Option Addr) (len cap len' cap' : Nat) (w : World) :
    Calls Tryd.prog 12 #[.agg #[.int .i64 k, .int .i64 n, .string s, .slice A len cap], .agg #[.int .i64 k', .int .i64 n', .string s', .slice A' len' cap']] w fun e w' => (∃ b : Bool, e = .returned (.bool b) ∧ (b = true ↔ (k = k' ∧ n = n' ∧ s = s' ∧ len = len'))) ∧ Chg NoS w w' := by
  by_cases hk : k = k'
  · subst hk
    by_cases hn : n = n'
    · subst hn
      by_cases hs : s = s'
      · subst hs
        by_cases hl : len = len'
        · subst hl
          go_enter Tryd.func12, Tryd.ntmps12
          go_wp2_with fail
          go_ret
          refine ⟨⟨true, rfl, by simp⟩, ((Chg.refl NoS w).alloc _).alloc _⟩
        · have u : ((len : Int) == (len' : Int)) = false := by simp; omega
          have HL := keepf hl
          clear hl
          go_enter Tryd.func12, Tryd.ntmps12
          go_wp2_with fail
          go_ret
          refine ⟨⟨false, rfl, by simp [HL.out]⟩, ((Chg.refl NoS w).alloc _).alloc _⟩
      · have u : ¬ s.toList = s'.toList := str_ne2 hs
        have HL := keepf hs
        clear hs
        go_enter Tryd.func12, Tryd.ntmps12
        go_wp2_with fail
        go_ret
        refine ⟨⟨false, rfl, by simp [HL.out]⟩, ((Chg.refl NoS w).alloc _).alloc _⟩
    · have u : (n == n') = false := by simp [hn]
      have HL := keepf hn
      clear hn
      go_enter Tryd.func12, Tryd.ntmps12
      go_wp2_with fail
      go_ret
      refine ⟨⟨false, rfl, by simp [HL.out]⟩, ((Chg.refl NoS w).alloc _).alloc _⟩
  · have u : (k == k') = false := by simp [hk]
    have HL := keepf hk
    clear hk
    go_enter Tryd.func12, Tryd.ntmps12
    go_wp2_with fail
    go_ret
    refine ⟨⟨false, rfl, by simp [HL.out]⟩, ((Chg.refl NoS w).alloc _).alloc _⟩
end Go.Proofs.YtnkfbjddlbdnfaaDoor
