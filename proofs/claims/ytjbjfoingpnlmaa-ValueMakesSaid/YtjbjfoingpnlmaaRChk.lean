/- The document's own Check of a number. -/
import Derived.Test.YtjbjfoingpnlmaaRPad
namespace Go.Proofs.Ytjbjfoingpnlmaa
open Go.RowKit
set_option linter.unusedVariables false
set_option linter.unusedSimpArgs false

/-- May a number be? -/
def mayN (k n : Int) : Prop := (k = 2 ∧ -2147483647 ≤ n ∧ n ≤ 2147483647) ∨ (k = 3 ∧ -2147483647000000 ≤ n ∧ n ≤ 2147483647000000)
instance (k n : Int) : Decidable (mayN k n) := inferInstanceAs (Decidable (_ ∨ _))
def chkOf (k n : Int) (sz len : Nat) : Int := if sz = 0 ∧ len = 0 ∧ mayN k n then 0 else 2
theorem str_nil {s : ByteArray} (h : s.size = 0) : s = ⟨#[]⟩ := by
  obtain ⟨a⟩ := s
  have h : a.size = 0 := h
  rw [Array.eq_empty_of_size_eq_zero h]
theorem str_ne {s : ByteArray} (h : s.size ≠ 0) : ¬ s.toList = [] := by
  rw [ByteArray.toList_eq]
  obtain ⟨⟨l⟩⟩ := s
  have h : l.length ≠ 0 := h
  rcases l with _ | ⟨x, l⟩
  · simp at h
  · intro h2; cases h2

set_option maxHeartbeats 1000000 in
theorem rchk_any (k n : Int) (s : ByteArray) (A : Option Addr) (len cap : Nat) (w : World) :
    Calls Try.prog 64 #[.agg #[.int .i64 k, .int .i64 n, .string s, .slice A len cap]] w fun e w' => e = .returned (.int .i64 (chkOf k n s.size len)) ∧ Chg NoS w w' := by
  by_cases hs : s.size = 0
  · obtain rfl := str_nil hs
    by_cases hl : len = 0
    · subst hl
      have HB : Hid (∀ z : Int, (mayN k n ∧ z = 0) ∨ (¬ mayN k n ∧ z = 2) → chkOf k n (ByteArray.mk #[]).size 0 = z) := by
        rintro z (⟨h, rfl⟩ | ⟨h, rfl⟩)
        · exact if_pos ⟨rfl, rfl, h⟩
        · exact if_neg (fun h2 => h h2.2.2)
      by_cases h2 : k = 2
      · subst h2
        by_cases c1 : -2147483647 ≤ n
        · have d1 : decide (-2147483647 ≤ n) = true := by simpa using c1
          by_cases c2 : n ≤ 2147483647
          · have d2 : decide (n ≤ 2147483647) = true := by simpa using c2
            have HZ := keepf (HB.out 0 (.inl ⟨.inl ⟨rfl, c1, c2⟩, rfl⟩))
            go_enter Try.func64, Try.ntmps64
            go_wp2_with fail
            go_ret
            refine ⟨?_, (Chg.refl NoS w).alloc _⟩
            show _ = Ending.returned (Value.int IntKind.i64 (chkOf _ _ (ByteArray.mk #[]).size _))
            rw [HZ.out]
            rfl
          · have d2 : decide (n ≤ 2147483647) = false := by simpa using c2
            have HZ := keepf (HB.out 2 (.inr ⟨fun h => by unfold mayN at h; omega, rfl⟩))
            go_enter Try.func64, Try.ntmps64
            go_wp2_with fail
            go_ret
            refine ⟨?_, (Chg.refl NoS w).alloc _⟩
            show _ = Ending.returned (Value.int IntKind.i64 (chkOf _ _ (ByteArray.mk #[]).size _))
            rw [HZ.out]
            rfl
        · have d1 : decide (-2147483647 ≤ n) = false := by simpa using c1
          have HZ := keepf (HB.out 2 (.inr ⟨fun h => by unfold mayN at h; omega, rfl⟩))
          go_enter Try.func64, Try.ntmps64
          go_wp2_with fail
          go_ret
          refine ⟨?_, (Chg.refl NoS w).alloc _⟩
          show _ = Ending.returned (Value.int IntKind.i64 (chkOf _ _ (ByteArray.mk #[]).size _))
          rw [HZ.out]
          rfl
      · have u2 : (k == 2) = false := by simpa using h2
        by_cases h3 : k = 3
        · subst h3
          by_cases c1 : -2147483647000000 ≤ n
          · have d1 : decide (-2147483647000000 ≤ n) = true := by simpa using c1
            by_cases c2 : n ≤ 2147483647000000
            · have d2 : decide (n ≤ 2147483647000000) = true := by simpa using c2
              have HZ := keepf (HB.out 0 (.inl ⟨.inr ⟨rfl, c1, c2⟩, rfl⟩))
              clear h2 u2
              go_enter Try.func64, Try.ntmps64
              go_wp2_with fail
              go_ret
              refine ⟨?_, (Chg.refl NoS w).alloc _⟩
              show _ = Ending.returned (Value.int IntKind.i64 (chkOf _ _ (ByteArray.mk #[]).size _))
              rw [HZ.out]
              rfl
            · have d2 : decide (n ≤ 2147483647000000) = false := by simpa using c2
              have HZ := keepf (HB.out 2 (.inr ⟨fun h => by unfold mayN at h; omega, rfl⟩))
              clear h2 u2
              go_enter Try.func64, Try.ntmps64
              go_wp2_with fail
              go_ret
              refine ⟨?_, (Chg.refl NoS w).alloc _⟩
              show _ = Ending.returned (Value.int IntKind.i64 (chkOf _ _ (ByteArray.mk #[]).size _))
              rw [HZ.out]
              rfl
          · have d1 : decide (-2147483647000000 ≤ n) = false := by simpa using c1
            have HZ := keepf (HB.out 2 (.inr ⟨fun h => by unfold mayN at h; omega, rfl⟩))
            clear h2 u2
            go_enter Try.func64, Try.ntmps64
            go_wp2_with fail
            go_ret
            refine ⟨?_, (Chg.refl NoS w).alloc _⟩
            show _ = Ending.returned (Value.int IntKind.i64 (chkOf _ _ (ByteArray.mk #[]).size _))
            rw [HZ.out]
            rfl
        · have u3 : (k == 3) = false := by simpa using h3
          have HZ := keepf (HB.out 2 (.inr ⟨fun h => by unfold mayN at h; omega, rfl⟩))
          go_enter Try.func64, Try.ntmps64
          go_wp2_with fail
          go_ret
          refine ⟨?_, (Chg.refl NoS w).alloc _⟩
          show _ = Ending.returned (Value.int IntKind.i64 (chkOf _ _ (ByteArray.mk #[]).size _))
          rw [HZ.out]
          rfl
    · have u1 : ((len : Int) == 0) = false := by simp; omega
      have u1' : ((len : Int) != 0) = true := by simp; omega
      have HZ : Hid (chkOf k n (ByteArray.mk #[]).size len = 2) := if_neg (fun h => hl h.2.1)
      go_enter Try.func64, Try.ntmps64
      go_wp2_with fail
      go_ret
      refine ⟨?_, (Chg.refl NoS w).alloc _⟩
      show _ = Ending.returned (Value.int IntKind.i64 (chkOf _ _ (ByteArray.mk #[]).size _))
      rw [HZ.out]
      rfl
  · have u1 := str_ne hs
    have HZ : Hid (chkOf k n s.size len = 2) := if_neg (fun h => hs h.1)
    clear hs
    go_enter Try.func64, Try.ntmps64
    go_wp2_with fail
    go_ret
    rw [HZ.out]
    exact ⟨rfl, (Chg.refl NoS w).alloc _⟩
end Go.Proofs.Ytjbjfoingpnlmaa
