/- The program's Check of a number. -/
import Derived.Test.YtjbjfoingpnlmaaRChk
namespace Go.Proofs.Ytjbjfoingpnlmaa
open Go.RowKit
set_option linter.unusedVariables false
set_option linter.unusedSimpArgs false

set_option maxHeartbeats 1000000 in
theorem chk_any (k n : Int) (s : ByteArray) (A : Option Addr) (len cap : Nat) (w : World) :
    Calls Try.prog 52 #[.agg #[.int .i64 k, .int .i64 n, .string s, .slice A len cap]] w fun e w' => e = .returned (.int .i64 (chkOf k n s.size len)) ∧ Chg NoS w w' := by
  by_cases h3 : k = 3
  · subst h3
    by_cases c1 : n < -2147483647000000
    · have d1 : decide (n < -2147483647000000) = true := by simpa using c1
      have HZ : Hid (chkOf 3 n s.size len = 2) := if_neg (fun h => by have h := h.2.2; unfold mayN at h; omega)
      clear c1
      go_enter Try.func52, Try.ntmps52
      go_wp2_with fail
      go_ret
      refine ⟨?_, (Chg.refl NoS w).alloc _⟩
      rw [HZ.out]
      rfl
    · have d1 : decide (n < -2147483647000000) = false := by simpa using c1
      by_cases c2 : 2147483647000000 < n
      · have d2 : decide (2147483647000000 < n) = true := by simpa using c2
        have HZ : Hid (chkOf 3 n s.size len = 2) := if_neg (fun h => by have h := h.2.2; unfold mayN at h; omega)
        clear c1 c2
        go_enter Try.func52, Try.ntmps52
        go_wp2_with fail
        go_ret
        refine ⟨?_, (Chg.refl NoS w).alloc _⟩
        rw [HZ.out]
        rfl
      · have d2 : decide (2147483647000000 < n) = false := by simpa using c2
        by_cases hs : s.size = 0
        · obtain rfl := str_nil hs
          by_cases hl : 0 < len
          · have d3 : decide (0 < (len : Int)) = true := by simp; omega
            have d3' : decide (0 < len) = true := by simp; omega
            have HZ : Hid (chkOf 3 n (ByteArray.mk #[]).size len = 2) := if_neg (fun h => by have h := h.2.1; omega)
            clear c1 c2 hs hl
            go_enter Try.func52, Try.ntmps52
            go_wp2_with fail
            go_ret
            refine ⟨?_, (Chg.refl NoS w).alloc _⟩
            show _ = Ending.returned (Value.int IntKind.i64 (chkOf _ _ (ByteArray.mk #[]).size _))
            rw [HZ.out]
            rfl
          · obtain rfl : len = 0 := by omega
            have HZ : Hid (chkOf 3 n (ByteArray.mk #[]).size 0 = 0) := if_pos ⟨rfl, rfl, by unfold mayN; omega⟩
            clear c1 c2 hs hl
            go_enter Try.func52, Try.ntmps52
            go_wp2_with fail
            go_ret
            refine ⟨?_, (Chg.refl NoS w).alloc _⟩
            show _ = Ending.returned (Value.int IntKind.i64 (chkOf _ _ (ByteArray.mk #[]).size _))
            rw [HZ.out]
            rfl
        · have u1 := str_ne hs
          have HZ : Hid (chkOf 3 n s.size len = 2) := if_neg (fun h => hs h.1)
          clear c1 c2 hs
          go_enter Try.func52, Try.ntmps52
          go_wp2_with fail
          go_ret
          refine ⟨?_, (Chg.refl NoS w).alloc _⟩
          rw [HZ.out]
          rfl
  · have u3 : (k == 3) = false := by simpa using h3
    by_cases h2 : k = 2
    · subst h2
      clear u3 h3
      by_cases c1 : n < -2147483647
      · have d1 : decide (n < -2147483647) = true := by simpa using c1
        have HZ : Hid (chkOf 2 n s.size len = 2) := if_neg (fun h => by have h := h.2.2; unfold mayN at h; omega)
        clear c1
        go_enter Try.func52, Try.ntmps52
        go_wp2_with fail
        go_ret
        refine ⟨?_, (Chg.refl NoS w).alloc _⟩
        rw [HZ.out]
        rfl
      · have d1 : decide (n < -2147483647) = false := by simpa using c1
        by_cases c2 : 2147483647 < n
        · have d2 : decide (2147483647 < n) = true := by simpa using c2
          have HZ : Hid (chkOf 2 n s.size len = 2) := if_neg (fun h => by have h := h.2.2; unfold mayN at h; omega)
          clear c1 c2
          go_enter Try.func52, Try.ntmps52
          go_wp2_with fail
          go_ret
          refine ⟨?_, (Chg.refl NoS w).alloc _⟩
          rw [HZ.out]
          rfl
        · have d2 : decide (2147483647 < n) = false := by simpa using c2
          by_cases hs : s.size = 0
          · obtain rfl := str_nil hs
            by_cases hl : 0 < len
            · have d3 : decide (0 < (len : Int)) = true := by simp; omega
              have d3' : decide (0 < len) = true := by simp; omega
              have HZ : Hid (chkOf 2 n (ByteArray.mk #[]).size len = 2) := if_neg (fun h => by have h := h.2.1; omega)
              clear c1 c2 hs hl
              go_enter Try.func52, Try.ntmps52
              go_wp2_with fail
              go_ret
              refine ⟨?_, (Chg.refl NoS w).alloc _⟩
              show _ = Ending.returned (Value.int IntKind.i64 (chkOf _ _ (ByteArray.mk #[]).size _))
              rw [HZ.out]
              rfl
            · obtain rfl : len = 0 := by omega
              have HZ : Hid (chkOf 2 n (ByteArray.mk #[]).size 0 = 0) := if_pos ⟨rfl, rfl, by unfold mayN; omega⟩
              clear c1 c2 hs hl
              go_enter Try.func52, Try.ntmps52
              go_wp2_with fail
              go_ret
              refine ⟨?_, (Chg.refl NoS w).alloc _⟩
              show _ = Ending.returned (Value.int IntKind.i64 (chkOf _ _ (ByteArray.mk #[]).size _))
              rw [HZ.out]
              rfl
          · have u1 := str_ne hs
            have HZ : Hid (chkOf 2 n s.size len = 2) := if_neg (fun h => hs h.1)
            clear c1 c2 hs
            go_enter Try.func52, Try.ntmps52
            go_wp2_with fail
            go_ret
            refine ⟨?_, (Chg.refl NoS w).alloc _⟩
            rw [HZ.out]
            rfl
    · have u2 : (k == 2) = false := by simpa using h2
      have u2' : (k != 2) = true := by simpa using h2
      have HZ : Hid (chkOf k n s.size len = 2) := if_neg (fun h => by have h := h.2.2; unfold mayN at h; omega)
      clear h3 h2
      go_enter Try.func52, Try.ntmps52
      go_wp2_with fail
      go_ret
      refine ⟨?_, (Chg.refl NoS w).alloc _⟩
      rw [HZ.out]
      rfl
end Go.Proofs.Ytjbjfoingpnlmaa
