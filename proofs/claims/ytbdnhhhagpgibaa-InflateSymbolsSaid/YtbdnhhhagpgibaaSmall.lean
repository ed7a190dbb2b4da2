/- Contracts of the small functions of package bits: what each tells of a place, a writer or a reader that a call made. -/
import Derived.Test.YtbdnhhhagpgibaaShelf
import Derived.WalkKit
import Derived.Deep.QuietTactic
import Derived.BigQuiet
import Derived.Outline
import Derived.Test.YtbdnhhhagpgibaaMem
namespace Go.Proofs.Ytbdnhhhagpgibaa
open Go.RowKit
set_option linter.unusedVariables false

theorem ret_i64 {a b : Int} (h : a = b) : Ending.returned (.int .i64 a) = .returned (.int .i64 b) := by rw [h]

/-- '-a & 7' of a count of bits is what lacks up to whole bytes. -/
theorem neg_and7 (a : Nat) (h : a < 9223372036854775808) : bits .and .i64 (-(a : Int)) 7 = ((8 - a % 8) % 8 : Nat) := by
  have hx : (BitVec.ofInt 64 (-(a : Int)) &&& BitVec.ofInt 64 7).toNat = (8 - a % 8) % 8 := by
    rw [BitVec.toNat_and]
    have e7 : (BitVec.ofInt 64 7).toNat = 2 ^ 3 - 1 := by decide
    rw [e7, Nat.and_two_pow_sub_one_eq_mod, BitVec.toNat_ofInt]
    omega
  show IntKind.i64.wrap ((BitVec.ofInt 64 (-(a : Int)) &&& BitVec.ofInt 64 7).toNat : Int) = _
  rw [hx, IntKind.wrap_i64]
  omega

/-- How far above the lowest of n bits the next k stand, when d are behind. -/
def abv (high : Bool) (n d k : Int) : Int := bif high then n - d - k else d

theorem gap_any (g : Nat) (a : Nat) (w : World) (h : a < 4294967296) (h2 : w.cell? ⟨g, 2, none⟩ = some (.int .i64 a)) :
    Calls Try.prog 60 #[.pointer (some ⟨g, 0, none⟩)] w fun e w' => e = .returned (.int .i64 ((8 - a % 8) % 8 : Nat)) ∧ w = w' := by
  go_enter Try.func60, Try.ntmps60
  go_wp2
  go_ret
  exact ⟨ret_i64 (neg_and7 a (by omega)), rfl⟩

theorem room_any (g : Nat) (a : Nat) (w : World) (h : a < 4294967296) (h2 : w.cell? ⟨g, 2, none⟩ = some (.int .i64 a)) :
    Calls Try.prog 46 #[.pointer (some ⟨g, 0, none⟩)] w fun e w' => e = .returned (.int .i64 (8 - a % 8 : Nat)) ∧ w = w' := by
  go_enter Try.func46, Try.ntmps46
  go_wp2
  go_ret
  exact ⟨ret_i64 (by omega), rfl⟩

theorem above_any (g : Nat) (high : Bool) (n d k : Int) (w : World) (hd : 0 ≤ d) (hk : 0 ≤ k) (hn : d + k ≤ n) (hn2 : n ≤ 4294967296) (h1 : w.cell? ⟨g, 1, none⟩ = some (.bool high)) :
    Calls Try.prog 48 #[.pointer (some ⟨g, 0, none⟩), .int .i64 n, .int .i64 d, .int .i64 k] w fun e w' => e = .returned (.int .i64 (abv high n d k)) ∧ w = w' := by
  cases high
  all_goals
    go_enter Try.func48, Try.ntmps48
    go_wp2
    go_ret
    exact ⟨rfl, rfl⟩

theorem inByte_any (g : Nat) (high : Bool) (a : Nat) (k : Int) (w : World) (h : a < 4294967296) (hk : 0 ≤ k) (hk8 : k + (a % 8 : Nat) ≤ 8) (h1 : w.cell? ⟨g, 1, none⟩ = some (.bool high)) (h2 : w.cell? ⟨g, 2, none⟩ = some (.int .i64 a)) :
    Calls Try.prog 47 #[.pointer (some ⟨g, 0, none⟩), .int .i64 k] w fun e w' => e = .returned (.int .i64 (abv high 8 (a % 8 : Nat) k)) ∧ w = w' := by
  go_enter Try.func47, Try.ntmps47
  go_wp2_with (go_at_call 48; refine (above_any g high _ _ _ _ (by omega) (by omega) (by omega) (by omega) h1).mono ?_; rintro e w' ⟨rfl, rfl⟩)
  go_ret
  exact ⟨rfl, rfl⟩

theorem rready_any (g : Nat) (w : World) (h0 : w.cell? ⟨g, 0, none⟩ = some (.bool true)) :
    Calls Try.prog 36 #[.pointer (some ⟨g, 0, none⟩)] w fun e w' => e = .returned (.bool true) ∧ w = w' := by
  go_enter Try.func36, Try.ntmps36
  go_wp2
  go_ret
  exact ⟨rfl, rfl⟩

theorem at_any (g : Nat) (a : Int) (w : World) (h0 : w.cell? ⟨g, 0, none⟩ = some (.bool true)) (h2 : w.cell? ⟨g, 2, none⟩ = some (.int .i64 a)) :
    Calls Try.prog 21 #[.pointer (some ⟨g, 0, none⟩)] w fun e w' => e = .returned (.int .i64 a) ∧ w = w' := by
  go_enter Try.func21, Try.ntmps21
  go_wp2_with (go_at_call 36; refine (rready_any g _ h0).mono ?_; rintro e w' ⟨rfl, rfl⟩)
  go_ret
  exact ⟨rfl, rfl⟩

theorem left_any (g a n c : Nat) (A : Option Addr) (w : World) (hn : n < 4294967296) (ha : a ≤ 8 * n) (h0 : w.cell? ⟨g, 0, none⟩ = some (.bool true)) (h2 : w.cell? ⟨g, 2, none⟩ = some (.int .i64 a)) (h3 : w.cell? ⟨g, 3, none⟩ = some (.slice A n c)) :
    Calls Try.prog 45 #[.pointer (some ⟨g, 0, none⟩)] w fun e w' => e = .returned (.int .i64 (8 * n - a)) ∧ ∃ m, w' = w.drewN m := by
  go_enter Try.func45, Try.ntmps45
  go_wp2_with (go_at_call 36; refine (rready_any g _ h0).mono ?_; rintro e w' ⟨rfl, rfl⟩)
  go_quiet (fail)
  go_wp2
  go_ret
  exact ⟨rfl, _, rfl⟩

theorem bit_int (x j : Nat) : (((x / 2 ^ j : Nat) : Int) % 2 == 1) = x.testBit j := by
  rw [Nat.testBit_eq_decide_div_mod_eq, Bool.eq_iff_iff]
  simp only [beq_iff_eq, decide_eq_true_eq]
  omega

/-- The k-th bit of a number, from the lowest one on. -/
theorem bit_any (x : Nat) (k : Int) (w : World) (hx : x < 4294967296) (hk0 : 0 ≤ k) (hk : k ≤ 4294967296) :
    Calls Try.prog 37 #[.int .u32 x, .int .i64 k] w fun e w' => e = .returned (.bool (x.testBit k.toNat)) ∧ w = w' := by
  obtain ⟨k, rfl⟩ := Int.eq_ofNat_of_zero_le hk0
  go_enter Try.func37, Try.ntmps37
  go_wp2
  go_loop [0, 5] (fun t i => ∃ j q : Nat, j ≤ k ∧ i = .int .i64 j ∧ t = .int .u32 q ∧ q = x / 2 ^ j) (fun _ i => k - (intOf i).toNat)
  case atStart => exact ⟨0, x, Nat.zero_le _, rfl, rfl, by simp⟩
  case round =>
    obtain ⟨j, q, hj, rfl, rfl, hq⟩ := hrel
    have hb : q ≤ x := by rw [hq]; exact Nat.div_le_self _ _
    have hs : q / 2 = x / 2 ^ (j + 1) := by rw [hq, Nat.pow_succ, Nat.div_div_eq_div_mul]
    have HS := keepf hs
    have HQ := keepf hq
    clear hs hq
    by_cases hlt : j < k
    · go_wp2
      go_round
      case rel => exact ⟨j + 1, q / 2, by omega, by go_num, by go_num, HS.out⟩
      case measure => simp [intOf]; omega
    · obtain rfl : j = k := by omega
      go_wp2
      go_ret
      exact ⟨congrArg (fun b => Ending.returned (.bool b)) (by have := bit_int x j; rw [← HQ.out] at this; exact this), rfl⟩
end Go.Proofs.Ytbdnhhhagpgibaa
