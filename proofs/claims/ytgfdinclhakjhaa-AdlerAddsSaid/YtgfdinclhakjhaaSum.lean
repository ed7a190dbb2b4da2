/- What a sum of bytes that come does. -/
import Derived.Test.YtgfdinclhakjhaaTake
import Derived.BigQuiet
import Derived.Laws.BitsAllLaws
namespace Go.Proofs.Ytgfdinclhakjhaa
open Go.RowKit
set_option linter.unusedVariables false

/-- The sum at b is of these bytes. -/
def SumAt (w : World) (b : Nat) (all : List Nat) : Prop := Halves w b (lowA all) (highA all) all.length

theorem take_any (w : World) (b : Nat) (all : List Nat) (n : Int) (A : Option Addr) (len cap : Nat) (bs : List Nat) (hb : Halves w b (lowA all) (highA all) n)
    (hS : Src w 1 A len cap (ucells bs)) (hl : bs.length = len) (hm : len ≤ 1048576) (hlc : len ≤ cap) (hby : ∀ x ∈ bs, x < 256) (hne : ∀ a, A = some a → 0 < len → a.block ≠ b) :
    Calls Try.prog 16 #[.pointer (some ⟨b, 0, none⟩), .slice A len cap] w fun e w' =>
      e = .returned (.tuple #[]) ∧ Halves w' b (lowA (all ++ bs)) (highA (all ++ bs)) n ∧ Chg (fun i => i = b) w w' := by
  have h := callsIn_wide.1 (take_in w b (lowA all) (highA all) n A len cap bs hb (low_lt all) (high_lt all) hS hl hm hlc hby hne)
  rw [low_more, high_more] at h
  exact h

theorem or_cat (hi r : Nat) (hr : r < 65536) : hi * 65536 ||| r = 65536 * hi + r := by
  have h := Nat.two_pow_add_eq_or_of_lt (i := 16) hr hi
  rw [Nat.mul_comm hi]
  exact h.symm

theorem sum_bits (lo hi : Nat) (hhi : hi < 65521) : bits BinOp.or IntKind.u64 ((hi : Int) * 65536) (((lo : Int) + 1) % 65521) % 4294967296 = ((65536 * hi + (lo + 1) % 65521 : Nat) : Int) := by
  have hr := Nat.mod_lt (lo + 1) (show 0 < 65521 by decide)
  rw [show (hi : Int) * 65536 = ((hi * 65536 : Nat) : Int) from by simp, show ((lo : Int) + 1) % 65521 = (((lo + 1) % 65521 : Nat) : Int) from by simp, u64_or_nat _ _ (by omega) (by omega), or_cat _ _ (by omega)]
  omega

theorem sum_any (lo hi : Nat) (w : World) (hlo : lo < 65521) (hhi : hi < 65521) :
    Calls Try.prog 17 #[.agg #[.int .u64 lo, .int .u64 hi]] w fun e w' => e = .returned (.int .u32 (65536 * hi + (lo + 1) % 65521 : Nat)) ∧ Chg NoS w w' := by
  have hb := sum_bits lo hi hhi
  go_enter Try.func17, Try.ntmps17
  go_wp2_with fail
  go_ret
  exact ⟨by rw [← hb]; rfl, (Chg.refl _ _).alloc _⟩

/-- Value of a sum that is there. -/
theorem value_any (w : World) (b : Nat) (all : List Nat) (n : Int) (hb : Halves w b (lowA all) (highA all) n) :
    Calls Try.prog 11 #[.pointer (some ⟨b, 0, none⟩)] w fun e w' => e = .returned (.int .u32 (sumA all : Nat)) ∧ Chg NoS w w' := by
  have c0 := hb.cell 0
  have c1 := hb.cell 1
  simp at c0 c1
  have h0 := low_lt all
  have h1 := high_lt all
  unfold sumA
  generalize lowA all = lo at *
  generalize highA all = hi at *
  clear hb
  go_enter Try.func11, Try.ntmps11
  go_wp2_with (go_at_call 17; refine (sum_any lo hi _ h0 h1).mono ?_; rintro e w' ⟨rfl, hc⟩; have HC := keepf hc; clear hc)
  go_ret
  exact ⟨rfl, HC.out⟩

/-- Value of none. -/
theorem value_none (w : World) : Calls Try.prog 11 #[.pointer none] w fun e w' => e = .returned (.int .u32 1) ∧ Chg NoS w w' := by
  go_enter Try.func11, Try.ntmps11
  go_wp2_with (go_at_call 17; refine (sum_any 0 0 _ (by decide) (by decide)).mono ?_; rintro e w' ⟨rfl, hc⟩; have HC := keepf hc; clear hc)
  go_ret
  exact ⟨rfl, HC.out⟩

theorem len_any (w : World) (b : Nat) (lo hi : Nat) (n : Int) (hb : Halves w b lo hi n) : Calls Try.prog 12 #[.pointer (some ⟨b, 0, none⟩)] w fun e w' => e = .returned (.int .i64 n) ∧ w = w' := by
  have c2 := hb.cell 2
  simp at c2
  go_enter Try.func12, Try.ntmps12
  go_wp2_with fail
  go_ret
  exact ⟨rfl, rfl⟩

theorem len_none (w : World) : Calls Try.prog 12 #[.pointer none] w fun e w' => e = .returned (.int .i64 0) ∧ w = w' := by
  go_enter Try.func12, Try.ntmps12
  go_wp2_with fail
  go_ret
  exact ⟨rfl, rfl⟩

/-- Add to none. -/
theorem add_none (w : World) (v : Value) : Calls Try.prog 10 #[.pointer none, v] w fun e w' => e = .returned (.tuple #[]) ∧ w = w' := by
  go_enter Try.func10, Try.ntmps10
  go_wp2_with fail
  refine bodyPost_ret (results_none rfl _ _ _) rfl ?_
  exact ⟨rfl, rfl⟩
end Go.Proofs.Ytgfdinclhakjhaa
