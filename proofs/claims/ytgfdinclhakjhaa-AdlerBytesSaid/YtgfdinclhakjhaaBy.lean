/- A sum's bytes, by the program and by the document, and back. -/
import Derived.Test.YtgfdinclhakjhaaWorkA
import Derived.BigQuiet
namespace Go.Proofs.Ytgfdinclhakjhaa
open Go.RowKit
set_option linter.unusedVariables false

/-- The four bytes of a number, the highest first. -/
def b4 (x : Nat) : List Nat := [x / 16777216, x / 65536 % 256, x / 256 % 256, x % 256]
theorem b4_lt (x : Nat) (hx : x < 4294967296) : ∀ b ∈ b4 x, b < 256 := by
  intro b hb
  simp only [b4, List.mem_cons, List.not_mem_nil, or_false] at hb
  omega

theorem bytes_any (x : Nat) (w : World) (hx : x < 4294967296) : Calls Try.prog 14 #[.int .u32 x] w fun e w' => e = .returned (.slice (some ⟨w.heap.size, 0, none⟩) 4 4) ∧ w' = w.alloc (.cells (ucells (b4 x)).toArray 5) := by
  go_enter Try.func14, Try.ntmps14
  go_wp2_with fail
  go_ret
  exact ⟨rfl, by simp [ucells, b4]⟩

theorem refBytes_any (x : Nat) (w : World) (hx : x < 4294967296) : Calls Try.prog 15 #[.int .u32 x] w fun e w' => e = .returned (.slice (some ⟨w.heap.size, 0, none⟩) 4 4) ∧ w' = w.alloc (.cells (ucells (b4 x)).toArray 5) := by
  go_enter Try.func15, Try.ntmps15
  go_wp2_with fail
  go_ret
  exact ⟨rfl, by simp [ucells, b4]⟩

def val4 (b0 b1 b2 b3 : Nat) : Nat := b0 * 16777216 + b1 * 65536 + b2 * 256 + b3

theorem or_add (i a r : Nat) (hr : r < 2 ^ i) : 2 ^ i * a ||| r = 2 ^ i * a + r := (Nat.two_pow_add_eq_or_of_lt hr a).symm

theorem val_bits (b0 b1 b2 b3 : Nat) (h0 : b0 < 256) (h1 : b1 < 256) (h2 : b2 < 256) (h3 : b3 < 256) :
    bits BinOp.or IntKind.u32 (bits BinOp.or IntKind.u32 (bits BinOp.or IntKind.u32 ((b0 : Int) * 16777216) ((b1 : Int) * 65536)) ((b2 : Int) * 256)) (b3 : Int) = ((val4 b0 b1 b2 b3 : Nat) : Int) := by
  rw [show (b0 : Int) * 16777216 = ((b0 * 16777216 : Nat) : Int) from by simp, show (b1 : Int) * 65536 = ((b1 * 65536 : Nat) : Int) from by simp, show (b2 : Int) * 256 = ((b2 * 256 : Nat) : Int) from by simp]
  have e1 : b0 * 16777216 ||| b1 * 65536 = b0 * 16777216 + b1 * 65536 := by
    have := or_add 24 b0 (b1 * 65536) (by omega)
    rw [Nat.mul_comm b0]
    exact this
  have e2 : (b0 * 16777216 + b1 * 65536) ||| b2 * 256 = b0 * 16777216 + b1 * 65536 + b2 * 256 := by
    have := or_add 16 (b0 * 256 + b1) (b2 * 256) (by omega)
    rw [show (2 : Nat) ^ 16 * (b0 * 256 + b1) = b0 * 16777216 + b1 * 65536 from by omega] at this
    exact this
  have e3 : (b0 * 16777216 + b1 * 65536 + b2 * 256) ||| b3 = b0 * 16777216 + b1 * 65536 + b2 * 256 + b3 := by
    have := or_add 8 (b0 * 65536 + b1 * 256 + b2) b3 (by omega)
    rw [show (2 : Nat) ^ 8 * (b0 * 65536 + b1 * 256 + b2) = b0 * 16777216 + b1 * 65536 + b2 * 256 from by omega] at this
    exact this
  rw [u32_or_nat _ _ (by omega) (by omega), e1, u32_or_nat _ _ (by omega) (by omega), e2, u32_or_nat _ _ (by omega) (by omega), e3]
  rfl

theorem val_some (b off cap : Nat) (b0 b1 b2 b3 : Nat) (w : World) (h0 : b0 < 256) (h1 : b1 < 256) (h2 : b2 < 256) (h3 : b3 < 256)
    (c0 : w.cell? ⟨b, off, none⟩ = some (.int .u8 b0)) (c1 : w.cell? ⟨b, off + 1, none⟩ = some (.int .u8 b1)) (c2 : w.cell? ⟨b, off + 2, none⟩ = some (.int .u8 b2)) (c3 : w.cell? ⟨b, off + 3, none⟩ = some (.int .u8 b3)) :
    Calls Try.prog 13 #[.slice (some ⟨b, off, none⟩) 4 cap] w fun e w' => e = .returned (.tuple #[.int .u32 (val4 b0 b1 b2 b3 : Nat), .int .i64 0]) ∧ ∃ n, w' = w.drewN n := by
  have hv := val_bits b0 b1 b2 b3 h0 h1 h2 h3
  go_enter Try.func13, Try.ntmps13
  go_wp2_with fail
  go_quiet (fail)
  go_wp2_with fail
  go_ret2
  exact ⟨by rw [← hv]; rfl, nq, rfl⟩

theorem val_none (A : Option Addr) (len cap : Nat) (w : World) (hl : len ≠ 4) :
    Calls Try.prog 13 #[.slice A len cap] w fun e w' => e = .returned (.tuple #[.int .u32 0, .int .i64 11]) ∧ w = w' := by
  have d1 : decide ((len : Int) = 4) = false := by simp; omega
  go_enter Try.func13, Try.ntmps13
  go_wp2_with fail
  go_ret2
  exact ⟨rfl, rfl⟩
end Go.Proofs.Ytgfdinclhakjhaa
