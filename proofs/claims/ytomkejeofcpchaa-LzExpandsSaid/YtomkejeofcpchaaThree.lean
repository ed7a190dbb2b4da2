/- three: three bytes as one number. -/
import Derived.Test.YtomkejeofcpchaaMatch
import Derived.Laws.BitsAllLaws
namespace Go.Proofs.Ytomkejeofcpchaa
open Go.RowKit
set_option linter.unusedVariables false
set_option linter.unusedSimpArgs false

def threeOf (bs : List Nat) (p : Nat) : Nat := bs.getD p 0 * 65536 + bs.getD (p + 1) 0 * 256 + bs.getD (p + 2) 0
theorem getD_lt {bs : List Nat} (h : ∀ b ∈ bs, b < 256) (p : Nat) : bs.getD p 0 < 256 := by
  rw [List.getD_eq_getElem?_getD]
  rcases hp : bs[p]? with _ | x
  · decide
  · exact h x (List.mem_of_getElem? hp)
theorem three_lt {bs : List Nat} (h : ∀ b ∈ bs, b < 256) (p : Nat) : threeOf bs p < 16777216 := by
  have h0 := getD_lt h p
  have h1 := getD_lt h (p + 1)
  have h2 := getD_lt h (p + 2)
  unfold threeOf
  omega
theorem three_inj {bs : List Nat} (h : ∀ b ∈ bs, b < 256) {p q : Nat} (he : threeOf bs p = threeOf bs q) : ∀ j, j < 3 → bs.getD (p + j) 0 = bs.getD (q + j) 0 := by
  have h0 := getD_lt h p
  have h1 := getD_lt h (p + 1)
  have h2 := getD_lt h (p + 2)
  have k0 := getD_lt h q
  have k1 := getD_lt h (q + 1)
  have k2 := getD_lt h (q + 2)
  unfold threeOf at he
  intro j hj
  have : j = 0 ∨ j = 1 ∨ j = 2 := by omega
  rcases this with rfl | rfl | rfl
  · rw [Nat.add_zero, Nat.add_zero]; omega
  · omega
  · omega
theorem orAdd (i a r : Nat) (hr : r < 2 ^ i) : 2 ^ i * a ||| r = 2 ^ i * a + r := (Nat.two_pow_add_eq_or_of_lt hr a).symm
theorem three_bits (x y z : Nat) (h0 : x < 256) (h1 : y < 256) (h2 : z < 256) :
    bits BinOp.or IntKind.u32 (bits BinOp.or IntKind.u32 ((x : Int) * 65536) ((y : Int) * 256)) (z : Int) = ((x * 65536 + y * 256 + z : Nat) : Int) := by
  rw [show (x : Int) * 65536 = ((x * 65536 : Nat) : Int) from by simp, show (y : Int) * 256 = ((y * 256 : Nat) : Int) from by simp]
  have e1 : x * 65536 ||| y * 256 = x * 65536 + y * 256 := by
    have := orAdd 16 x (y * 256) (by omega)
    rw [Nat.mul_comm x]
    exact this
  have e2 : (x * 65536 + y * 256) ||| z = x * 65536 + y * 256 + z := by
    have := orAdd 8 (x * 256 + y) z (by omega)
    rw [show (2 : Nat) ^ 8 * (x * 256 + y) = x * 65536 + y * 256 from by omega] at this
    exact this
  rw [u32_or_nat _ _ (by omega) (by omega), e1, u32_or_nat _ _ (by omega) (by omega), e2]

theorem three_any (bs : List Nat) (A : Option Addr) (c p : Nat) (w : World) (hS : Src w 1 A bs.length c (ocells bs)) (hl : bs.length ≤ maxLen) (hp : p + 2 < bs.length) (hg : ∀ b ∈ bs, b < 256) :
    Calls Try.prog 24 #[.slice A bs.length c, .int .i64 p] w fun e w' => e = .returned (.int .u32 (threeOf bs p : Nat)) ∧ ∃ q, w' = w.drewN q := by
  obtain ⟨b, off, rfl, hcell⟩ := byte_cell (k := p) hS (Chg.refl _ _) (by omega)
  have c0 := hcell p (by omega)
  have c1 := hcell (p + 1) (by omega)
  have c2 := hcell (p + 2) (by omega)
  have h0 := getD_lt hg p
  have h1 := getD_lt hg (p + 1)
  have h2 := getD_lt hg (p + 2)
  obtain ⟨x, hx⟩ : ∃ x, bs.getD p 0 = x := ⟨_, rfl⟩
  obtain ⟨y, hy⟩ : ∃ y, bs.getD (p + 1) 0 = y := ⟨_, rfl⟩
  obtain ⟨z, hz⟩ : ∃ z, bs.getD (p + 2) 0 = z := ⟨_, rfl⟩
  have HT := keepf (show threeOf bs p = x * 65536 + y * 256 + z by rw [threeOf, hx, hy, hz])
  rw [hx] at c0 h0
  rw [hy] at c1 h1
  rw [hz] at c2 h2
  have HV := keepf (three_bits x y z h0 h1 h2)
  unfold maxLen at hl
  obtain ⟨n, hn⟩ : ∃ n, n = bs.length := ⟨_, rfl⟩
  rw [← hn] at hl hp ⊢
  have i0 : (p : Int) < n := by omega
  have i1 : (0 : Int) ≤ (p : Int) + 1 := by omega
  have i2 : (p : Int) + 1 < n := by omega
  have i3 : ((p : Int) + 1).toNat = p + 1 := by omega
  have i4 : (0 : Int) ≤ (p : Int) + 2 := by omega
  have i5 : (p : Int) + 2 < n := by omega
  have i6 : ((p : Int) + 2).toNat = p + 2 := by omega
  have w1 : IntKind.i64.wrap ((p : Int) + 1) = (p : Int) + 1 := by rw [IntKind.wrap_i64]; omega
  have w2 : IntKind.i64.wrap ((p : Int) + 2) = (p : Int) + 2 := by rw [IntKind.wrap_i64]; omega
  clear hS hn hcell hx hy hz hg
  go_enter Try.func24, Try.ntmps24
  go_wp2_with fail
  go_quiet (fail)
  go_wp2_with fail
  go_ret
  refine ⟨?_, nq, rfl⟩
  rw [HT.out, ← HV.out]
  rfl
end Go.Proofs.Ytomkejeofcpchaa
