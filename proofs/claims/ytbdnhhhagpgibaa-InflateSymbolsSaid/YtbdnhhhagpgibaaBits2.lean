/- Rows of bits got back as numbers: plain mathematics, no program. -/
import Derived.Test.YtbdnhhhagpgibaaBits
namespace Go.Proofs.Ytbdnhhhagpgibaa
set_option linter.unusedVariables false

theorem obf_shift (f : Nat → Bool) : ∀ n, obf f (n + 1) = (if f 0 then 1 else 0) + 2 * obf (fun p => f (p + 1)) n
  | 0 => by simp [obf]
  | n + 1 => by
    rw [obf, obf_shift f n, obf]
    split <;> split <;> simp [Nat.pow_succ] <;> omega

/-- All bits of a row of bytes. -/
def allBits (high : Bool) (bs : List Nat) : List Bool := (List.range (8 * bs.length)).map (bitAt high bs)
theorem allBits_length (high : Bool) (bs : List Nat) : (allBits high bs).length = 8 * bs.length := by simp [allBits]

/-- The number of the first k bits that are looked at, of M, from one end. -/
def ofPart (high : Bool) (M : List Bool) (k : Nat) : Nat := obf (fun p => M.getD (bif high then k - 1 - p else M.length - 1 - (k - 1 - p)) false) k

theorem ofPart_succ (high : Bool) (M : List Bool) (k : Nat) (b : Bool) (h : M.getD (bif high then k else M.length - 1 - k) false = b) :
    ofPart high M (k + 1) = 2 * ofPart high M k + (if b then 1 else 0) := by
  subst h
  rw [ofPart, obf_shift, ofPart, Nat.add_comm]
  congr 1
  · congr 1
    apply obf_congr
    intro p hp
    congr 1
    cases high <;> simp <;> omega

theorem ofPart_lt (high : Bool) (M : List Bool) (k : Nat) : ofPart high M k < 2 ^ k := obf_lt _ _

theorem ofPart_all (high : Bool) (bs : List Nat) (a n : Nat) (h : a + n ≤ 8 * bs.length) : ofPart high (((allBits high bs).drop a).take n) n = numAt high bs a n := by
  have hl : (((allBits high bs).drop a).take n).length = n := by simp [allBits_length]; omega
  apply obf_congr
  intro p hp
  rw [hl]
  have e : (bif high then n - 1 - p else n - 1 - (n - 1 - p)) = (bif high then n - 1 - p else p) := by cases high <;> simp <;> omega
  rw [e]
  have h1 : (bif high then n - 1 - p else p) < n := by cases high <;> simp <;> omega
  generalize (bif high then n - 1 - p else p) = q at *
  rw [getD_take, if_pos h1, List.getD_eq_getElem?_getD, List.getElem?_drop]
  simp [allBits, show a + q < 8 * bs.length from by omega]

theorem allBits_next (high : Bool) (bs : List Nat) (k j : Nat) (hj : j < 8) (hk : k < bs.length) :
    (allBits high bs).take (8 * k + (j + 1)) = (allBits high bs).take (8 * k + j) ++ [(bs.getD k 0).testBit (rowAt high j)] := by
  rw [← Nat.add_assoc, List.take_succ_eq_append_getElem (by rw [allBits_length]; omega)]
  congr 2
  simp [allBits, bitAt, show (8 * k + j) / 8 = k from by omega, show (8 * k + j) % 8 = j from by omega]
end Go.Proofs.Ytbdnhhhagpgibaa
