/- Rows of bits as bytes and as numbers: plain mathematics, no program. -/
import Derived.WalkKit
namespace Go.Proofs.Ytbdnhhhagpgibaa
set_option linter.unusedVariables false

/-- The number whose p-th bit, below n, is f p. -/
def obf (f : Nat → Bool) : Nat → Nat
  | 0 => 0
  | n + 1 => obf f n + if f n then 2 ^ n else 0

theorem obf_lt (f : Nat → Bool) (n : Nat) : obf f n < 2 ^ n := by
  induction n with
  | zero => simp [obf]
  | succ n ih =>
    rw [obf, Nat.pow_succ]
    split <;> omega

theorem obf_bit (f : Nat → Bool) (n i : Nat) : (obf f n).testBit i = (decide (i < n) && f i) := by
  induction n with
  | zero => simp [obf]
  | succ n ih =>
    have hl := obf_lt f n
    rw [obf]
    by_cases hf : f n = true
    · rw [if_pos hf, Nat.add_comm, show 2 ^ n + obf f n = 2 ^ n * 1 + obf f n from by omega, Nat.testBit_two_pow_mul_add 1 hl]
      by_cases h1 : i < n
      · simp [h1, ih, show i < n + 1 from by omega]
      · by_cases h2 : i = n
        · subst h2; simp [hf]
        · have h3 : ¬ i < n + 1 := by omega
          have h4 : 0 < i - n := by omega
          simp only [h1, if_false, h3, decide_false, Bool.false_and]
          obtain ⟨m, hm⟩ : ∃ m, i - n = m + 1 := ⟨i - n - 1, by omega⟩
          rw [hm, Nat.testBit_succ]
          simp
    · rw [if_neg hf, Nat.add_zero, ih]
      by_cases h1 : i < n
      · simp [h1, show i < n + 1 from by omega]
      · by_cases h2 : i = n
        · subst h2; simp [hf]
        · simp [h1, show ¬ i < n + 1 from by omega]

theorem obf_congr (f g : Nat → Bool) (n : Nat) (h : ∀ p, p < n → f p = g p) : obf f n = obf g n := by
  apply Nat.eq_of_testBit_eq
  intro i
  rw [obf_bit, obf_bit]
  by_cases hi : i < n
  · simp [hi, h i hi]
  · simp [hi]

/-- Which place of its byte's row of bits the bit p has. -/
def rowAt (high : Bool) (p : Nat) : Nat := bif high then 7 - p else p

/-- The i-th byte of a row of bits. -/
def byteAt (high : Bool) (L : List Bool) (i : Nat) : Nat := obf (fun p => L.getD (8 * i + rowAt high p) false) 8

def nby (n : Nat) : Nat := (n + 7) / 8
def bytesOf (high : Bool) (L : List Bool) : List Nat := (List.range (nby L.length)).map (byteAt high L)

theorem bytesOf_length (high : Bool) (L : List Bool) : (bytesOf high L).length = nby L.length := by simp [bytesOf]
theorem bytesOf_get (high : Bool) (L : List Bool) (i : Nat) (h : i < nby L.length) : (bytesOf high L)[i]? = some (byteAt high L i) := by
  simp [bytesOf, h]
theorem byteAt_lt (high : Bool) (L : List Bool) (i : Nat) : byteAt high L i < 256 := obf_lt _ 8

/-- How far above: as a natural number. -/
def abn (high : Bool) (n d k : Nat) : Nat := bif high then n - d - k else d

/-- A number's n bits, in the order in which they are laid. -/
def numBits (high : Bool) (x n : Nat) : List Bool := (List.range n).map fun k => x.testBit (bif high then n - 1 - k else k)

theorem numBits_length (high : Bool) (x n : Nat) : (numBits high x n).length = n := by simp [numBits]
theorem numBits_getD (high : Bool) (x n k : Nat) (h : k < n) : (numBits high x n).getD k false = x.testBit (bif high then n - 1 - k else k) := by
  simp [numBits, List.getD_eq_getElem?_getD, h]

theorem getD_take (L : List Bool) (d j : Nat) : (L.take d).getD j false = if j < d then L.getD j false else false := by
  simp only [List.getD_eq_getElem?_getD, List.getElem?_take]
  split <;> rfl
theorem getD_append (L M : List Bool) (j : Nat) : (L ++ M).getD j false = if j < L.length then L.getD j false else M.getD (j - L.length) false := by
  simp only [List.getD_eq_getElem?_getD]
  split
  · rw [List.getElem?_append_left ‹_›]
  · rw [List.getElem?_append_right (by omega)]

/-- A piece of k bits of a number, laid into the byte in which the row ends. -/
theorem put_piece (high : Bool) (L : List Bool) (x n d k : Nat) (hd : d + k ≤ n) (hk : (L.length + d) % 8 + k ≤ 8) :
    byteAt high (L ++ (numBits high x n).take (d + k)) ((L.length + d) / 8) =
      byteAt high (L ++ (numBits high x n).take d) ((L.length + d) / 8) ||| ((x / 2 ^ abn high n d k) % 2 ^ k * 2 ^ abn high 8 ((L.length + d) % 8) k) := by
  apply Nat.eq_of_testBit_eq
  intro p
  rw [Nat.testBit_or, byteAt, byteAt, obf_bit, obf_bit, Nat.testBit_mul_two_pow, Nat.testBit_mod_two_pow, Nat.testBit_div_two_pow]
  by_cases hp : p < 8
  · simp only [hp, decide_true, Bool.true_and]
    rw [getD_append, getD_append, getD_take, getD_take]
    have hm : (L.length + d) = 8 * ((L.length + d) / 8) + (L.length + d) % 8 := by omega
    generalize (L.length + d) / 8 = q at *
    generalize (L.length + d) % 8 = r at *
    by_cases h1 : 8 * q + rowAt high p < L.length
    · simp only [h1, if_true]
      have : ¬ (abn high 8 r k ≤ p ∧ p - abn high 8 r k < k) := by
        cases high <;> simp [rowAt, abn] at h1 ⊢ <;> omega
      by_cases h2 : abn high 8 r k ≤ p
      · have h3 : ¬ (p - abn high 8 r k < k) := fun h => this ⟨h2, h⟩
        simp [h3]
      · simp [h2]
    · simp only [h1, if_false]
      by_cases h2 : 8 * q + rowAt high p - L.length < d
      · simp only [h2, if_true, show 8 * q + rowAt high p - L.length < d + k from by omega]
        have : ¬ (abn high 8 r k ≤ p ∧ p - abn high 8 r k < k) := by
          cases high <;> simp [rowAt, abn] at h1 h2 ⊢ <;> omega
        by_cases h2 : abn high 8 r k ≤ p
        · have h3 : ¬ (p - abn high 8 r k < k) := fun h => this ⟨h2, h⟩
          simp [h3]
        · simp [h2]
      · simp only [h2, if_false, Bool.false_or]
        by_cases h3 : 8 * q + rowAt high p - L.length < d + k
        · simp only [h3, if_true]
          rw [numBits_getD _ _ _ _ (by omega)]
          have h4 : abn high 8 r k ≤ p ∧ p - abn high 8 r k < k := by
            cases high <;> simp [rowAt, abn] at h1 h2 h3 ⊢ <;> omega
          simp only [h4.1, h4.2, decide_true, Bool.true_and]
          congr 1
          cases high <;> simp [rowAt, abn] at h1 h2 h3 h4 ⊢ <;> omega
        · simp only [h3, if_false]
          have : ¬ (abn high 8 r k ≤ p ∧ p - abn high 8 r k < k) := by
            cases high <;> simp [rowAt, abn] at h1 h2 h3 ⊢ <;> omega
          by_cases h5 : abn high 8 r k ≤ p
          · have h6 : ¬ (p - abn high 8 r k < k) := fun h => this ⟨h5, h⟩
            simp [h6]
          · simp [h5]
  · simp only [hp, decide_false, Bool.false_and, Bool.false_or]
    have : ¬ (abn high 8 ((L.length + d) % 8) k ≤ p ∧ p - abn high 8 ((L.length + d) % 8) k < k) := by
      cases high <;> simp [abn] <;> omega
    by_cases h5 : abn high 8 ((L.length + d) % 8) k ≤ p
    · have h6 : ¬ (p - abn high 8 ((L.length + d) % 8) k < k) := fun h => this ⟨h5, h⟩
      simp [h6]
    · simp [h5]

/-- A byte that the row passes by is as it was. -/
theorem put_other (high : Bool) (L M M' : List Bool) (i : Nat) (h : 8 * i + 8 ≤ L.length) : byteAt high (L ++ M) i = byteAt high (L ++ M') i := by
  apply obf_congr
  intro p hp
  rw [getD_append, getD_append, if_pos, if_pos]
  all_goals (cases high <;> simp [rowAt] <;> omega)

/-- The i-th bit of a row of bytes. -/
def bitAt (high : Bool) (bs : List Nat) (i : Nat) : Bool := (bs.getD (i / 8) 0).testBit (rowAt high (i % 8))

/-- Of the number of the n bits from the place a on those that are got when d are. -/
def getPart (high : Bool) (bs : List Nat) (a n d : Nat) : Nat :=
  obf (fun p => decide ((bif high then n - 1 - p else p) < d) && bitAt high bs (a + (bif high then n - 1 - p else p))) n

/-- The number of the n bits from the place a on. -/
def numAt (high : Bool) (bs : List Nat) (a n : Nat) : Nat := obf (fun p => bitAt high bs (a + (bif high then n - 1 - p else p))) n

theorem getPart_zero (high : Bool) (bs : List Nat) (a n : Nat) : getPart high bs a n 0 = 0 := by
  apply Nat.eq_of_testBit_eq
  intro p
  simp [getPart, obf_bit]

theorem getPart_all (high : Bool) (bs : List Nat) (a n : Nat) : getPart high bs a n n = numAt high bs a n := by
  apply obf_congr
  intro p hp
  cases high
  · simp [hp]
  · simp; omega

theorem getPart_lt (high : Bool) (bs : List Nat) (a n d : Nat) : getPart high bs a n d < 2 ^ n := obf_lt _ _

theorem get_piece (high : Bool) (bs : List Nat) (a n d k : Nat) (hd : d + k ≤ n) (hk : (a + d) % 8 + k ≤ 8) :
    getPart high bs a n (d + k) = getPart high bs a n d ||| (bs.getD ((a + d) / 8) 0 / 2 ^ abn high 8 ((a + d) % 8) k % 2 ^ k * 2 ^ abn high n d k) := by
  apply Nat.eq_of_testBit_eq
  intro p
  rw [Nat.testBit_or, getPart, getPart, obf_bit, obf_bit, Nat.testBit_mul_two_pow, Nat.testBit_mod_two_pow, Nat.testBit_div_two_pow]
  have hm : (a + d) = 8 * ((a + d) / 8) + (a + d) % 8 := by omega
  by_cases hp : p < n
  · simp only [hp, decide_true, Bool.true_and]
    by_cases h1 : (bif high then n - 1 - p else p) < d
    · have h3 : ¬ (abn high n d k ≤ p ∧ p - abn high n d k < k) := by
        cases high <;> simp [abn] at h1 ⊢ <;> omega
      have h2 : (bif high then n - 1 - p else p) < d + k := by omega
      simp only [h1, h2, decide_true, Bool.true_and]
      by_cases h5 : abn high n d k ≤ p
      · have h6 : ¬ (p - abn high n d k < k) := fun h => h3 ⟨h5, h⟩
        simp [h6]
      · simp [h5]
    · simp only [h1, decide_false, Bool.false_and, Bool.false_or]
      by_cases h2 : (bif high then n - 1 - p else p) < d + k
      · have h3 : abn high n d k ≤ p ∧ p - abn high n d k < k := by
          cases high <;> simp [abn] at h1 h2 ⊢ <;> omega
        simp only [h2, h3.1, h3.2, decide_true, Bool.true_and]
        rw [bitAt]
        have hq : (a + (bif high then n - 1 - p else p)) / 8 = (a + d) / 8 := by
          cases high <;> simp at h1 h2 ⊢ <;> omega
        rw [hq]
        congr 1
        have hr : (a + (bif high then n - 1 - p else p)) % 8 = (a + d) % 8 + ((bif high then n - 1 - p else p) - d) := by
          cases high <;> simp at h1 h2 ⊢ <;> omega
        rw [hr]
        cases high <;> simp [rowAt, abn] at h1 h2 h3 ⊢ <;> omega
      · have h3 : ¬ (abn high n d k ≤ p ∧ p - abn high n d k < k) := by
          cases high <;> simp [abn] at h1 h2 ⊢ <;> omega
        simp only [h2, decide_false, Bool.false_and]
        by_cases h5 : abn high n d k ≤ p
        · have h6 : ¬ (p - abn high n d k < k) := fun h => h3 ⟨h5, h⟩
          simp [h6]
        · simp [h5]
  · simp only [hp, decide_false, Bool.false_and, Bool.false_or]
    have h3 : ¬ (abn high n d k ≤ p ∧ p - abn high n d k < k) := by
      cases high <;> simp [abn] <;> omega
    by_cases h5 : abn high n d k ≤ p
    · have h6 : ¬ (p - abn high n d k < k) := fun h => h3 ⟨h5, h⟩
      simp [h6]
    · simp [h5]

theorem bitAt_bytes (high : Bool) (L : List Bool) (i : Nat) : bitAt high (bytesOf high L) i = L.getD i false := by
  rw [bitAt]
  by_cases h : i / 8 < nby L.length
  · rw [List.getD_eq_getElem?_getD, bytesOf_get _ _ _ h, Option.getD_some, byteAt, obf_bit]
    have h8 : i % 8 < 8 := Nat.mod_lt _ (by omega)
    have hr : rowAt high (i % 8) < 8 := by cases high <;> simp [rowAt] <;> omega
    have he : 8 * (i / 8) + rowAt high (rowAt high (i % 8)) = i := by cases high <;> simp [rowAt] <;> omega
    simp [hr, he]
  · have h1 : L.length ≤ i := by unfold nby at h; omega
    have h2 : (bytesOf high L).length ≤ i / 8 := by rw [bytesOf_length]; omega
    rw [List.getD_eq_getElem?_getD, List.getElem?_eq_none h2, List.getD_eq_getElem?_getD, List.getElem?_eq_none h1]
    simp

theorem numAt_put (high : Bool) (L M : List Bool) (x n : Nat) (hx : x < 2 ^ n) : numAt high (bytesOf high (L ++ (numBits high x n ++ M))) L.length n = x := by
  apply Nat.eq_of_testBit_eq
  intro p
  rw [numAt, obf_bit]
  by_cases hp : p < n
  · have h1 : (bif high then n - 1 - p else p) < n := by cases high <;> simp <;> omega
    rw [bitAt_bytes, getD_append, if_neg (by omega), getD_append, numBits_length, if_pos (by omega), Nat.add_sub_cancel_left, numBits_getD _ _ _ _ h1]
    simp only [hp, decide_true, Bool.true_and]
    congr 1
    cases high <;> simp <;> omega
  · simp only [hp, decide_false, Bool.false_and]
    symm
    exact Nat.testBit_lt_two_pow (Nat.lt_of_lt_of_le hx (Nat.pow_le_pow_right (by decide) (by omega)))

theorem numAt_end (high : Bool) (L : List Bool) (n : Nat) : numAt high (bytesOf high L) L.length n = 0 := by
  apply Nat.eq_of_testBit_eq
  intro p
  rw [numAt, obf_bit, bitAt_bytes, List.getD_eq_getElem?_getD, List.getElem?_eq_none (by omega)]
  simp

theorem obf_set (f g : Nat → Bool) (p : Nat) (hf : f p = false) (hg : g p = true) (h : ∀ q, q ≠ p → g q = f q) : ∀ n, p < n → obf g n = obf f n + 2 ^ p
  | 0, hp => by omega
  | n + 1, hp => by
    rw [obf, obf]
    by_cases e : p = n
    · subst e
      rw [obf_congr g f p (fun q hq => h q (by omega)), hf, hg]
      simp
    · rw [obf_set f g p hf hg h n (by omega), h n (by omega)]
      omega

/-- One bit more in a row. -/
theorem byteAt_one (high : Bool) (L : List Bool) (k : Nat) (h : L[k]? = some true) :
    byteAt high (L.take (k + 1)) (k / 8) = byteAt high (L.take k) (k / 8) + 2 ^ rowAt high (k % 8) := by
  have hk : k % 8 < 8 := Nat.mod_lt _ (by omega)
  have hr : rowAt high (k % 8) < 8 := by cases high <;> simp [rowAt] <;> omega
  have hrr : ∀ q, q < 8 → rowAt high (rowAt high q) = q := by intro q hq; cases high <;> simp [rowAt] <;> omega
  have e1 : byteAt high (L.take k) (k / 8) = obf (fun q => decide (q < 8) && (L.take k).getD (8 * (k / 8) + rowAt high q) false) 8 := obf_congr _ _ 8 (fun p hp => by simp [hp])
  have e2 : byteAt high (L.take (k + 1)) (k / 8) = obf (fun q => decide (q < 8) && (L.take (k + 1)).getD (8 * (k / 8) + rowAt high q) false) 8 := obf_congr _ _ 8 (fun p hp => by simp [hp])
  rw [e1, e2]
  refine obf_set _ _ _ ?_ ?_ ?_ 8 hr
  · simp only [hr, decide_true, Bool.true_and]
    rw [hrr _ hk, getD_take, if_neg (by omega)]
  · simp only [hr, decide_true, Bool.true_and]
    rw [hrr _ hk, getD_take, if_pos (by omega), List.getD_eq_getElem?_getD, show 8 * (k / 8) + k % 8 = k from by omega, h]
    rfl
  · intro q hq
    by_cases h8 : q < 8
    · simp only [h8, decide_true, Bool.true_and]
      rw [getD_take, getD_take]
      have hne : 8 * (k / 8) + rowAt high q ≠ k := by
        intro e
        apply hq
        have : rowAt high q = k % 8 := by
          have : rowAt high q < 8 := by cases high <;> simp [rowAt] <;> omega
          omega
        rw [← this, hrr q h8]
      by_cases h1 : 8 * (k / 8) + rowAt high q < k
      · rw [if_pos h1, if_pos (by omega)]
      · rw [if_neg h1, if_neg (by omega)]
    · simp [h8]

theorem byteAt_other (high : Bool) (L : List Bool) (k i : Nat) (h : i ≠ k / 8 ∨ L[k]? = some false) : byteAt high (L.take (k + 1)) i = byteAt high (L.take k) i := by
  apply obf_congr
  intro p hp
  have hr : rowAt high p < 8 := by cases high <;> simp [rowAt] <;> omega
  rw [getD_take, getD_take]
  by_cases h1 : 8 * i + rowAt high p < k
  · rw [if_pos h1, if_pos (by omega)]
  · rw [if_neg h1]
    by_cases h2 : 8 * i + rowAt high p < k + 1
    · have e : 8 * i + rowAt high p = k := by omega
      rw [if_pos h2, e]
      rcases h with h | h
      · omega
      · rw [List.getD_eq_getElem?_getD, h]; rfl
    · rw [if_neg h2]
end Go.Proofs.Ytbdnhhhagpgibaa
