/- Adler's sum, in plain mathematics. -/
import Derived.Test.YtgfdinclhakjhaaOpen
namespace Go.Proofs.Ytgfdinclhakjhaa
open Go.RowKit
set_option linter.unusedVariables false

/-- One byte more, both halves counted from 0 on, without going around. -/
def stepA (s : Nat × Nat) (x : Nat) : Nat × Nat := (s.1 + x, s.2 + (s.1 + x + 1))
def acc (s : Nat × Nat) (bs : List Nat) : Nat × Nat := bs.foldl stepA s
/-- The low half, counted from 0 on, and the high half, of bytes. -/
def lowA (bs : List Nat) : Nat := (acc (0, 0) bs).1 % 65521
def highA (bs : List Nat) : Nat := (acc (0, 0) bs).2 % 65521
/-- The sum of bytes. -/
def sumA (bs : List Nat) : Nat := 65536 * highA bs + (lowA bs + 1) % 65521

/-- The bytes bs, as cells. -/
def ucells (bs : List Nat) : List Value := bs.map fun b => .int .u8 (b : Nat)

theorem acc_append (s : Nat × Nat) (as bs : List Nat) : acc s (as ++ bs) = acc (acc s as) bs := by simp [acc]
theorem acc_snoc (s : Nat × Nat) (as : List Nat) (x : Nat) : acc s (as ++ [x]) = stepA (acc s as) x := by simp [acc]

/-- Both halves may be brought below the base ahead. -/
theorem acc_mod : ∀ (bs : List Nat) (s t : Nat × Nat), s.1 % 65521 = t.1 % 65521 → s.2 % 65521 = t.2 % 65521 → (acc s bs).1 % 65521 = (acc t bs).1 % 65521 ∧ (acc s bs).2 % 65521 = (acc t bs).2 % 65521
  | [], s, t, h1, h2 => ⟨h1, h2⟩
  | x :: bs, s, t, h1, h2 => acc_mod bs (stepA s x) (stepA t x) (by simp only [stepA]; omega) (by simp only [stepA]; omega)

theorem low_more (as bs : List Nat) : (acc (lowA as, highA as) bs).1 % 65521 = lowA (as ++ bs) := by
  unfold lowA highA
  rw [acc_append]
  exact (acc_mod bs _ _ (by simp) (by simp)).1
theorem high_more (as bs : List Nat) : (acc (lowA as, highA as) bs).2 % 65521 = highA (as ++ bs) := by
  unfold lowA highA
  rw [acc_append]
  exact (acc_mod bs _ _ (by simp) (by simp)).2

theorem low_lt (bs : List Nat) : lowA bs < 65521 := Nat.mod_lt _ (by decide)
theorem high_lt (bs : List Nat) : highA bs < 65521 := Nat.mod_lt _ (by decide)
theorem sum_lt (bs : List Nat) : sumA bs < 4294967296 := by
  have := high_lt bs
  have := Nat.mod_lt (lowA bs + 1) (show 0 < 65521 by decide)
  unfold sumA
  omega

/-- How great the halves become. -/
theorem acc_le1 : ∀ (bs : List Nat) (s : Nat × Nat), (∀ b ∈ bs, b < 256) → (acc s bs).1 ≤ s.1 + 255 * bs.length
  | [], s, _ => by simp [acc]
  | x :: bs, s, h => by
    have h1 := acc_le1 bs (stepA s x) (fun b hb => h b (List.mem_cons_of_mem _ hb))
    have h2 := h x (List.mem_cons_self ..)
    simp only [stepA] at h1
    simp only [acc, List.foldl_cons, List.length_cons] at *
    simp only [stepA] at *
    omega
theorem acc_le2 : ∀ (bs : List Nat) (s : Nat × Nat) (m : Nat), (∀ b ∈ bs, b < 256) → s.1 + 255 * bs.length + 1 ≤ m → (acc s bs).2 ≤ s.2 + bs.length * m
  | [], s, m, _, _ => by simp [acc]
  | x :: bs, s, m, h, hm => by
    have h2 := h x (List.mem_cons_self ..)
    have h1 := acc_le2 bs (stepA s x) m (fun b hb => h b (List.mem_cons_of_mem _ hb)) (by simp only [stepA, List.length_cons] at *; omega)
    simp only [acc, List.foldl_cons, List.length_cons] at *
    simp only [stepA] at *
    rw [Nat.succ_mul]
    omega

theorem acc_ones : ∀ (bs : List Nat) (s : Nat × Nat), (acc s bs).1 = s.1 + bs.sum
  | [], s => by simp [acc]
  | x :: bs, s => by
    have h1 := acc_ones bs (stepA s x)
    simp only [acc, List.foldl_cons, List.sum_cons] at *
    rw [h1]
    simp only [stepA]
    omega

/-- Bytes of which one is changed have another sum. -/
theorem sum_set (bs : List Nat) (k x : Nat) (hk : k < bs.length) (hx : x < 256) (hb : ∀ b ∈ bs, b < 256) : sumA (bs.set k x) = sumA bs ↔ bs[k]? = some x := by
  have e := List.getElem?_eq_getElem hk
  constructor
  · intro h
    have hy := hb _ (List.getElem_mem hk)
    have hs : (bs.set k x).sum + bs[k] = bs.sum + x := by
      have e1 : bs = bs.take k ++ bs[k] :: bs.drop (k + 1) := by rw [← List.drop_eq_getElem_cons hk, List.take_append_drop]
      have e2 : bs.set k x = bs.take k ++ x :: bs.drop (k + 1) := by rw [List.set_eq_take_append_cons_drop, if_pos hk]
      have e3 : bs.sum = (bs.take k).sum + (bs[k] + (bs.drop (k + 1)).sum) := by
        have e4 := congrArg List.sum e1
        rw [List.sum_append, List.sum_cons] at e4
        exact e4
      rw [e2, e3, List.sum_append, List.sum_cons]
      omega
    have h1 := Nat.mod_lt (lowA bs + 1) (show 0 < 65521 by decide)
    have h2 := Nat.mod_lt (lowA (bs.set k x) + 1) (show 0 < 65521 by decide)
    have h3 : (lowA (bs.set k x) + 1) % 65521 = (lowA bs + 1) % 65521 := by
      unfold sumA at h
      omega
    unfold lowA at h3
    rw [acc_ones, acc_ones] at h3
    rw [e]
    simp only [Option.some.injEq]
    simp only [Nat.zero_add] at h3
    omega
  · intro h
    rw [e] at h
    injection h with h
    rw [← h, List.set_getElem_self]
end Go.Proofs.Ytgfdinclhakjhaa
