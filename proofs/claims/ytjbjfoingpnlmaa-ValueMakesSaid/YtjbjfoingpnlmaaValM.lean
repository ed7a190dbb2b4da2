/- Values as trees: plain mathematics (depth, how many there are, order). -/
import Derived.Test.YtjbjfoingpnlmaaTree
namespace Go.Proofs.Ytjbjfoingpnlmaa
set_option linter.unusedVariables false

mutual
/-- How many values there are, in one another. -/
def sizT : VT → Nat
  | .mk _ _ _ l => sizL l + 1
def sizL : List VT → Nat
  | [] => 0
  | t :: l => sizT t + sizL l
end
mutual
def depthT : VT → Nat
  | .mk k _ _ l => if k = 6 ∨ k = 7 then depthL 1 l else 1
def depthL : Nat → List VT → Nat
  | a, [] => a
  | a, t :: l => depthL (if a < depthT t + 1 then depthT t + 1 else a) l
end
mutual
/-- How many are left of so many; below 0: there are more. -/
def fewT : VT → Int → Int
  | .mk _ _ _ l, left => fewL l (left - 1)
def fewL : List VT → Int → Int
  | [], left => left
  | t :: l, left => if 0 ≤ left then fewL l (fewT t left) else left
end
theorem sizT_mk (k n : Int) (s : ByteArray) (l : List VT) : sizT (.mk k n s l) = sizL l + 1 := by rw [sizT]
theorem sizL_cons (t : VT) (l : List VT) : sizL (t :: l) = sizT t + sizL l := by rw [sizL]
theorem sizL_drop : ∀ (l : List VT) (j : Nat), sizL (l.drop j) ≤ sizL l := by
  intro l
  induction l with
  | nil => intro j; simp
  | cons t l ih =>
    intro j
    cases j with
    | zero => exact Nat.le_refl _
    | succ j => rw [List.drop_succ_cons, sizL_cons]; have := ih j; omega
theorem sizL_at {l : List VT} {j : Nat} {t : VT} (h : l[j]? = some t) : sizT t ≤ sizL l := by
  induction l generalizing j with
  | nil => simp at h
  | cons x l ih =>
    rw [sizL_cons]
    cases j with
    | zero => simp at h; subst h; omega
    | succ j => have := ih (by simpa using h); omega
theorem fewL_cons (t : VT) (l : List VT) (left : Int) : fewL (t :: l) left = if 0 ≤ left then fewL l (fewT t left) else left := by rw [fewL]
theorem fewL_neg (l : List VT) {left : Int} (h : ¬ 0 ≤ left) : fewL l left = left := by
  cases l with
  | nil => rw [fewL]
  | cons t l => rw [fewL_cons, if_neg h]
theorem depthL_cons (a : Nat) (t : VT) (l : List VT) : depthL a (t :: l) = depthL (if a < depthT t + 1 then depthT t + 1 else a) l := by rw [depthL]
mutual
theorem fewT_le : ∀ (t : VT) (left : Int), fewT t left ≤ left - 1
  | .mk _ _ _ l, left => by rw [fewT]; exact fewL_le l (left - 1)
theorem fewL_le : ∀ (l : List VT) (left : Int), fewL l left ≤ left
  | [], left => by rw [fewL]; exact Int.le_refl _
  | t :: l, left => by
    rw [fewL_cons]
    split
    · have := fewT_le t left
      have := fewL_le l (fewT t left)
      omega
    · exact Int.le_refl _
end
mutual
theorem fewT_ge : ∀ (t : VT) (left : Int), -1 ≤ left → -2 ≤ fewT t left ∧ (0 ≤ left → -1 ≤ fewT t left)
  | .mk _ _ _ l, left => fun h => by
    rw [fewT]
    by_cases h0 : 0 ≤ left
    · have := fewL_ge l (left - 1) (by omega); omega
    · rw [fewL_neg l (by omega)]; omega
theorem fewL_ge : ∀ (l : List VT) (left : Int), -1 ≤ left → -1 ≤ fewL l left
  | [], left => fun h => by rw [fewL]; exact h
  | t :: l, left => fun h => by
    rw [fewL_cons]
    split
    · next h0 => exact fewL_ge l (fewT t left) ((fewT_ge t left h).2 h0)
    · exact h
end
mutual
theorem depthT_le : ∀ (t : VT), 1 ≤ depthT t ∧ depthT t ≤ sizT t
  | .mk k _ _ l => by
    rw [depthT, sizT_mk]
    split
    · exact depthL_le l 1 (Nat.le_refl _)
    · omega
theorem depthL_le : ∀ (l : List VT) (a : Nat), 1 ≤ a → a ≤ depthL a l ∧ depthL a l ≤ sizL l + a
  | [], a => fun h => by rw [depthL]; omega
  | t :: l, a => fun h => by
    have h1 := depthT_le t
    rw [depthL_cons, sizL_cons]
    split
    · have h2 := depthL_le l (depthT t + 1) (by omega); omega
    · have h2 := depthL_le l a h; omega
end
end Go.Proofs.Ytjbjfoingpnlmaa
