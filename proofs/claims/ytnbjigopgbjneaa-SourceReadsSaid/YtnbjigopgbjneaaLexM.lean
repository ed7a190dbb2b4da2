/- Words of a file: plain mathematics, no program. -/
import Derived.Test.YtnbjigopgbjneaaNumM
namespace Go.Proofs.Ytnbjigopgbjneaa
set_option linter.unusedVariables false

def isSp (c : Nat) : Bool := c == 0 || c == 9 || c == 10 || c == 12 || c == 13 || c == 32

def isDl (c : Nat) : Bool := c == 40 || c == 41 || c == 60 || c == 62 || c == 91 || c == 93 || c == 123 || c == 125 || c == 47 || c == 37

def isRg (c : Nat) : Bool := !isSp c && !isDl c

/-- How many bytes are space or in comments (true: in a comment). -/
def skp : Bool → List Nat → Nat
  | _, [] => 0
  | true, c :: l => skp (!(c == 10 || c == 13)) l + 1
  | false, c :: l => if isSp c then skp false l + 1 else if c = 37 then skp true l + 1 else 0

theorem skp_le : ∀ (l : List Nat) (f : Bool), skp f l ≤ l.length := by
  intro l
  induction l with
  | nil => intro f; cases f <;> exact Nat.le_refl _
  | cons c l ih =>
    intro f
    cases f
    · simp only [skp, List.length_cons]
      split
      · have := ih false; omega
      · split
        · have := ih true; omega
        · omega
    · simp only [skp, List.length_cons]
      have := ih (!(c == 10 || c == 13))
      omega

/-- Where it stops ahead of the end, more bytes behind change nothing. -/
theorem skp_more : ∀ (l m : List Nat) (f : Bool), skp f l < l.length → skp f (l ++ m) = skp f l := by
  intro l m
  induction l with
  | nil => intro f h; simp at h
  | cons c l ih =>
    intro f h
    rw [List.cons_append]
    cases f
    · simp only [skp, List.length_cons] at h ⊢
      split
      · rw [ih false (by simp_all)]
      · split
        · rw [ih true (by simp_all)]
        · rfl
    · simp only [skp, List.length_cons] at h ⊢
      rw [ih _ (by omega)]

theorem skp_stop : ∀ (l : List Nat) (f : Bool), skp f l < l.length → ∃ c m, l.drop (skp f l) = c :: m ∧ isSp c = false ∧ c ≠ 37 := by
  intro l
  induction l with
  | nil => intro f h; simp at h
  | cons c l ih =>
    intro f h
    cases f
    · simp only [skp, List.length_cons] at h ⊢
      split
      · next hs => rw [if_pos hs] at h; rw [List.drop_succ_cons]; exact ih false (by omega)
      · next hs =>
        rw [if_neg hs] at h
        split
        · next h37 => rw [if_pos h37] at h; rw [List.drop_succ_cons]; exact ih true (by omega)
        · next h37 => exact ⟨c, l, rfl, by simpa using hs, h37⟩
    · simp only [skp, List.length_cons] at h ⊢
      rw [List.drop_succ_cons]
      exact ih _ (by omega)

/-- How many regular bytes follow one another. -/
def rgs : List Nat → Nat
  | [] => 0
  | c :: l => if isRg c then rgs l + 1 else 0

theorem rgs_le : ∀ l : List Nat, rgs l ≤ l.length := by
  intro l
  induction l with
  | nil => exact Nat.le_refl _
  | cons c l ih =>
    simp only [rgs, List.length_cons]
    split <;> omega

theorem rgs_more : ∀ (l m : List Nat), rgs l < l.length → rgs (l ++ m) = rgs l := by
  intro l m
  induction l with
  | nil => intro h; simp at h
  | cons c l ih =>
    intro h
    rw [List.cons_append]
    simp only [rgs, List.length_cons] at h ⊢
    split
    · rw [ih (by simp_all)]
    · rfl

/-- A digit to the base 16. -/
def hexD (c : Nat) : Option Nat := if 48 ≤ c ∧ c ≤ 57 then some (c - 48) else if 97 ≤ c ∧ c ≤ 102 then some (c - 87) else if 65 ≤ c ∧ c ≤ 70 then some (c - 55) else none

theorem hexD_lt {c d : Nat} (h : hexD c = some d) : d < 16 := by
  unfold hexD at h
  split at h
  · cases h; omega
  · split at h
    · cases h; omega
    · split at h
      · cases h; omega
      · cases h

def cutE (last : Bool) : Int := if last then 10 else 6

/-- Digits to the base 8, so many at most: the number, and how many there were. -/
def octs : Nat → Nat → List Nat → Nat × Nat
  | 0, n, _ => (n, 0)
  | _ + 1, n, [] => (n, 0)
  | k + 1, n, c :: l => if 48 ≤ c ∧ c ≤ 55 then ((octs k (8 * n + (c - 48)) l).1, (octs k (8 * n + (c - 48)) l).2 + 1) else (n, 0)

theorem octs_le : ∀ (k n : Nat) (l : List Nat), (octs k n l).2 ≤ k ∧ (octs k n l).2 ≤ l.length := by
  intro k
  induction k with
  | zero => intro n l; exact ⟨Nat.le_refl _, Nat.zero_le _⟩
  | succ k ih =>
    intro n l
    cases l with
    | nil => exact ⟨Nat.zero_le _, Nat.le_refl _⟩
    | cons c l =>
      rw [octs]
      split
      · have := ih (8 * n + (c - 48)) l
        simp only [List.length_cons]
        omega
      · exact ⟨Nat.zero_le _, Nat.zero_le _⟩

theorem octs_more : ∀ (k n : Nat) (l m : List Nat), ((octs k n l).2 = k ∨ (octs k n l).2 < l.length) → octs k n (l ++ m) = octs k n l := by
  intro k
  induction k with
  | zero => intro n l m _; rfl
  | succ k ih =>
    intro n l m h
    cases l with
    | nil => rcases h with h | h <;> simp [octs] at h
    | cons c l =>
      rw [List.cons_append]
      simp only [octs, List.length_cons] at h ⊢
      split
      · next hd =>
        rw [if_pos hd] at h
        rw [ih _ l m (by simp only at h; omega)]
      · rfl

/-- What stands behind a backslash: an error, the byte, and how many bytes there were. -/
def escO (last : Bool) : List Nat → Int × Option Nat × Nat
  | [] => (cutE last, none, 0)
  | c :: l =>
    if c = 110 then (0, some 10, 1)
    else if c = 114 then (0, some 13, 1)
    else if c = 116 then (0, some 9, 1)
    else if c = 98 then (0, some 8, 1)
    else if c = 102 then (0, some 12, 1)
    else if c = 10 then (0, none, 1)
    else if c = 13 then
      if l = [] ∧ last = false then (6, none, 0) else if l.head? = some 10 then (0, none, 2) else (0, none, 1)
    else if c < 48 ∨ 55 < c then (0, some c, 1)
    else if (octs 3 0 (c :: l)).2 < 3 ∧ (c :: l).length ≤ (octs 3 0 (c :: l)).2 ∧ last = false then (6, none, 0)
    else (0, some ((octs 3 0 (c :: l)).1 % 256), (octs 3 0 (c :: l)).2)

theorem escO_cons (last : Bool) (c : Nat) (l : List Nat) : escO last (c :: l) =
    if c = 110 then (0, some 10, 1)
    else if c = 114 then (0, some 13, 1)
    else if c = 116 then (0, some 9, 1)
    else if c = 98 then (0, some 8, 1)
    else if c = 102 then (0, some 12, 1)
    else if c = 10 then (0, none, 1)
    else if c = 13 then
      if l = [] ∧ last = false then (6, none, 0) else if l.head? = some 10 then (0, none, 2) else (0, none, 1)
    else if c < 48 ∨ 55 < c then (0, some c, 1)
    else if (octs 3 0 (c :: l)).2 < 3 ∧ (c :: l).length ≤ (octs 3 0 (c :: l)).2 ∧ last = false then (6, none, 0)
    else (0, some ((octs 3 0 (c :: l)).1 % 256), (octs 3 0 (c :: l)).2) := rfl

theorem escO_le (last : Bool) (l : List Nat) : (escO last l).2.2 ≤ l.length := by
  cases l with
  | nil => exact Nat.le_refl _
  | cons c l =>
    unfold escO
    have ho := octs_le 3 0 (c :: l)
    simp only [List.length_cons] at ho ⊢
    repeat' split
    all_goals first
      | (simp only []; omega)
      | (next h => cases l with
          | nil => simp at h
          | cons d l => simp only [List.length_cons]; omega)

theorem escO_lt {last : Bool} {l : List Nat} (hb : ∀ x ∈ l, x < 256) {x : Nat} (h : (escO last l).2.1 = some x) : x < 256 := by
  cases l with
  | nil => cases h
  | cons c l =>
    have hc := hb c (List.mem_cons_self ..)
    rw [escO_cons] at h
    repeat' split at h
    all_goals first
      | (have h' := Option.some.inj h; rw [← h']; first | exact Nat.mod_lt _ (by decide) | exact hc | decide)
      | cases h

theorem escO_more (l m : List Nat) (h : (escO false l).1 ≠ 6) (last : Bool) : escO last (l ++ m) = escO false l := by
  cases l with
  | nil => exact absurd rfl h
  | cons c l =>
    rw [List.cons_append, escO_cons, escO_cons]
    rw [escO_cons] at h
    by_cases h1 : c = 110
    · simp only [if_pos h1]
    rw [if_neg h1] at h; rw [if_neg h1, if_neg h1]
    by_cases h2 : c = 114
    · simp only [if_pos h2]
    rw [if_neg h2] at h; rw [if_neg h2, if_neg h2]
    by_cases h3 : c = 116
    · simp only [if_pos h3]
    rw [if_neg h3] at h; rw [if_neg h3, if_neg h3]
    by_cases h4 : c = 98
    · simp only [if_pos h4]
    rw [if_neg h4] at h; rw [if_neg h4, if_neg h4]
    by_cases h5 : c = 102
    · simp only [if_pos h5]
    rw [if_neg h5] at h; rw [if_neg h5, if_neg h5]
    by_cases h6 : c = 10
    · simp only [if_pos h6]
    rw [if_neg h6] at h; rw [if_neg h6, if_neg h6]
    by_cases h7 : c = 13
    · simp only [if_pos h7] at h ⊢
      cases l with
      | nil => simp at h
      | cons d l => simp
    rw [if_neg h7] at h; rw [if_neg h7, if_neg h7]
    by_cases h8 : c < 48 ∨ 55 < c
    · simp only [if_pos h8]
    rw [if_neg h8] at h; rw [if_neg h8, if_neg h8]
    by_cases h9 : (octs 3 0 (c :: l)).2 < 3 ∧ (c :: l).length ≤ (octs 3 0 (c :: l)).2 ∧ false = false
    · rw [if_pos h9] at h; exact absurd rfl h
    · rw [if_neg h9]
      have ho := octs_le 3 0 (c :: l)
      have e : octs 3 0 (c :: (l ++ m)) = octs 3 0 (c :: l) := octs_more 3 0 (c :: l) m (by
        simp only [and_true] at h9
        omega)
      rw [e, if_neg]
      rintro ⟨g1, g2, _⟩
      refine h9 ⟨g1, ?_, rfl⟩
      have : (c :: l).length ≤ (c :: (l ++ m)).length := by simp
      omega

/-- A text in brackets, from behind the first one on: an error, its bytes, and where it ends. -/
def txtO (last : Bool) (deep : Nat) (out : List Nat) (p : Nat) (l : List Nat) : Int × List Nat × Nat :=
  match l with
  | [] => (cutE last, [], 0)
  | c :: l =>
    if c = 92 then
      if (escO last l).1 ≠ 0 then ((escO last l).1, [], 0)
      else txtO last deep (out ++ (escO last l).2.1.toList) (p + 1 + (escO last l).2.2) (l.drop (escO last l).2.2)
    else if c = 13 then
      if l = [] ∧ last = false then (6, [], 0)
      else if l.head? = some 10 then txtO last deep (out ++ [10]) (p + 2) (l.drop 1)
      else txtO last deep (out ++ [10]) (p + 1) l
    else if c = 40 then txtO last (deep + 1) (out ++ [40]) (p + 1) l
    else if c = 41 then
      if deep = 1 then (0, out, p + 1) else txtO last (deep - 1) (out ++ [41]) (p + 1) l
    else txtO last deep (out ++ [c]) (p + 1) l
termination_by l.length
decreasing_by all_goals simp only [List.length_cons, List.length_drop]; omega

theorem txtO_nil (last : Bool) (deep : Nat) (out : List Nat) (p : Nat) : txtO last deep out p [] = (cutE last, [], 0) := by rw [txtO]

theorem txtO_cons (last : Bool) (deep : Nat) (out : List Nat) (p c : Nat) (l : List Nat) : txtO last deep out p (c :: l) =
    if c = 92 then
      if (escO last l).1 ≠ 0 then ((escO last l).1, [], 0)
      else txtO last deep (out ++ (escO last l).2.1.toList) (p + 1 + (escO last l).2.2) (l.drop (escO last l).2.2)
    else if c = 13 then
      if l = [] ∧ last = false then (6, [], 0)
      else if l.head? = some 10 then txtO last deep (out ++ [10]) (p + 2) (l.drop 1)
      else txtO last deep (out ++ [10]) (p + 1) l
    else if c = 40 then txtO last (deep + 1) (out ++ [40]) (p + 1) l
    else if c = 41 then
      if deep = 1 then (0, out, p + 1) else txtO last (deep - 1) (out ++ [41]) (p + 1) l
    else txtO last deep (out ++ [c]) (p + 1) l := by rw [txtO]

theorem txtO_more (m : List Nat) (last : Bool) : ∀ (n : Nat) (l : List Nat) (deep : Nat) (out : List Nat) (p : Nat), l.length ≤ n → (txtO false deep out p l).1 ≠ 6 → txtO last deep out p (l ++ m) = txtO false deep out p l := by
  intro n
  induction n with
  | zero =>
    intro l deep out p hn h
    obtain rfl : l = [] := List.length_eq_zero_iff.1 (by omega)
    rw [txtO_nil] at h
    exact absurd rfl h
  | succ n ih =>
    intro l deep out p hn h
    cases l with
    | nil => rw [txtO_nil] at h; exact absurd rfl h
    | cons c l =>
      have hl : l.length ≤ n := by simp only [List.length_cons] at hn; omega
      rw [List.cons_append, txtO_cons, txtO_cons]
      rw [txtO_cons] at h
      by_cases h1 : c = 92
      · rw [if_pos h1] at h; rw [if_pos h1, if_pos h1]
        by_cases h2 : (escO false l).1 = 6
        · rw [if_pos (by rw [h2]; decide)] at h
          exact absurd h2 h
        · rw [escO_more l m h2 last]
          by_cases h3 : (escO false l).1 ≠ 0
          · rw [if_pos h3, if_pos h3]
          · rw [if_neg h3] at h; rw [if_neg h3, if_neg h3]
            have hle := escO_le false l
            rw [List.drop_append_of_le_length hle]
            exact ih _ _ _ _ (by rw [List.length_drop]; omega) h
      rw [if_neg h1] at h; rw [if_neg h1, if_neg h1]
      by_cases h4 : c = 13
      · rw [if_pos h4] at h; rw [if_pos h4, if_pos h4]
        cases l with
        | nil => rw [if_pos ⟨rfl, rfl⟩] at h; exact absurd rfl h
        | cons d l =>
          have n1 : ¬ (d :: l = [] ∧ false = false) := by simp
          have n2 : ¬ (d :: l ++ m = [] ∧ last = false) := by simp
          rw [if_neg n1] at h; rw [if_neg n2, if_neg n1]
          by_cases h5 : (d :: l).head? = some 10
          · rw [if_pos h5] at h; rw [if_pos (show (d :: l ++ m).head? = some 10 from h5), if_pos h5]
            exact ih l _ _ _ (by simp only [List.length_cons] at hl; omega) h
          · rw [if_neg h5] at h; rw [if_neg (show ¬ (d :: l ++ m).head? = some 10 from h5), if_neg h5]
            exact ih (d :: l) _ _ _ hl h
      rw [if_neg h4] at h; rw [if_neg h4, if_neg h4]
      by_cases h6 : c = 40
      · rw [if_pos h6] at h; rw [if_pos h6, if_pos h6]
        exact ih l _ _ _ hl h
      rw [if_neg h6] at h; rw [if_neg h6, if_neg h6]
      by_cases h7 : c = 41
      · rw [if_pos h7] at h; rw [if_pos h7, if_pos h7]
        by_cases h8 : deep = 1
        · rw [if_pos h8, if_pos h8]
        · rw [if_neg h8] at h; rw [if_neg h8, if_neg h8]
          exact ih l _ _ _ hl h
      rw [if_neg h7] at h; rw [if_neg h7, if_neg h7]
      exact ih l _ _ _ hl h

/-- Where a text ends, it ends behind where it began, among the bytes. -/
theorem txtO_to (last : Bool) : ∀ (n : Nat) (l : List Nat) (deep : Nat) (out : List Nat) (p : Nat), l.length ≤ n → (txtO last deep out p l).1 = 0 → p < (txtO last deep out p l).2.2 ∧ (txtO last deep out p l).2.2 ≤ p + l.length := by
  intro n
  induction n with
  | zero =>
    intro l deep out p hn h
    obtain rfl : l = [] := List.length_eq_zero_iff.1 (by omega)
    rw [txtO_nil] at h
    cases last <;> cases h
  | succ n ih =>
    intro l deep out p hn h
    cases l with
    | nil => rw [txtO_nil] at h; cases last <;> cases h
    | cons c l =>
      have hl : l.length ≤ n := by simp only [List.length_cons] at hn; omega
      simp only [List.length_cons]
      rw [txtO_cons] at h ⊢
      by_cases h1 : c = 92
      · rw [if_pos h1] at h ⊢
        by_cases h3 : (escO last l).1 ≠ 0
        · rw [if_pos h3] at h; exact absurd h h3
        · rw [if_neg h3] at h ⊢
          have hle := escO_le last l
          have := ih (l.drop (escO last l).2.2) _ _ _ (by rw [List.length_drop]; omega) h
          rw [List.length_drop] at this
          omega
      rw [if_neg h1] at h ⊢
      by_cases h4 : c = 13
      · rw [if_pos h4] at h ⊢
        split at h
        · cases h
        · next hx =>
          rw [if_neg hx]
          split at h
          · next h5 =>
            rw [if_pos h5]
            have := ih (l.drop 1) _ _ _ (by rw [List.length_drop]; omega) h
            rw [List.length_drop] at this
            cases l with
            | nil => simp at h5
            | cons d l => simp only [List.length_cons] at this ⊢; omega
          · next h5 =>
            rw [if_neg h5]
            have := ih l _ _ _ hl h
            omega
      rw [if_neg h4] at h ⊢
      by_cases h6 : c = 40
      · rw [if_pos h6] at h ⊢
        have := ih l _ _ _ hl h
        omega
      rw [if_neg h6] at h ⊢
      by_cases h7 : c = 41
      · rw [if_pos h7] at h ⊢
        by_cases h8 : deep = 1
        · rw [if_pos h8]; simp only []; omega
        · rw [if_neg h8] at h ⊢
          have := ih l _ _ _ hl h
          omega
      rw [if_neg h7] at h ⊢
      have := ih l _ _ _ hl h
      omega

/-- Digits to the base 16, two a byte. -/
def pairs : List Nat → List Nat
  | [] => []
  | [a] => [16 * a]
  | a :: b :: l => (16 * a + b) :: pairs l

/-- A text in hex, from behind the first < on. -/
def hexO (last : Bool) (ds : List Nat) (p : Nat) : List Nat → Int × List Nat × Nat
  | [] => (cutE last, [], 0)
  | c :: l =>
    if c = 62 then (0, pairs ds, p + 1)
    else if isSp c then hexO last ds (p + 1) l
    else match hexD c with
      | none => (11, [], 0)
      | some d => hexO last (ds ++ [d]) (p + 1) l

theorem hexO_more (m : List Nat) (last : Bool) : ∀ (l ds : List Nat) (p : Nat), (hexO false ds p l).1 ≠ 6 → hexO last ds p (l ++ m) = hexO false ds p l := by
  intro l
  induction l with
  | nil => intro ds p h; exact absurd rfl h
  | cons c l ih =>
    intro ds p h
    rw [List.cons_append]
    simp only [hexO] at h ⊢
    by_cases h1 : c = 62
    · rw [if_pos h1, if_pos h1]
    rw [if_neg h1] at h; rw [if_neg h1, if_neg h1]
    by_cases h2 : isSp c = true
    · rw [if_pos h2] at h; rw [if_pos h2, if_pos h2]; exact ih _ _ h
    rw [if_neg h2] at h; rw [if_neg h2, if_neg h2]
    cases h3 : hexD c with
    | none => rfl
    | some d => rw [h3] at h; exact ih _ _ h

theorem hexO_to (last : Bool) : ∀ (l ds : List Nat) (p : Nat), (hexO last ds p l).1 = 0 → p < (hexO last ds p l).2.2 ∧ (hexO last ds p l).2.2 ≤ p + l.length := by
  intro l
  induction l with
  | nil => intro ds p h; cases last <;> cases h
  | cons c l ih =>
    intro ds p h
    simp only [List.length_cons]
    simp only [hexO] at h ⊢
    by_cases h1 : c = 62
    · rw [if_pos h1]; simp only []; omega
    rw [if_neg h1] at h ⊢
    by_cases h2 : isSp c = true
    · rw [if_pos h2] at h ⊢; have := ih _ _ h; omega
    rw [if_neg h2] at h ⊢
    cases h3 : hexD c with
    | none => rw [h3] at h; cases h
    | some d => rw [h3] at h; simp only [] at h ⊢; have := ih _ _ h; omega

/-- A name's bytes. -/
def nameF : List Nat → Option (List Nat)
  | [] => some []
  | c :: l =>
    if c ≠ 35 then (nameF l).map (c :: ·)
    else match l with
      | x :: y :: m => match hexD x, hexD y with
        | some a, some b => (nameF m).map ((16 * a + b) :: ·)
        | _, _ => none
      | _ => none

def nameO (w : List Nat) : Int × List Nat :=
  match nameF w with
  | none => (17, [])
  | some o => if 0 ∈ o ∨ 127 < o.length then (17, []) else (0, o)

/-- A token: its kind, where it begins, where it ends, the value's kind, number and text, and the word. -/
structure Tkn where
  kind : Nat
  from_ : Nat
  to : Nat
  vk : Nat
  vn : Int
  vs : List Nat
  s : List Nat

def noT (p : Nat) : Tkn := ⟨0, p, p, 0, 0, [], []⟩

def isNm (c : Nat) : Bool := (decide (48 ≤ c) && decide (c ≤ 57)) || c == 43 || c == 45 || c == 46

/-- The token that begins with the byte c at the place p, l being what is behind c. -/
def tokO (last : Bool) (p c : Nat) (l : List Nat) : Int × Tkn :=
  if c = 91 then (0, ⟨2, p, p + 1, 0, 0, [], []⟩)
  else if c = 93 then (0, ⟨3, p, p + 1, 0, 0, [], []⟩)
  else if c = 60 ∧ l.head? = some 60 then (0, ⟨4, p, p + 2, 0, 0, [], []⟩)
  else if c = 62 ∧ l.head? = some 62 then (0, ⟨5, p, p + 2, 0, 0, [], []⟩)
  else if c = 62 ∧ l = [] ∧ last = false then (6, noT p)
  else if c = 60 then
    if (hexO last [] (p + 1) l).1 ≠ 0 then ((hexO last [] (p + 1) l).1, noT p) else (0, ⟨1, p, (hexO last [] (p + 1) l).2.2, 4, 0, (hexO last [] (p + 1) l).2.1, []⟩)
  else if c = 40 then
    if (txtO last 1 [] (p + 1) l).1 ≠ 0 then ((txtO last 1 [] (p + 1) l).1, noT p) else (0, ⟨1, p, (txtO last 1 [] (p + 1) l).2.2, 4, 0, (txtO last 1 [] (p + 1) l).2.1, []⟩)
  else if c = 47 then
    if rgs l = l.length ∧ last = false then (6, noT p)
    else if (nameO (l.take (rgs l))).1 ≠ 0 then ((nameO (l.take (rgs l))).1, noT p) else (0, ⟨1, p, p + 1 + rgs l, 5, 0, (nameO (l.take (rgs l))).2, []⟩)
  else if isDl c then (11, noT p)
  else if rgs l = l.length ∧ last = false then (6, noT p)
  else if isNm c then
    if (numOf ((c :: l).take (rgs l + 1))).1 ≠ 0 then ((numOf ((c :: l).take (rgs l + 1))).1, noT p) else (0, ⟨1, p, p + 1 + rgs l, (numOf ((c :: l).take (rgs l + 1))).2.1, (numOf ((c :: l).take (rgs l + 1))).2.2, [], []⟩)
  else (0, ⟨6, p, p + 1 + rgs l, 0, 0, [], (c :: l).take (rgs l + 1)⟩)

/-- The token that stands from a place of bytes on: an error, and it. -/
def nextO (b : List Nat) (pos : Nat) (last : Bool) : Int × Tkn :=
  match b.drop (pos + skp false (b.drop pos)) with
  | [] => (if last then 0 else 6, noT (pos + skp false (b.drop pos)))
  | c :: l => tokO last (pos + skp false (b.drop pos)) c l

theorem numOf_err (l : List Nat) : (numOf l).1 = 0 ∨ (numOf l).1 = 5 ∨ (numOf l).1 = 11 := by
  unfold numOf
  split
  · exact .inr (.inr rfl)
  · split
    · exact .inr (.inr rfl)
    · split
      · exact .inr (.inl rfl)
      · exact .inl rfl

theorem nameO_err (l : List Nat) : (nameO l).1 = 0 ∨ (nameO l).1 = 17 := by
  unfold nameO
  split
  · exact .inr rfl
  · split
    · exact .inr rfl
    · exact .inl rfl

theorem take_more {l m : List Nat} {n : Nat} (h : n ≤ l.length) : (l ++ m).take n = l.take n := List.take_append_of_le_length h

theorem tokO_60 (last : Bool) (p : Nat) (l : List Nat) (h : l.head? ≠ some 60) : tokO last p 60 l =
    if (hexO last [] (p + 1) l).1 ≠ 0 then ((hexO last [] (p + 1) l).1, noT p) else (0, ⟨1, p, (hexO last [] (p + 1) l).2.2, 4, 0, (hexO last [] (p + 1) l).2.1, []⟩) := by
  unfold tokO
  rw [if_neg (show ¬ 60 = 91 by decide), if_neg (show ¬ 60 = 93 by decide), if_neg (show ¬ (60 = 60 ∧ l.head? = some 60) from fun e => h e.2), if_neg (show ¬ (60 = 62 ∧ l.head? = some 62) from fun e => absurd e.1 (by decide)), if_neg (show ¬ (60 = 62 ∧ l = [] ∧ last = false) from fun e => absurd e.1 (by decide)), if_pos (show 60 = 60 from rfl)]

theorem tokO_62 (last : Bool) (p : Nat) (l : List Nat) (h : l.head? ≠ some 62) (h2 : l ≠ []) : tokO last p 62 l = (11, noT p) := by
  unfold tokO
  rw [if_neg (show ¬ 62 = 91 by decide), if_neg (show ¬ 62 = 93 by decide), if_neg (show ¬ (62 = 60 ∧ l.head? = some 60) from fun e => absurd e.1 (by decide)), if_neg (show ¬ (62 = 62 ∧ l.head? = some 62) from fun e => h e.2), if_neg (show ¬ (62 = 62 ∧ l = [] ∧ last = false) from fun e => h2 e.2.1), if_neg (show ¬ 62 = 60 by decide), if_neg (show ¬ 62 = 40 by decide), if_neg (show ¬ 62 = 47 by decide), if_pos (show isDl 62 = true from rfl)]

theorem tokO_more (p c : Nat) (l m : List Nat) (last : Bool) (h : (tokO false p c l).1 ≠ 6) : tokO last p c (l ++ m) = tokO false p c l := by
  by_cases h60 : c = 60 ∧ l.head? ≠ some 60
  · obtain ⟨rfl, h3⟩ := h60
    rw [tokO_60 false p l h3] at h
    cases l with
    | nil => rw [hexO] at h; rw [if_pos (show cutE false ≠ 0 by decide)] at h; exact absurd rfl h
    | cons d l =>
      rw [tokO_60 false p (d :: l) h3, tokO_60 last p (d :: l ++ m) (show (d :: l ++ m).head? ≠ some 60 from h3)]
      by_cases h9 : (hexO false [] (p + 1) (d :: l)).1 = 6
      · rw [if_pos (by rw [h9]; decide)] at h; exact absurd h9 h
      · rw [hexO_more m last _ _ _ h9]
  by_cases h62 : c = 62 ∧ l.head? ≠ some 62
  · obtain ⟨rfl, h4⟩ := h62
    cases l with
    | nil => exact absurd rfl h
    | cons d l => rw [tokO_62 false p (d :: l) h4 (by simp), tokO_62 last p (d :: l ++ m) (show (d :: l ++ m).head? ≠ some 62 from h4) (by simp)]
  unfold tokO at h ⊢
  by_cases h1 : c = 91
  · simp only [if_pos h1]
  rw [if_neg h1] at h; rw [if_neg h1, if_neg h1]
  by_cases h2 : c = 93
  · simp only [if_pos h2]
  rw [if_neg h2] at h; rw [if_neg h2, if_neg h2]
  by_cases h3 : c = 60 ∧ l.head? = some 60
  · have h3' : c = 60 ∧ (l ++ m).head? = some 60 := ⟨h3.1, by cases l with
      | nil => simp at h3
      | cons d l => simpa using h3.2⟩
    rw [if_pos h3, if_pos h3']
  rw [if_neg h3] at h
  have k60 : ¬ c = 60 := fun e => h60 ⟨e, fun g => h3 ⟨e, g⟩⟩
  have h3n : ¬ (c = 60 ∧ (l ++ m).head? = some 60) := fun e => k60 e.1
  rw [if_neg h3n, if_neg h3]
  by_cases h4 : c = 62 ∧ l.head? = some 62
  · have h4' : c = 62 ∧ (l ++ m).head? = some 62 := ⟨h4.1, by cases l with
      | nil => simp at h4
      | cons d l => simpa using h4.2⟩
    rw [if_pos h4, if_pos h4']
  rw [if_neg h4] at h
  have k62 : ¬ c = 62 := fun e => h62 ⟨e, fun g => h4 ⟨e, g⟩⟩
  have h4n : ¬ (c = 62 ∧ (l ++ m).head? = some 62) := fun e => k62 e.1
  have h4e : ¬ (c = 62 ∧ l = [] ∧ false = false) := fun e => k62 e.1
  have h4f : ¬ (c = 62 ∧ l ++ m = [] ∧ last = false) := fun e => k62 e.1
  rw [if_neg h4e, if_neg k60] at h
  rw [if_neg h4n, if_neg h4, if_neg h4f, if_neg h4e, if_neg k60, if_neg k60]
  by_cases h5 : c = 40
  · rw [if_pos h5] at h; rw [if_pos h5, if_pos h5]
    by_cases h9 : (txtO false 1 [] (p + 1) l).1 = 6
    · rw [if_pos (by rw [h9]; decide)] at h; exact absurd h9 h
    · rw [txtO_more m last _ l _ _ _ (Nat.le_refl _) h9]
  rw [if_neg h5] at h; rw [if_neg h5, if_neg h5]
  have hrl := rgs_le l
  have hneq : rgs l ≠ l.length → ¬ (rgs l = (l ++ m).length ∧ last = false) := fun h7 e => by have := e.1; rw [List.length_append] at this; omega
  by_cases h6 : c = 47
  · rw [if_pos h6] at h; rw [if_pos h6, if_pos h6]
    by_cases h7 : rgs l = l.length
    · rw [if_pos ⟨h7, rfl⟩] at h; exact absurd rfl h
    · have hr := rgs_more l m (by omega)
      rw [hr, if_neg (hneq h7), take_more hrl, if_neg (show ¬ (rgs l = l.length ∧ false = false) from fun e => h7 e.1)]
  rw [if_neg h6] at h; rw [if_neg h6, if_neg h6]
  by_cases h8 : isDl c = true
  · rw [if_pos h8, if_pos h8]
  rw [if_neg h8] at h; rw [if_neg h8, if_neg h8]
  by_cases h7 : rgs l = l.length
  · rw [if_pos ⟨h7, rfl⟩] at h; exact absurd rfl h
  · have hr := rgs_more l m (by omega)
    have ht : (c :: (l ++ m)).take (rgs l + 1) = (c :: l).take (rgs l + 1) := by
      rw [List.take_succ_cons, List.take_succ_cons, take_more hrl]
    rw [hr, if_neg (hneq h7), ht, if_neg (show ¬ (rgs l = l.length ∧ false = false) from fun e => h7 e.1)]

/-- What is told of the first bytes, if it is not that more are needed, is told of all. -/
theorem nextO_more (b m : List Nat) (pos : Nat) (last : Bool) (hp : pos ≤ b.length) (h : (nextO b pos false).1 ≠ 6) : nextO (b ++ m) pos last = nextO b pos false := by
  have hs := skp_le (b.drop pos) false
  rw [List.length_drop] at hs
  have hlt : skp false (b.drop pos) < (b.drop pos).length := by
    rw [List.length_drop]
    rcases Nat.lt_or_eq_of_le hs with h1 | h1
    · exact h1
    · refine absurd ?_ h
      unfold nextO
      rw [h1, List.drop_of_length_le (by omega)]
      rfl
  have hd : (b ++ m).drop pos = b.drop pos ++ m := List.drop_append_of_le_length hp
  have hsk := skp_more (b.drop pos) m false hlt
  rw [List.length_drop] at hlt
  unfold nextO at h ⊢
  rw [hd, hsk, List.drop_append_of_le_length (by omega)]
  cases hc : b.drop (pos + skp false (b.drop pos)) with
  | nil =>
    have := congrArg List.length hc
    rw [List.length_drop, List.length_nil] at this
    omega
  | cons c l =>
    rw [hc] at h
    exact tokO_more _ c l m last h

/-- The two words of the law: more bytes behind, and the end. -/
theorem nextO_stays (b : List Nat) (k pos : Nat) (last : Bool) (hk : k ≤ b.length) (hp : pos ≤ k) (h : (nextO (b.take k) pos false).1 ≠ 6) : nextO b pos last = nextO (b.take k) pos false ∧ nextO (b.take k) pos true = nextO (b.take k) pos false := by
  have hl : pos ≤ (b.take k).length := by rw [List.length_take]; omega
  constructor
  · have := nextO_more (b.take k) (b.drop k) pos last hl h
    rwa [List.take_append_drop] at this
  · have := nextO_more (b.take k) [] pos true hl h
    rwa [List.append_nil] at this

/-- A token that there is lies behind its place, is not empty, and ends among the bytes. -/
theorem tokO_to (last : Bool) (p c : Nat) (l : List Nat) : ((tokO last p c l).1 ≠ 0 ∧ (tokO last p c l).2 = noT p) ∨ ((tokO last p c l).1 = 0 ∧ (tokO last p c l).2.kind ≠ 0 ∧ (tokO last p c l).2.from_ = p ∧ p < (tokO last p c l).2.to ∧ (tokO last p c l).2.to ≤ p + 1 + l.length) := by
  have hrl := rgs_le l
  unfold tokO
  by_cases h1 : c = 91
  · rw [if_pos h1]; exact .inr ⟨rfl, by simp, rfl, by simp only []; omega, by simp only []; omega⟩
  rw [if_neg h1]
  by_cases h2 : c = 93
  · rw [if_pos h2]; exact .inr ⟨rfl, by simp, rfl, by simp only []; omega, by simp only []; omega⟩
  rw [if_neg h2]
  by_cases h3 : c = 60 ∧ l.head? = some 60
  · rw [if_pos h3]
    cases l with
    | nil => simp at h3
    | cons d l => exact .inr ⟨rfl, by simp, rfl, by simp only []; omega, by simp only [List.length_cons]; omega⟩
  rw [if_neg h3]
  by_cases h4 : c = 62 ∧ l.head? = some 62
  · rw [if_pos h4]
    cases l with
    | nil => simp at h4
    | cons d l => exact .inr ⟨rfl, by simp, rfl, by simp only []; omega, by simp only [List.length_cons]; omega⟩
  rw [if_neg h4]
  by_cases h5 : c = 62 ∧ l = [] ∧ last = false
  · rw [if_pos h5]; exact .inl ⟨by simp, rfl⟩
  rw [if_neg h5]
  by_cases h6 : c = 60
  · rw [if_pos h6]
    by_cases h9 : (hexO last [] (p + 1) l).1 ≠ 0
    · rw [if_pos h9]; exact .inl ⟨h9, rfl⟩
    · rw [if_neg h9]
      have := hexO_to last l [] (p + 1) (Decidable.not_not.1 h9)
      exact .inr ⟨rfl, by simp, rfl, by simp only []; omega, by simp only []; omega⟩
  rw [if_neg h6]
  by_cases h7 : c = 40
  · rw [if_pos h7]
    by_cases h9 : (txtO last 1 [] (p + 1) l).1 ≠ 0
    · rw [if_pos h9]; exact .inl ⟨h9, rfl⟩
    · rw [if_neg h9]
      have := txtO_to last _ l 1 [] (p + 1) (Nat.le_refl _) (Decidable.not_not.1 h9)
      exact .inr ⟨rfl, by simp, rfl, by simp only []; omega, by simp only []; omega⟩
  rw [if_neg h7]
  by_cases h8 : c = 47
  · rw [if_pos h8]
    split
    · exact .inl ⟨by simp, rfl⟩
    · split
      · next h9 => exact .inl ⟨h9, rfl⟩
      · exact .inr ⟨rfl, by simp, rfl, by simp only []; omega, by simp only []; omega⟩
  rw [if_neg h8]
  split
  · exact .inl ⟨by simp, rfl⟩
  · split
    · exact .inl ⟨by simp, rfl⟩
    · split
      · split
        · next h9 => exact .inl ⟨h9, rfl⟩
        · exact .inr ⟨rfl, by simp, rfl, by simp only []; omega, by simp only []; omega⟩
      · exact .inr ⟨rfl, by simp, rfl, by simp only []; omega, by simp only []; omega⟩

/-- Where tokens stand. -/
theorem nextO_place (b : List Nat) (pos : Nat) (last : Bool) (hp : pos ≤ b.length) :
    (∃ p, pos ≤ p ∧ p ≤ b.length ∧ (nextO b pos last).2 = noT p ∧ ((nextO b pos last).1 = 0 → last = true ∧ p = b.length)) ∨
    ((nextO b pos last).1 = 0 ∧ (nextO b pos last).2.kind ≠ 0 ∧ pos ≤ (nextO b pos last).2.from_ ∧ (nextO b pos last).2.from_ < (nextO b pos last).2.to ∧ (nextO b pos last).2.to ≤ b.length ∧ nextO b (nextO b pos last).2.from_ last = nextO b pos last) := by
  have hs := skp_le (b.drop pos) false
  rw [List.length_drop] at hs
  cases hc : b.drop (pos + skp false (b.drop pos)) with
  | nil =>
    have hl := congrArg List.length hc
    rw [List.length_drop, List.length_nil] at hl
    have e : nextO b pos last = (if last then 0 else 6, noT (pos + skp false (b.drop pos))) := by unfold nextO; rw [hc]
    rw [e]
    refine .inl ⟨pos + skp false (b.drop pos), by omega, by omega, rfl, fun h => ?_⟩
    cases last
    · cases h
    · exact ⟨rfl, by omega⟩
  | cons c l =>
    have hl := congrArg List.length hc
    rw [List.length_drop, List.length_cons] at hl
    have e : nextO b pos last = tokO last (pos + skp false (b.drop pos)) c l := by unfold nextO; rw [hc]
    rw [e]
    rcases tokO_to last (pos + skp false (b.drop pos)) c l with ⟨h1, h2⟩ | ⟨h1, h2, h3, h4, h5⟩
    · exact .inl ⟨pos + skp false (b.drop pos), by omega, by omega, h2, fun h => absurd h h1⟩
    · refine .inr ⟨h1, h2, by rw [h3]; omega, by rw [h3]; exact h4, by omega, ?_⟩
      rw [h3]
      obtain ⟨c', m, hd, hsp, h37⟩ := skp_stop (b.drop pos) false (by rw [List.length_drop]; omega)
      rw [List.drop_drop, hc] at hd
      cases hd
      have h0 : skp false (b.drop (pos + skp false (b.drop pos))) = 0 := by
        rw [hc]
        simp only [skp]
        rw [if_neg (by rw [hsp]; decide), if_neg h37]
      unfold nextO
      rw [h0, Nat.add_zero, hc]

end Go.Proofs.Ytnbjigopgbjneaa
