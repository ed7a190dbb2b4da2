/- Numbers as texts: plain mathematics, no program. -/
import Derived.WalkKit
namespace Go.Proofs.Ytnbjigopgbjneaa
set_option linter.unusedVariables false

/-- A byte that is a digit. -/
def isD (d : Nat) : Prop := 48 ≤ d ∧ d ≤ 57

instance (d : Nat) : Decidable (isD d) := inferInstanceAs (Decidable (_ ∧ _))

/-- A number's digits, none of 0. -/
def dn (n : Nat) : List Nat := if h : n = 0 then [] else dn (n / 10) ++ [48 + n % 10]
termination_by n
decreasing_by omega

theorem dn_0 : dn 0 = [] := by rw [dn, dif_pos rfl]

theorem dn_s {n : Nat} (h : n ≠ 0) : dn n = dn (n / 10) ++ [48 + n % 10] := by rw [dn, dif_neg h]

/-- What digits tell, behind what was told. -/
def valF (a : Nat) (l : List Nat) : Nat := l.foldl (fun n d => 10 * n + (d - 48)) a

theorem valF_app (a : Nat) (l m : List Nat) : valF a (l ++ m) = valF (valF a l) m := List.foldl_append

theorem valF_dn (n : Nat) : valF 0 (dn n) = n := by
  induction n using Nat.strongRecOn with
  | _ n ih =>
    by_cases h : n = 0
    · subst h; rw [dn_0]; rfl
    · rw [dn_s h, valF_app, ih (n / 10) (by omega)]
      show 10 * (n / 10) + (48 + n % 10 - 48) = n
      omega

theorem valF_zeros (z : Nat) (l : List Nat) : valF 0 (List.replicate z 48 ++ l) = valF 0 l := by
  induction z with
  | zero => rfl
  | succ z ih => rw [List.replicate_succ, List.cons_append]; exact ih

theorem dn_dig (n : Nat) : ∀ d ∈ dn n, isD d := by
  induction n using Nat.strongRecOn with
  | _ n ih =>
    by_cases h : n = 0
    · subst h; rw [dn_0]; intro d hd; cases hd
    · rw [dn_s h]
      intro d hd
      rcases List.mem_append.1 hd with h1 | h1
      · exact ih (n / 10) (by omega) d h1
      · rw [List.mem_singleton] at h1
        subst h1
        unfold isD
        omega

theorem dn_len {n k : Nat} (h : n < 10 ^ k) : (dn n).length ≤ k := by
  induction k generalizing n with
  | zero => simp at h; subst h; rw [dn_0]; exact Nat.le_refl _
  | succ k ih =>
    by_cases h0 : n = 0
    · subst h0; rw [dn_0]; exact Nat.zero_le _
    · rw [dn_s h0, List.length_append, List.length_singleton]
      have := ih (n := n / 10) (by rw [Nat.pow_succ] at h; omega)
      omega

theorem dn_more {n k : Nat} (h : 10 ^ k ≤ n) : k < (dn n).length := by
  induction k generalizing n with
  | zero =>
    have h0 : n ≠ 0 := by simp at h; omega
    rw [dn_s h0, List.length_append, List.length_singleton]
    omega
  | succ k ih =>
    have h1 : 10 ^ k ≤ n / 10 := by rw [Nat.pow_succ] at h; omega
    have h0 : n ≠ 0 := by
      have : 0 < 10 ^ k := Nat.pow_pos (by omega)
      omega
    rw [dn_s h0, List.length_append, List.length_singleton]
    have := ih h1
    omega

/-- A number's digits, so many at least. -/
def txt (n least : Nat) : List Nat := List.replicate (least - (dn n).length) 48 ++ dn n

theorem txt_val (n least : Nat) : valF 0 (txt n least) = n := by rw [txt, valF_zeros, valF_dn]

theorem txt_dig (n least : Nat) : ∀ d ∈ txt n least, isD d := by
  intro d hd
  rcases List.mem_append.1 hd with h | h
  · rw [(List.mem_replicate.1 h).2]; unfold isD; omega
  · exact dn_dig n d h

theorem txt_len (n least : Nat) : (txt n least).length = max least (dn n).length := by
  rw [txt, List.length_append, List.length_replicate]
  omega

/-- One digit less. -/
theorem txt_step (n least : Nat) (h : n ≠ 0 ∨ least ≠ 0) : txt n least = txt (n / 10) (least - 1) ++ [48 + n % 10] := by
  by_cases h0 : n = 0
  · subst h0
    rw [txt, txt, Nat.zero_div, dn_0, List.length_nil, Nat.sub_zero, Nat.sub_zero, List.append_nil, List.append_nil]
    obtain ⟨k, rfl⟩ : ∃ k, least = k + 1 := ⟨least - 1, by omega⟩
    rw [Nat.add_sub_cancel, List.replicate_succ']
  · rw [txt, txt, dn_s h0, List.length_append, List.length_singleton, ← List.append_assoc]
    congr 3
    omega

theorem txt_none : txt 0 0 = [] := by rw [txt, dn_0]; rfl

/-- In a number's text: what was told ahead of the point, the millionths, how many digits there were, how many of them behind the point, if there was one, and whether the number is too great. -/
structure Ns where
  n : Nat
  parts : Nat
  digits : Nat
  fr : Option Nat
  over : Bool

def nsStep (s : Ns) (c : Nat) : Option Ns :=
  if c = 46 ∧ s.fr = none then some { s with fr := some 0 }
  else if isD c then
    match s.fr with
    | none => some { s with n := if s.over then s.n else 10 * s.n + (c - 48), digits := s.digits + 1, over := s.over || decide (2147483647 < if s.over then s.n else 10 * s.n + (c - 48)) }
    | some j => some { s with parts := s.parts + 100000 / 10 ^ min j 6 * (c - 48), digits := s.digits + 1, fr := some (j + 1) }
  else none

def nsAll (s : Ns) : List Nat → Option Ns
  | [] => some s
  | c :: l => match nsStep s c with
    | none => none
    | some t => nsAll t l

theorem nsAll_app (s : Ns) (l m : List Nat) : nsAll s (l ++ m) = (nsAll s l).bind fun t => nsAll t m := by
  induction l generalizing s with
  | nil => rfl
  | cons c l ih =>
    rw [List.cons_append, nsAll, nsAll]
    cases h : nsStep s c with
    | none => rfl
    | some t => exact ih t

def ns0 : Ns := ⟨0, 0, 0, none, false⟩

/-- A text's sign, and what is behind it. -/
def signed : List Nat → Bool × List Nat
  | [] => (false, [])
  | c :: l => if c = 43 then (false, l) else if c = 45 then (true, l) else (false, c :: l)

/-- What a text tells: an error, or the kind and the number. -/
def numOf (l : List Nat) : Int × Nat × Int :=
  match nsAll ns0 (signed l).2 with
  | none => (11, 0, 0)
  | some s =>
    if s.digits = 0 then (11, 0, 0)
    else if s.over = true ∨ (s.fr ≠ none ∧ s.n = 2147483647 ∧ 0 < s.parts) then (5, 0, 0)
    else
      let x : Int := if s.fr = none then (s.n : Int) else ((1000000 * s.n + s.parts : Nat) : Int)
      (0, if s.fr = none then 2 else 3, if (signed l).1 then 0 - x else x)

/-- Digits ahead of the point. -/
theorem nsAll_int : ∀ (l : List Nat) (s : Ns), (∀ d ∈ l, isD d) → s.fr = none → s.over = false → valF s.n l ≤ 2147483647 → nsAll s l = some { s with n := valF s.n l, digits := s.digits + l.length } := by
  intro l
  induction l with
  | nil => intro s _ _ _ _; rfl
  | cons c l ih =>
    intro s hd hf ho hv
    have hc := hd c (List.mem_cons_self ..)
    have hle : ∀ (l : List Nat) (a : Nat), a ≤ valF a l := by
      intro l
      induction l with
      | nil => intro a; exact Nat.le_refl _
      | cons x l ih2 =>
        intro a
        have := ih2 (10 * a + (x - 48))
        show a ≤ valF (10 * a + (x - 48)) l
        omega
    have h1 : 10 * s.n + (c - 48) ≤ 2147483647 := Nat.le_trans (hle l _) hv
    have hst : nsStep s c = some { s with n := 10 * s.n + (c - 48), digits := s.digits + 1 } := by
      unfold nsStep
      have : ¬ (c = 46 ∧ s.fr = none) := by unfold isD at hc; omega
      rw [if_neg this, if_pos hc, hf]
      simp only [ho, Bool.false_eq_true, if_false, Bool.false_or]
      have hd2 : decide (2147483647 < 10 * s.n + (c - 48)) = false := by simp; omega
      rw [hd2]
    rw [nsAll, hst]
    simp only
    rw [ih { s with n := 10 * s.n + (c - 48), digits := s.digits + 1 } (fun d hd2 => hd d (List.mem_cons_of_mem _ hd2)) hf ho hv]
    simp only [List.length_cons]
    congr 2
    omega

/-- Millionths of digits, from the place j on. -/
def milF (j : Nat) : List Nat → Nat
  | [] => 0
  | c :: l => 100000 / 10 ^ min j 6 * (c - 48) + milF (j + 1) l

theorem nsAll_fr : ∀ (l : List Nat) (s : Ns) (j : Nat), (∀ d ∈ l, isD d) → s.fr = some j → nsAll s l = some { s with parts := s.parts + milF j l, digits := s.digits + l.length, fr := some (j + l.length) } := by
  intro l
  induction l with
  | nil => intro s j _ hf; simp [nsAll, milF, ← hf]
  | cons c l ih =>
    intro s j hd hf
    have hc := hd c (List.mem_cons_self ..)
    have hst : nsStep s c = some { s with parts := s.parts + 100000 / 10 ^ min j 6 * (c - 48), digits := s.digits + 1, fr := some (j + 1) } := by
      unfold nsStep
      have : ¬ (c = 46 ∧ s.fr = none) := by rw [hf]; simp
      rw [if_neg this, if_pos hc, hf]
    rw [nsAll, hst]
    simp only
    rw [ih { s with parts := s.parts + 100000 / 10 ^ min j 6 * (c - 48), digits := s.digits + 1, fr := some (j + 1) } (j + 1) (fun d hd2 => hd d (List.mem_cons_of_mem _ hd2)) rfl]
    simp only [List.length_cons, milF]
    congr 2
    · omega
    · omega
    · congr 1; omega

/-- Zeros at the end are left out, so many at most. -/
def trimZ : Nat → List Nat → List Nat
  | 0, l => l
  | k + 1, l => if l.getLast? = some 48 then trimZ k l.dropLast else l

def signL (x : Int) : List Nat := if x < 0 then [45] else []

/-- The texts of a whole number, and of millionths. -/
def intTxt (x : Int) : List Nat := signL x ++ txt x.natAbs 1

def realTxt (x : Int) : List Nat := signL x ++ (txt (x.natAbs / 1000000) 1 ++ 46 :: trimZ 5 (txt (x.natAbs % 1000000) 6))

theorem valF_pow (l : List Nat) : ∀ a, valF a l = a * 10 ^ l.length + valF 0 l := by
  induction l with
  | nil => intro a; simp [valF]
  | cons c l ih =>
    intro a
    show valF (10 * a + (c - 48)) l = _ + valF (10 * 0 + (c - 48)) l
    rw [ih (10 * a + (c - 48)), ih (10 * 0 + (c - 48)), List.length_cons, Nat.pow_succ, Nat.mul_zero, Nat.zero_add, Nat.add_mul]
    have e : 10 * a * 10 ^ l.length = a * (10 ^ l.length * 10) := by rw [Nat.mul_comm 10 a, Nat.mul_assoc, Nat.mul_comm 10 (10 ^ l.length)]
    omega

theorem mil_by : ∀ j, j ≤ 5 → 100000 / 10 ^ min j 6 = 10 ^ (5 - j) := by decide

theorem milF_val : ∀ (l : List Nat) (j : Nat), j + l.length ≤ 6 → milF j l = valF 0 l * 10 ^ (6 - j - l.length) := by
  intro l
  induction l with
  | nil => intro j _; simp [milF, valF]
  | cons c l ih =>
    intro j h
    rw [List.length_cons] at h
    have e : valF 0 (c :: l) = (c - 48) * 10 ^ l.length + valF 0 l := by
      show valF (10 * 0 + (c - 48)) l = _
      rw [valF_pow, Nat.mul_zero, Nat.zero_add]
    rw [milF, ih (j + 1) (by omega), mil_by j (by omega), e, Nat.add_mul, Nat.mul_assoc, ← Nat.pow_add, List.length_cons, Nat.mul_comm]
    rw [show l.length + (6 - j - (l.length + 1)) = 5 - j from by omega, show 6 - (j + 1) - l.length = 6 - j - (l.length + 1) from by omega]

theorem milF_snoc0 : ∀ (l : List Nat) (j : Nat), milF j (l ++ [48]) = milF j l := by
  intro l
  induction l with
  | nil => intro j; simp [milF]
  | cons c l ih => intro j; rw [List.cons_append, milF, milF, ih]

theorem last_split {l : List Nat} (h : l.getLast? = some 48) : l = l.dropLast ++ [48] := by
  rcases List.eq_nil_or_concat l with rfl | ⟨m, x, rfl⟩
  · cases h
  · simp at h
    subst h
    simp

theorem trimZ_mil : ∀ (k : Nat) (l : List Nat), milF 0 (trimZ k l) = milF 0 l := by
  intro k
  induction k with
  | zero => intro l; rfl
  | succ k ih =>
    intro l
    rw [trimZ]
    split
    · rename_i h
      rw [ih]
      have h2 := milF_snoc0 l.dropLast 0
      rw [← last_split h] at h2
      exact h2.symm
    · rfl

theorem trimZ_dig : ∀ (k : Nat) (l : List Nat), (∀ d ∈ l, isD d) → ∀ d ∈ trimZ k l, isD d := by
  intro k
  induction k with
  | zero => intro l h; exact h
  | succ k ih =>
    intro l h
    rw [trimZ]
    split
    · exact ih _ (fun d hd => h d (List.dropLast_subset _ hd))
    · exact h

theorem txt_mil {p : Nat} (h : p < 1000000) : milF 0 (txt p 6) = p := by
  have h1 := dn_len (n := p) (k := 6) (by omega)
  have hl : (txt p 6).length = 6 := by rw [txt_len]; omega
  rw [milF_val _ 0 (by omega), txt_val, hl]
  simp

theorem txt_cons (n : Nat) : ∃ c l, txt n 1 = c :: l ∧ isD c := by
  have h := txt_len n 1
  rcases hx : txt n 1 with _ | ⟨c, l⟩
  · rw [hx] at h; simp at h; omega
  · exact ⟨c, l, rfl, txt_dig n 1 c (by rw [hx]; exact List.mem_cons_self ..)⟩

theorem signed_neg (l : List Nat) : signed (45 :: l) = (true, l) := rfl

theorem signed_dig {c : Nat} (l : List Nat) (h : isD c) : signed (c :: l) = (false, c :: l) := by
  unfold isD at h
  rw [signed, if_neg (by omega), if_neg (by omega)]

theorem signed_txt (x : Int) (n : Nat) (m : List Nat) : signed (signL x ++ (txt n 1 ++ m)) = (decide (x < 0), txt n 1 ++ m) := by
  unfold signL
  split
  · rename_i h
    rw [List.singleton_append, signed_neg]
    simp [h]
  · rename_i h
    obtain ⟨c, l, e, hc⟩ := txt_cons n
    rw [List.nil_append, e, List.cons_append, signed_dig _ hc]
    simp [h]

/-- A number comes back from its text. -/
theorem int_back (x : Int) (h : x.natAbs ≤ 2147483647) : numOf (intTxt x) = (0, 2, x) := by
  have hs := signed_txt x x.natAbs []
  rw [List.append_nil] at hs
  unfold numOf intTxt
  rw [hs]
  simp only
  rw [nsAll_int _ ns0 (txt_dig _ _) rfl rfl (by show valF 0 _ ≤ _; rw [txt_val]; exact h)]
  have hl := txt_len x.natAbs 1
  have hv : valF ns0.n (txt x.natAbs 1) = x.natAbs := txt_val _ _
  simp only [hv]
  rw [if_neg (by show ¬ (0 + _ = 0); omega), if_neg (by simp [ns0])]
  simp only [ns0, if_true]
  congr 2
  by_cases h0 : x < 0
  · simp only [h0, decide_true, if_true]; omega
  · simp only [h0, decide_false, Bool.false_eq_true, if_false]; omega

theorem real_back (x : Int) (h : x.natAbs ≤ 2147483647 * 1000000) : numOf (realTxt x) = (0, 3, x) := by
  have hs := signed_txt x (x.natAbs / 1000000) (46 :: trimZ 5 (txt (x.natAbs % 1000000) 6))
  unfold numOf realTxt
  rw [hs]
  simp only
  have hq : x.natAbs / 1000000 ≤ 2147483647 := by omega
  have hv : valF ns0.n (txt (x.natAbs / 1000000) 1) = x.natAbs / 1000000 := txt_val _ _
  rw [nsAll_app, nsAll_int _ ns0 (txt_dig _ _) rfl rfl (by rw [hv]; exact hq)]
  simp only [hv, Option.bind_some]
  have hp : nsStep { ns0 with n := x.natAbs / 1000000, digits := ns0.digits + (txt (x.natAbs / 1000000) 1).length } 46 = some { ns0 with n := x.natAbs / 1000000, digits := ns0.digits + (txt (x.natAbs / 1000000) 1).length, fr := some 0 } := by
    unfold nsStep
    rw [if_pos ⟨rfl, rfl⟩]
  rw [nsAll, hp]
  simp only
  rw [nsAll_fr _ _ 0 (trimZ_dig _ _ (txt_dig _ _)) rfl]
  have hm : milF 0 (trimZ 5 (txt (x.natAbs % 1000000) 6)) = x.natAbs % 1000000 := by rw [trimZ_mil, txt_mil (by omega)]
  have hl := txt_len (x.natAbs / 1000000) 1
  simp only [hm]
  rw [if_neg (by show ¬ (0 + _ + _ = 0); omega), if_neg (by
    simp only [ns0, Bool.false_eq_true, false_or, ne_eq, reduceCtorEq, not_false_eq_true, true_and, Nat.zero_add]
    omega)]
  simp only [ns0, reduceCtorEq, if_false, Nat.zero_add]
  congr 2
  by_cases h0 : x < 0
  · simp only [h0, decide_true, if_true]; omega
  · simp only [h0, decide_false, Bool.false_eq_true, if_false]; omega

/-- What holds while a text is read. -/
structure NsIn (s : Ns) : Prop where
  n : s.over = false → s.n ≤ 2147483647
  none_ : s.fr = none → s.parts = 0
  some_ : ∀ j, s.fr = some j → s.parts + 10 ^ (6 - min j 6) ≤ 1000000

theorem mil_big : ∀ j, j ≤ 5 → 100000 / 10 ^ min j 6 * 9 + 10 ^ (6 - min (j + 1) 6) ≤ 10 ^ (6 - min j 6) := by decide

theorem NsIn.step {s t : Ns} {c : Nat} (h : NsIn s) (e : nsStep s c = some t) : NsIn t := by
  unfold nsStep at e
  split at e
  · rename_i h1
    injection e with e
    subst e
    refine ⟨h.n, fun h2 => (by cases h2), fun j hj => ?_⟩
    injection hj with hj
    subst hj
    show s.parts + _ ≤ _
    rw [h.none_ h1.2]
    decide
  · split at e
    · rename_i hc
      rcases hf : s.fr with _ | j
      · rw [hf] at e
        injection e with e
        subst e
        refine ⟨fun ho => ?_, fun _ => h.none_ hf, fun j hj => ?_⟩
        · simp only [Bool.or_eq_false_iff, decide_eq_false_iff_not] at ho
          simp only
          omega
        · first | (rw [hf] at hj; cases hj) | cases hj
      · rw [hf] at e
        injection e with e
        subst e
        refine ⟨h.n, fun h2 => (by cases h2), fun i hi => ?_⟩
        injection hi with hi
        subst hi
        have h1 := h.some_ j hf
        show s.parts + 100000 / 10 ^ min j 6 * (c - 48) + 10 ^ (6 - min (j + 1) 6) ≤ 1000000
        by_cases hj : j ≤ 5
        · have h2 := mil_big j hj
          have h3 : 100000 / 10 ^ min j 6 * (c - 48) ≤ 100000 / 10 ^ min j 6 * 9 := Nat.mul_le_mul_left _ (by unfold isD at hc; omega)
          omega
        · have e1 : min j 6 = 6 := by omega
          have e2 : min (j + 1) 6 = 6 := by omega
          rw [e1] at h1 ⊢
          rw [e2]
          have e3 : 100000 / 10 ^ 6 = 0 := by decide
          rw [e3]
          omega
    · cases e

theorem NsIn.all : ∀ (l : List Nat) {s t : Ns}, NsIn s → nsAll s l = some t → NsIn t := by
  intro l
  induction l with
  | nil => intro s t h e; injection e with e; subst e; exact h
  | cons c l ih =>
    intro s t h e
    rw [nsAll] at e
    cases hs : nsStep s c with
    | none => rw [hs] at e; cases e
    | some u => rw [hs] at e; exact ih (h.step hs) e

theorem ns0_in : NsIn ns0 := ⟨fun _ => by decide, fun _ => rfl, fun j h => by cases h⟩

/-- A number that is told may be. -/
theorem numOf_may {l : List Nat} {k : Nat} {x : Int} (h : numOf l = (0, k, x)) : (k = 2 ∧ x.natAbs ≤ 2147483647) ∨ (k = 3 ∧ x.natAbs ≤ 2147483647 * 1000000) := by
  unfold numOf at h
  split at h
  · simp at h
  · rename_i s hs
    have hi := ns0_in.all _ hs
    split at h
    · simp at h
    · split at h
      · simp at h
      · rename_i h2
        have ho : s.over = false := by
          cases hv : s.over
          · rfl
          · exact absurd (.inl hv) h2
        have hn := hi.n ho
        simp only [Prod.mk.injEq, true_and] at h
        obtain ⟨hk, hx⟩ := h
        rcases hf : s.fr with _ | j
        · rw [hf] at hk hx
          simp only [if_true] at hk hx
          refine .inl ⟨hk.symm, ?_⟩
          split at hx <;> omega
        · rw [hf] at hk hx
          simp only [reduceCtorEq, if_false] at hk hx
          refine .inr ⟨hk.symm, ?_⟩
          have h3 := hi.some_ j hf
          have h4 : 0 < 10 ^ (6 - min j 6) := Nat.pow_pos (by omega)
          have h5 : ¬ (s.n = 2147483647 ∧ 0 < s.parts) := fun h6 => h2 (.inr ⟨by rw [hf]; simp, h6.1, h6.2⟩)
          split at hx <;> omega

end Go.Proofs.Ytnbjigopgbjneaa
