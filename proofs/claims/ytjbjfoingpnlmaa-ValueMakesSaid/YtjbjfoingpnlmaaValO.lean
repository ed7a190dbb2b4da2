/- The order of values is total: plain mathematics. -/
import Derived.Test.YtjbjfoingpnlmaaRVt2
import Derived.Sort.Walk0
namespace Go.Proofs.Ytjbjfoingpnlmaa
set_option linter.unusedVariables false
set_option linter.unusedSimpArgs false

/-- What a comparison may be that is an order. -/
structure CmpAt (x y z xy yz xz yx : Int) : Prop where
  val : xy = -1 ∨ xy = 0 ∨ xy = 1
  swap : yx = 0 - xy
  tr : xy ≤ 0 → yz ≤ 0 → xz ≤ 0 ∧ (xy < 0 ∨ yz < 0 → xz < 0)
def cmpI (a b : Int) : Int := if a < b then -1 else if a ≠ b then 1 else 0
def cmpS (a b : ByteArray) : Int := if Op.bytesLess a.toList b.toList then -1 else if a ≠ b then 1 else 0
theorem cmpI_val (a b : Int) : cmpI a b = -1 ∨ cmpI a b = 0 ∨ cmpI a b = 1 := by unfold cmpI; split <;> (try split) <;> simp
theorem cmpI_swap (a b : Int) : cmpI b a = 0 - cmpI a b := by unfold cmpI; split <;> split <;> (try split) <;> omega
theorem cmpI_tr (a b c : Int) : cmpI a b ≤ 0 → cmpI b c ≤ 0 → cmpI a c ≤ 0 ∧ (cmpI a b < 0 ∨ cmpI b c < 0 → cmpI a c < 0) := by
  unfold cmpI
  intro h1 h2
  repeat' split at *
  all_goals omega
theorem toList_inj {a b : ByteArray} (h : a.toList = b.toList) : a = b := by
  by_cases e : a = b
  · exact e
  · exact absurd h (str_ne11 e)
theorem cmpS_lt (a b : ByteArray) : cmpS a b = -1 ↔ a.toList < b.toList := by
  unfold cmpS
  rw [Go.Proofs.bytesLess_eq]
  by_cases h : a.toList < b.toList
  · simp [h]
  · simp only [h, decide_false, Bool.false_eq_true, if_false, iff_false]
    split <;> simp
theorem cmpS_eq (a b : ByteArray) : cmpS a b = 0 ↔ a = b := by
  unfold cmpS
  rw [Go.Proofs.bytesLess_eq]
  by_cases e : a = b
  · subst e
    simp [List.lt_irrefl]
  · simp only [e, ne_eq, not_false_eq_true, if_true, iff_false]
    split <;> simp
theorem cmpS_val (a b : ByteArray) : cmpS a b = -1 ∨ cmpS a b = 0 ∨ cmpS a b = 1 := by unfold cmpS; split <;> (try split) <;> simp
theorem cmpS_gt (a b : ByteArray) : cmpS a b = 1 ↔ b.toList < a.toList := by
  constructor
  · intro h
    have h1 : ¬ a.toList < b.toList := fun e => by rw [(cmpS_lt a b).2 e] at h; cases h
    have h2 : a ≠ b := fun e => by rw [(cmpS_eq a b).2 e] at h; cases h
    rcases Classical.em (b.toList < a.toList) with h3 | h3
    · exact h3
    · exact absurd (toList_inj (List.le_antisymm (List.not_lt.1 h3) (List.not_lt.1 h1))) h2
  · intro h
    rcases cmpS_val a b with e | e | e
    · exact absurd ((cmpS_lt a b).1 e) (List.lt_asymm h)
    · rw [(cmpS_eq a b).1 e] at h; exact absurd h (List.lt_irrefl _)
    · exact e
theorem cmpS_swap (a b : ByteArray) : cmpS b a = 0 - cmpS a b := by
  rcases cmpS_val a b with e | e | e
  · rw [e, (cmpS_gt b a).2 ((cmpS_lt a b).1 e)]; rfl
  · rw [e, (cmpS_eq b a).2 ((cmpS_eq a b).1 e).symm]; rfl
  · rw [e, (cmpS_lt b a).2 ((cmpS_gt a b).1 e)]; rfl
theorem cmpS_tr (a b c : ByteArray) : cmpS a b ≤ 0 → cmpS b c ≤ 0 → cmpS a c ≤ 0 ∧ (cmpS a b < 0 ∨ cmpS b c < 0 → cmpS a c < 0) := by
  intro h1 h2
  rcases cmpS_val a b with e | e | e
  · rcases cmpS_val b c with e2 | e2 | e2
    · have h3 := (cmpS_lt a c).2 (List.lt_trans ((cmpS_lt a b).1 e) ((cmpS_lt b c).1 e2)); omega
    · have h3 := (cmpS_eq b c).1 e2; subst h3; omega
    · omega
  · have h3 := (cmpS_eq a b).1 e; subst h3; omega
  · omega
/-- One order behind another. -/
theorem lex_tr {f1 f2 f3 g1 g2 g3 : Int} (v1 : f1 = -1 ∨ f1 = 0 ∨ f1 = 1) (v2 : f2 = -1 ∨ f2 = 0 ∨ f2 = 1) (hf : f1 ≤ 0 → f2 ≤ 0 → f3 ≤ 0 ∧ (f1 < 0 ∨ f2 < 0 → f3 < 0)) (hz : f1 = 0 → f2 = 0 → f3 = 0) (hg : g1 ≤ 0 → g2 ≤ 0 → g3 ≤ 0 ∧ (g1 < 0 ∨ g2 < 0 → g3 < 0)) :
    (if f1 ≠ 0 then f1 else g1) ≤ 0 → (if f2 ≠ 0 then f2 else g2) ≤ 0 → (if f3 ≠ 0 then f3 else g3) ≤ 0 ∧ ((if f1 ≠ 0 then f1 else g1) < 0 ∨ (if f2 ≠ 0 then f2 else g2) < 0 → (if f3 ≠ 0 then f3 else g3) < 0) := by
  intro h1 h2
  by_cases a1 : f1 = 0
  · have n1 : ¬ f1 ≠ 0 := fun e => e a1
    rw [if_neg n1] at h1 ⊢
    by_cases a2 : f2 = 0
    · have n2 : ¬ f2 ≠ 0 := fun e => e a2
      have n3 : ¬ f3 ≠ 0 := fun e => e (hz a1 a2)
      rw [if_neg n2] at h2 ⊢
      rw [if_neg n3]
      exact hg h1 h2
    · rw [if_pos a2] at h2 ⊢
      have h3 := hf (by omega) h2
      have p3 : f3 ≠ 0 := by omega
      rw [if_pos p3]
      omega
  · rw [if_pos a1] at h1 ⊢
    by_cases a2 : f2 = 0
    · have n2 : ¬ f2 ≠ 0 := fun e => e a2
      rw [if_neg n2] at h2 ⊢
      have h3 := hf h1 (by omega)
      have p3 : f3 ≠ 0 := by omega
      rw [if_pos p3]
      omega
    · rw [if_pos a2] at h2 ⊢
      have h3 := hf h1 h2
      have p3 : f3 ≠ 0 := by omega
      rw [if_pos p3]
      omega
theorem cmpH_eq (k n : Int) (s : ByteArray) (k' n' : Int) (s' : ByteArray) : cmpH k n s k' n' s' = if cmpI k k' ≠ 0 then cmpI k k' else if cmpI n n' ≠ 0 then cmpI n n' else cmpS s s' := by
  unfold cmpH cmpI cmpS
  by_cases h1 : k < k'
  · simp [h1]
  · by_cases h2 : k = k'
    · by_cases h3 : n < n'
      · simp [h1, h2, h3]
      · by_cases h4 : n = n'
        · simp [h2, h4]
        · simp [h2, h3, h4]
    · simp [h1, h2]
theorem zero_tr {xy yz xz yx zy zx : Int} (hs1 : yx = 0 - xy) (hs2 : zy = 0 - yz) (hs3 : zx = 0 - xz) (h1 : xy ≤ 0 → yz ≤ 0 → xz ≤ 0) (h2 : zy ≤ 0 → yx ≤ 0 → zx ≤ 0) : xy = 0 → yz = 0 → xz = 0 := by
  intro a b
  have c := h1 (by omega) (by omega)
  have d := h2 (by omega) (by omega)
  omega
theorem cmpI_zero (a b c : Int) : cmpI a b = 0 → cmpI b c = 0 → cmpI a c = 0 := zero_tr (cmpI_swap a b) (cmpI_swap b c) (cmpI_swap a c) (fun x y => (cmpI_tr a b c x y).1) (fun x y => (cmpI_tr c b a x y).1)
theorem cmpS_zero (a b c : ByteArray) : cmpS a b = 0 → cmpS b c = 0 → cmpS a c = 0 := zero_tr (cmpS_swap a b) (cmpS_swap b c) (cmpS_swap a c) (fun x y => (cmpS_tr a b c x y).1) (fun x y => (cmpS_tr c b a x y).1)
def cmpNS (n : Int) (s : ByteArray) (n' : Int) (s' : ByteArray) : Int := if cmpI n n' ≠ 0 then cmpI n n' else cmpS s s'
theorem lex_val {f g : Int} (hf : f = -1 ∨ f = 0 ∨ f = 1) (hg : g = -1 ∨ g = 0 ∨ g = 1) : (if f ≠ 0 then f else g) = -1 ∨ (if f ≠ 0 then f else g) = 0 ∨ (if f ≠ 0 then f else g) = 1 := by
  split
  · exact hf
  · exact hg
theorem lex_swap {f g f' g' : Int} (hf : f' = 0 - f) (hg : g' = 0 - g) : (if f' ≠ 0 then f' else g') = 0 - (if f ≠ 0 then f else g) := by
  by_cases h : f = 0
  · have n1 : ¬ f ≠ 0 := fun e => e h
    have n2 : ¬ f' ≠ 0 := fun e => e (by omega)
    rw [if_neg n1, if_neg n2, hg]
  · have p2 : f' ≠ 0 := by omega
    rw [if_pos h, if_pos p2, hf]
theorem cmpNS_tr (n : Int) (s : ByteArray) (n' : Int) (s' : ByteArray) (n2 : Int) (s2 : ByteArray) : cmpNS n s n' s' ≤ 0 → cmpNS n' s' n2 s2 ≤ 0 → cmpNS n s n2 s2 ≤ 0 ∧ (cmpNS n s n' s' < 0 ∨ cmpNS n' s' n2 s2 < 0 → cmpNS n s n2 s2 < 0) :=
  lex_tr (cmpI_val _ _) (cmpI_val _ _) (cmpI_tr n n' n2) (cmpI_zero n n' n2) (cmpS_tr s s' s2)
theorem cmpH_lex (k n : Int) (s : ByteArray) (k' n' : Int) (s' : ByteArray) : cmpH k n s k' n' s' = if cmpI k k' ≠ 0 then cmpI k k' else cmpNS n s n' s' := cmpH_eq k n s k' n' s'
theorem cmpH_val (k n : Int) (s : ByteArray) (k' n' : Int) (s' : ByteArray) : cmpH k n s k' n' s' = -1 ∨ cmpH k n s k' n' s' = 0 ∨ cmpH k n s k' n' s' = 1 := by
  rw [cmpH_lex]
  exact lex_val (cmpI_val _ _) (lex_val (cmpI_val _ _) (cmpS_val _ _))
theorem cmpH_swap (k n : Int) (s : ByteArray) (k' n' : Int) (s' : ByteArray) : cmpH k' n' s' k n s = 0 - cmpH k n s k' n' s' := by
  rw [cmpH_lex, cmpH_lex]
  exact lex_swap (cmpI_swap k k') (lex_swap (cmpI_swap n n') (cmpS_swap s s'))
theorem cmpH_tr (k n : Int) (s : ByteArray) (k' n' : Int) (s' : ByteArray) (k2 n2 : Int) (s2 : ByteArray) : cmpH k n s k' n' s' ≤ 0 → cmpH k' n' s' k2 n2 s2 ≤ 0 → cmpH k n s k2 n2 s2 ≤ 0 ∧ (cmpH k n s k' n' s' < 0 ∨ cmpH k' n' s' k2 n2 s2 < 0 → cmpH k n s k2 n2 s2 < 0) := by
  rw [cmpH_lex, cmpH_lex, cmpH_lex]
  exact lex_tr (cmpI_val _ _) (cmpI_val _ _) (cmpI_tr k k' k2) (cmpI_zero k k' k2) (cmpNS_tr n s n' s' n2 s2)
theorem cmpH_zero (k n : Int) (s : ByteArray) (k' n' : Int) (s' : ByteArray) (k2 n2 : Int) (s2 : ByteArray) : cmpH k n s k' n' s' = 0 → cmpH k' n' s' k2 n2 s2 = 0 → cmpH k n s k2 n2 s2 = 0 :=
  zero_tr (cmpH_swap k n s k' n' s') (cmpH_swap k' n' s' k2 n2 s2) (cmpH_swap k n s k2 n2 s2) (fun x y => (cmpH_tr k n s k' n' s' k2 n2 s2 x y).1) (fun x y => (cmpH_tr k2 n2 s2 k' n' s' k n s x y).1)
mutual
theorem cmpT_val : ∀ (a b : VT), cmpT a b = -1 ∨ cmpT a b = 0 ∨ cmpT a b = 1
  | .mk k n s l, .mk k' n' s' l' => by
    rw [cmpT_mk]
    exact lex_val (cmpH_val _ _ _ _ _ _) (cmpL_val l l')
theorem cmpL_val : ∀ (l l' : List VT), cmpL l l' = -1 ∨ cmpL l l' = 0 ∨ cmpL l l' = 1
  | [], [] => by rw [cmpL]; exact .inr (.inl rfl)
  | [], _ :: _ => by rw [cmpL]; exact .inl rfl
  | _ :: _, [] => by rw [cmpL]; exact .inr (.inr rfl)
  | t :: l, t' :: l' => by
    rw [cmpL_cons]
    exact lex_val (cmpT_val t t') (cmpL_val l l')
end
mutual
theorem cmpT_swap : ∀ (a b : VT), cmpT b a = 0 - cmpT a b
  | .mk k n s l, .mk k' n' s' l' => by
    rw [cmpT_mk, cmpT_mk]
    exact lex_swap (cmpH_swap _ _ _ _ _ _) (cmpL_swap l l')
theorem cmpL_swap : ∀ (l l' : List VT), cmpL l' l = 0 - cmpL l l'
  | [], [] => by rw [cmpL]; rfl
  | [], _ :: _ => by rw [cmpL, cmpL]; rfl
  | _ :: _, [] => by rw [cmpL, cmpL]; rfl
  | t :: l, t' :: l' => by
    rw [cmpL_cons, cmpL_cons]
    exact lex_swap (cmpT_swap t t') (cmpL_swap l l')
end
theorem cmpT_self (a : VT) : cmpT a a = 0 := by have := cmpT_swap a a; omega
mutual
theorem cmpT_tr : ∀ (a b c : VT), (cmpT a b ≤ 0 → cmpT b c ≤ 0 → cmpT a c ≤ 0 ∧ (cmpT a b < 0 ∨ cmpT b c < 0 → cmpT a c < 0)) ∧ (cmpT a b = 0 → cmpT b c = 0 → cmpT a c = 0)
  | .mk k n s l, .mk k' n' s' l', .mk k2 n2 s2 l2 => by
    rw [cmpT_mk, cmpT_mk, cmpT_mk]
    have h := cmpL_tr l l' l2
    refine ⟨lex_tr (cmpH_val _ _ _ _ _ _) (cmpH_val _ _ _ _ _ _) (cmpH_tr k n s k' n' s' k2 n2 s2) (cmpH_zero k n s k' n' s' k2 n2 s2) h.1, fun h1 h2 => ?_⟩
    by_cases a1 : cmpH k n s k' n' s' = 0
    · by_cases a2 : cmpH k' n' s' k2 n2 s2 = 0
      · have a3 := cmpH_zero k n s k' n' s' k2 n2 s2 a1 a2
        rw [if_neg (fun e => e a1)] at h1
        rw [if_neg (fun e => e a2)] at h2
        rw [if_neg (fun e => e a3)]
        exact h.2 h1 h2
      · rw [if_pos a2] at h2; exact absurd h2 a2
    · rw [if_pos a1] at h1; exact absurd h1 a1
theorem cmpL_tr : ∀ (a b c : List VT), (cmpL a b ≤ 0 → cmpL b c ≤ 0 → cmpL a c ≤ 0 ∧ (cmpL a b < 0 ∨ cmpL b c < 0 → cmpL a c < 0)) ∧ (cmpL a b = 0 → cmpL b c = 0 → cmpL a c = 0)
  | [], b, c => by
    rcases b with _ | ⟨t', l'⟩ <;> rcases c with _ | ⟨t2, l2⟩ <;> simp [cmpL]
  | t :: l, b, c => by
    rcases b with _ | ⟨t', l'⟩
    · simp [cmpL]
    · rcases c with _ | ⟨t2, l2⟩
      · simp [cmpL]
      · rw [cmpL_cons, cmpL_cons, cmpL_cons]
        have hT := cmpT_tr t t' t2
        have h := cmpL_tr l l' l2
        refine ⟨lex_tr (cmpT_val _ _) (cmpT_val _ _) hT.1 hT.2 h.1, fun h1 h2 => ?_⟩
        by_cases a1 : cmpT t t' = 0
        · by_cases a2 : cmpT t' t2 = 0
          · have a3 := hT.2 a1 a2
            rw [if_neg (fun e => e a1)] at h1
            rw [if_neg (fun e => e a2)] at h2
            rw [if_neg (fun e => e a3)]
            exact h.2 h1 h2
          · rw [if_pos a2] at h2; exact absurd h2 a2
        · rw [if_pos a1] at h1; exact absurd h1 a1
end
end Go.Proofs.Ytjbjfoingpnlmaa
