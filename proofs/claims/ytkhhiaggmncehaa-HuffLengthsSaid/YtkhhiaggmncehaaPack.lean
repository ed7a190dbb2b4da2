/- The mathematics of the levels: what the first nodes of a level are. Plain, no program. -/
import Derived.Test.YtkhhiaggmncehaaLevels
namespace Go.Proofs.Ytkhhiaggmncehaa
set_option linter.unusedVariables false

/-- How many of the first T nodes are pairs. -/
def prs (L : List Nd) (T : Nat) : Nat := (L.take T).countP (·.2)
theorem prs_le (L : List Nd) (T : Nat) : prs L T ≤ T := by
  have h1 : prs L T ≤ (L.take T).length := List.countP_le_length
  have h2 : (L.take T).length ≤ T := by rw [List.length_take]; omega
  omega
theorem prs_zero (L : List Nd) : prs L 0 = 0 := by simp [prs]
theorem prs_cons (x : Nd) (L : List Nd) (T : Nat) : prs (x :: L) (T + 1) = prs L T + (if x.2 = true then 1 else 0) := by
  unfold prs
  rw [List.take_succ_cons, List.countP_cons]

/-- Lesser weights first. -/
def Up (L : List Nd) : Prop := L.Pairwise (fun x y => x.1 ≤ y.1)
theorem Up.get {L : List Nd} (h : Up L) (i j : Nat) (hij : i ≤ j) (hj : j < L.length) : (L.getD i (0, false)).1 ≤ (L.getD j (0, false)).1 := by
  rcases Nat.eq_or_lt_of_le hij with e | e
  · subst e; exact Int.le_refl _
  · have h1 := (List.pairwise_iff_getElem.1 h) i j (by omega) hj e
    rw [List.getD_eq_getElem?_getD, List.getD_eq_getElem?_getD, List.getElem?_eq_getElem (by omega), List.getElem?_eq_getElem hj]
    exact h1
theorem up_merge : ∀ a b : List Nd, Up a → Up b → Up (mergeOf a b)
  | [], b, _, hb => by rw [mergeOf_nil_left]; exact hb
  | x :: a, [], ha, _ => by rw [mergeOf_nil_right]; exact ha
  | x :: a, y :: b, ha, hb => by
    have ha2 := List.pairwise_cons.1 ha
    have hb2 := List.pairwise_cons.1 hb
    by_cases h : y.1 < x.1
    · rw [mergeOf_lt h]
      refine List.pairwise_cons.2 ⟨fun z hz => ?_, up_merge (x :: a) b ha hb2.2⟩
      rcases (mergeOf_mem z _ _).1 hz with h1 | h1
      · rcases List.mem_cons.1 h1 with rfl | h1
        · exact Int.le_of_lt h
        · exact Int.le_trans (Int.le_of_lt h) (ha2.1 z h1)
      · exact hb2.1 z h1
    · rw [mergeOf_ge h]
      refine List.pairwise_cons.2 ⟨fun z hz => ?_, up_merge a (y :: b) ha2.2 hb⟩
      have h' : x.1 ≤ y.1 := by omega
      rcases (mergeOf_mem z _ _).1 hz with h1 | h1
      · exact ha2.1 z h1
      · rcases List.mem_cons.1 h1 with rfl | h1
        · exact h'
        · exact Int.le_trans h' (hb2.1 z h1)
termination_by a b => a.length + b.length

/-- What the first T nodes of a merge are: c of the first row, q of the second one. -/
structure Parts2 (a b : List Nd) (T : Nat) : Prop where
  q : prs (mergeOf a b) T ≤ b.length
  c : T - prs (mergeOf a b) T ≤ a.length
  lt : ∀ x y, a[T - prs (mergeOf a b) T]? = some x → 1 ≤ prs (mergeOf a b) T → b[prs (mergeOf a b) T - 1]? = some y → y.1 < x.1
  at_ : ∀ i x, i < T - prs (mergeOf a b) T → a[i]? = some x → ∃ p, p < T ∧ (mergeOf a b)[p]? = some x

theorem prs_all (b : List Nd) (hb : ∀ y ∈ b, y.2 = true) (T : Nat) (hT : T ≤ b.length) : prs b T = T := by
  unfold prs
  rw [List.countP_eq_length.2 (fun x hx => hb x (List.mem_of_mem_take hx)), List.length_take]
  omega
theorem prs_none (a : List Nd) (ha : ∀ y ∈ a, y.2 = false) (T : Nat) : prs a T = 0 := by
  unfold prs
  rw [List.countP_eq_zero]
  intro x hx
  rw [ha x (List.mem_of_mem_take hx)]
  simp

theorem parts2 : ∀ (a b : List Nd) (T : Nat), T ≤ a.length + b.length → (∀ x ∈ a, x.2 = false) → (∀ y ∈ b, y.2 = true) → Up a → Parts2 a b T
  | [], b, T, hT, _, hb, _ => by
    have e := prs_all b hb T (by simpa using hT)
    refine ⟨?_, ?_, fun x y hx => ?_, fun i x _ hx => ?_⟩
    · rw [mergeOf_nil_left, e]; simpa using hT
    · rw [mergeOf_nil_left, e]; omega
    · simp at hx
    · simp at hx
  | x :: a, [], T, hT, ha, _, _ => by
    have e := prs_none (x :: a) ha T
    refine ⟨?_, ?_, fun z y _ h1 => ?_, fun i z hi hz => ?_⟩
    · rw [mergeOf_nil_right, e]; exact Nat.zero_le _
    · rw [mergeOf_nil_right, e]; simpa using hT
    · rw [mergeOf_nil_right, e] at h1; omega
    · rw [mergeOf_nil_right, e] at hi
      exact ⟨i, by omega, by rw [mergeOf_nil_right]; exact hz⟩
  | x :: a, y :: b, 0, hT, ha, hb, hu => by
    refine ⟨?_, ?_, fun z y _ h1 => ?_, fun i z hi hz => ?_⟩
    · rw [prs_zero]; exact Nat.zero_le _
    · rw [prs_zero]; exact Nat.zero_le _
    · rw [prs_zero] at h1; omega
    · omega
  | x :: a, y :: b, T + 1, hT, ha, hb, hu => by
    have hxf : x.2 = false := ha x (List.mem_cons_self ..)
    have hyt : y.2 = true := hb y (List.mem_cons_self ..)
    have hu2 := List.pairwise_cons.1 hu
    by_cases h : y.1 < x.1
    · have ih := parts2 (x :: a) b T (by simp at hT ⊢; omega) ha (fun z hz => hb z (List.mem_cons_of_mem _ hz)) hu
      have e : prs (mergeOf (x :: a) (y :: b)) (T + 1) = prs (mergeOf (x :: a) b) T + 1 := by rw [mergeOf_lt h, prs_cons, if_pos hyt]
      obtain ⟨q, hq⟩ : ∃ q, q = prs (mergeOf (x :: a) b) T := ⟨_, rfl⟩
      have hqT := prs_le (mergeOf (x :: a) b) T
      have i1 := ih.q
      have i2 := ih.c
      have i3 := ih.lt
      have i4 := ih.at_
      rw [← hq] at e i1 i2 i3 i4 hqT
      refine ⟨?_, ?_, ?_, ?_⟩
      · rw [e]; simp; exact i1
      · rw [e]; have : T + 1 - (q + 1) = T - q := by omega
        rw [this]; exact i2
      · rw [e]
        have e2 : T + 1 - (q + 1) = T - q := by omega
        rw [e2]
        intro u v hu' _ hv
        by_cases hq0 : q = 0
        · subst hq0
          simp at hv
          subst hv
          rcases hT0 : T - 0 with _ | t
          · rw [hT0] at hu'; simp at hu'; subst hu'; exact h
          · rw [hT0] at hu'
            simp at hu'
            have := hu2.1 u (List.mem_of_getElem? hu')
            omega
        · obtain ⟨q', rfl⟩ : ∃ q', q = q' + 1 := ⟨q - 1, by omega⟩
          simp at hv
          exact i3 u v hu' (by omega) (by simpa using hv)
      · rw [e]
        have e2 : T + 1 - (q + 1) = T - q := by omega
        rw [e2]
        intro i z hi hz
        obtain ⟨p, hp, hp2⟩ := i4 i z hi hz
        exact ⟨p + 1, by omega, by rw [mergeOf_lt h]; simpa using hp2⟩
    · have ih := parts2 a (y :: b) T (by simp at hT ⊢; omega) (fun z hz => ha z (List.mem_cons_of_mem _ hz)) hb hu2.2
      have e : prs (mergeOf (x :: a) (y :: b)) (T + 1) = prs (mergeOf a (y :: b)) T := by rw [mergeOf_ge h, prs_cons, if_neg (by simp [hxf])]; rfl
      obtain ⟨q, hq⟩ : ∃ q, q = prs (mergeOf a (y :: b)) T := ⟨_, rfl⟩
      have hqT := prs_le (mergeOf a (y :: b)) T
      have i1 := ih.q
      have i2 := ih.c
      have i3 := ih.lt
      have i4 := ih.at_
      rw [← hq] at e i1 i2 i3 i4 hqT
      have e2 : T + 1 - q = T - q + 1 := by omega
      refine ⟨?_, ?_, ?_, ?_⟩
      · rw [e]; exact i1
      · rw [e, e2]; simpa using i2
      · rw [e, e2]
        intro u v hu' h1 hv
        exact i3 u v (by simpa using hu') h1 hv
      · rw [e, e2]
        intro i z hi hz
        rcases i with _ | i
        · simp at hz; subst hz
          exact ⟨0, by omega, by rw [mergeOf_ge h]; rfl⟩
        · obtain ⟨p, hp, hp2⟩ := i4 i z (by omega) (by simpa using hz)
          exact ⟨p + 1, by omega, by rw [mergeOf_ge h]; simpa using hp2⟩
termination_by a b T => a.length + b.length + T
end Go.Proofs.Ytkhhiaggmncehaa
