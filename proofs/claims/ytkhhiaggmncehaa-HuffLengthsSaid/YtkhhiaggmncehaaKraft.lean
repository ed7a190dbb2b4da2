/- The mathematics of the levels: how many leaves are taken of each level, and what room their codes take. Plain, no program. -/
import Derived.Test.YtkhhiaggmncehaaPack
namespace Go.Proofs.Ytkhhiaggmncehaa
set_option linter.unusedVariables false

theorem pairsOf_true (L : List Nd) : ∀ y ∈ pairsOf L, y.2 = true := by
  intro y hy
  obtain ⟨i, _, rfl⟩ := pairsTo_mem L y _ hy
  rfl
theorem pairsTo_get (L : List Nd) : ∀ (j i : Nat), i < j → (pairsTo L j)[i]? = some ((L.getD (2 * i) (0, false)).1 + (L.getD (2 * i + 1) (0, false)).1, true)
  | j + 1, i, h => by
    rw [pairsTo]
    rcases Nat.lt_or_ge i j with h1 | h1
    · rw [List.getElem?_append_left (by rw [pairsTo_len]; exact h1)]
      exact pairsTo_get L j i h1
    · have : i = j := by omega
      subst this
      rw [List.getElem?_append_right (by rw [pairsTo_len]; omega), pairsTo_len]
      simp
theorem pairsOf_get (L : List Nd) (i : Nat) (h : i < L.length / 2) : (pairsOf L)[i]? = some ((L.getD (2 * i) (0, false)).1 + (L.getD (2 * i + 1) (0, false)).1, true) := pairsTo_get L _ i h
theorem up_pairs {L : List Nd} (h : Up L) : Up (pairsOf L) := by
  refine List.pairwise_iff_getElem.2 (fun i j hi hj hij => ?_)
  rw [pairsOf_len] at hi hj
  have e1 := pairsOf_get L i hi
  have e2 := pairsOf_get L j hj
  rw [List.getElem?_eq_getElem (by rw [pairsOf_len]; exact hi)] at e1
  rw [List.getElem?_eq_getElem (by rw [pairsOf_len]; exact hj)] at e2
  injection e1 with e1
  injection e2 with e2
  rw [e1, e2]
  have h1 := h.get (2 * i) (2 * j) (by omega) (by omega)
  have h2 := h.get (2 * i + 1) (2 * j + 1) (by omega) (by omega)
  show _ + _ ≤ _ + _
  omega
theorem up_level {S : List Nd} (h : Up S) (k : Nat) : Up (levelOf S k) := by
  induction k with
  | zero => exact h
  | succ k ih => exact up_merge _ _ h (up_pairs ih)

/-- How many leaves are taken of each level, from level k down, where T nodes are taken of level k. -/
def leavesOf (S : List Nd) : Nat → Nat → List Nat
  | 0, T => [T - prs (levelOf S 0) T]
  | k + 1, T => (T - prs (levelOf S (k + 1)) T) :: leavesOf S k (2 * prs (levelOf S (k + 1)) T)
theorem leavesOf_len (S : List Nd) : ∀ k T, (leavesOf S k T).length = k + 1
  | 0, T => rfl
  | k + 1, T => by rw [leavesOf, List.length_cons, leavesOf_len S k]

section
variable {S : List Nd} (hf : ∀ x ∈ S, x.2 = false) (hu : Up S) (hw : ∀ x ∈ S, 0 ≤ x.1)
include hf hu
theorem prs_next (k T : Nat) (hT : T ≤ (levelOf S (k + 1)).length) : 2 * prs (levelOf S (k + 1)) T ≤ (levelOf S k).length ∧ T - prs (levelOf S (k + 1)) T ≤ S.length := by
  have h := parts2 S (pairsOf (levelOf S k)) T (by rw [levelOf, mergeOf_len] at hT; exact hT) hf (pairsOf_true _) hu
  have h1 := h.q
  have h2 := h.c
  rw [pairsOf_len] at h1
  rw [show levelOf S (k + 1) = mergeOf S (pairsOf (levelOf S k)) from rfl]
  exact ⟨by omega, h2⟩
theorem leaves_le (k : Nat) : ∀ T, T ≤ (levelOf S k).length → ∀ c ∈ leavesOf S k T, c ≤ S.length := by
  induction k with
  | zero =>
    intro T hT c hc
    rw [leavesOf, List.mem_singleton] at hc
    have h1 : T ≤ S.length := hT
    omega
  | succ k ih =>
    intro T hT c hc
    have h := prs_next hf hu k T hT
    rw [leavesOf, List.mem_cons] at hc
    rcases hc with rfl | hc
    · exact h.2
    · exact ih _ h.1 c hc
include hw
/-- Of a level no more leaves are taken than of the one above. -/
theorem leaves_down (k T : Nat) (hT : T ≤ (levelOf S (k + 1)).length) : 2 * prs (levelOf S (k + 1)) T - prs (levelOf S k) (2 * prs (levelOf S (k + 1)) T) ≤ T - prs (levelOf S (k + 1)) T := by
  have h := parts2 S (pairsOf (levelOf S k)) T (by rw [levelOf, mergeOf_len] at hT; exact hT) hf (pairsOf_true _) hu
  have hn := prs_next hf hu k T hT
  rw [show levelOf S (k + 1) = mergeOf S (pairsOf (levelOf S k)) from rfl] at hn ⊢
  obtain ⟨q, hq⟩ : ∃ q, q = prs (mergeOf S (pairsOf (levelOf S k))) T := ⟨_, rfl⟩
  have i3 := h.lt
  have i1 := h.q
  rw [← hq] at hn i3 i1 ⊢
  rw [pairsOf_len] at i1
  refine Nat.le_of_not_lt (fun hlt => ?_)
  have hq1 : 1 ≤ q := by omega
  obtain ⟨a, ha⟩ : ∃ a, a = T - q := ⟨_, rfl⟩
  rw [← ha] at i3 hlt hn
  -- leaf a lies among the first 2 q nodes of level k
  have hlen : 2 * q - prs (levelOf S k) (2 * q) ≤ S.length := by
    rcases k with _ | k
    · have : 2 * q ≤ S.length := hn.1
      omega
    · exact (prs_next hf hu k (2 * q) hn.1).2
  obtain ⟨x, hx⟩ : ∃ x, S[a]? = some x := ⟨_, List.getElem?_eq_getElem (by omega)⟩
  have hat : ∃ p, p < 2 * q ∧ (levelOf S k)[p]? = some x := by
    rcases k with _ | k
    · exact ⟨a, by omega, hx⟩
    · exact (parts2 S (pairsOf (levelOf S k)) (2 * q) (by have := hn.1; rw [levelOf, mergeOf_len] at this; exact this) hf (pairsOf_true _) hu).at_ a x hlt hx
  obtain ⟨p, hp, hpx⟩ := hat
  have h4 := i3 x _ hx hq1 (pairsOf_get (levelOf S k) (q - 1) (by omega))
  have h5 := (up_level hu k).get p (2 * q - 1) (by omega) (by omega)
  rw [List.getD_eq_getElem?_getD, hpx] at h5
  have e1 : 2 * (q - 1) + 1 = 2 * q - 1 := by omega
  rw [e1] at h4
  have h6 : 0 ≤ ((levelOf S k).getD (2 * (q - 1)) (0, false)).1 := by
    have hlv : ∀ j, ∀ y ∈ levelOf S j, 0 ≤ y.1 := by
      intro j
      induction j with
      | zero => exact hw
      | succ j ih =>
        intro y hy
        rcases (mergeOf_mem y _ _).1 hy with h7 | h7
        · exact hw y h7
        · obtain ⟨i, hi, rfl⟩ := pairsTo_mem _ y _ h7
          have e : ∀ t, t < (levelOf S j).length → 0 ≤ ((levelOf S j).getD t (0, false)).1 := fun t ht => by
            rw [List.getD_eq_getElem?_getD, List.getElem?_eq_getElem ht]
            exact ih _ (List.getElem_mem ht)
          have := e (2 * i) (by omega)
          have := e (2 * i + 1) (by omega)
          show 0 ≤ _ + _
          omega
    rw [List.getD_eq_getElem?_getD, List.getElem?_eq_getElem (by omega)]
    exact hlv k _ (List.getElem_mem _)
  simp only [Option.getD_some] at h5
  simp only at h4
  omega
theorem leaves_sorted (k : Nat) : ∀ T, T ≤ (levelOf S k).length → (leavesOf S k T).Pairwise (fun c d => d ≤ c) := by
  induction k with
  | zero => intro T _; simp [leavesOf]
  | succ k ih =>
    intro T hT
    have h := prs_next hf hu k T hT
    have hd := leaves_down hf hu hw k T hT
    rw [leavesOf]
    refine List.pairwise_cons.2 ⟨fun c hc => ?_, ih _ h.1⟩
    have hs := ih _ h.1
    rcases k with _ | k
    · rw [leavesOf, List.mem_singleton] at hc
      omega
    · rw [leavesOf] at hc hs
      rcases List.mem_cons.1 hc with rfl | hc
      · exact hd
      · exact Nat.le_trans ((List.pairwise_cons.1 hs).1 c hc) hd
end

/-- The room of what is taken. -/
def wsum : List Nat → Nat
  | [] => 0
  | c :: r => c * 2 ^ r.length + wsum r
theorem wsum_leaves (S : List Nd) (hf : ∀ x ∈ S, x.2 = false) : ∀ k T, wsum (leavesOf S k T) = T * 2 ^ k
  | 0, T => by
    have e : prs (levelOf S 0) T = 0 := prs_none S hf T
    simp [leavesOf, wsum, e]
  | k + 1, T => by
    have h := prs_le (levelOf S (k + 1)) T
    rw [leavesOf, wsum, leavesOf_len, wsum_leaves S hf k, Nat.pow_succ]
    obtain ⟨q, hq⟩ : ∃ q, q = prs (levelOf S (k + 1)) T := ⟨_, rfl⟩
    rw [← hq] at h ⊢
    obtain ⟨c, rfl⟩ : ∃ c, T = c + q := ⟨T - q, by omega⟩
    rw [Nat.add_sub_cancel, Nat.add_mul, Nat.mul_comm 2 q, Nat.mul_assoc q 2, Nat.mul_comm 2 (2 ^ k)]

/-- The length of leaf i's code. -/
def depth (cs : List Nat) (i : Nat) : Nat := cs.countP (fun c => decide (i < c))
theorem depth_le (cs : List Nat) (i : Nat) : depth cs i ≤ cs.length := List.countP_le_length
theorem depth_cons (c : Nat) (cs : List Nat) (i : Nat) : depth (c :: cs) i = depth cs i + (if i < c then 1 else 0) := by
  unfold depth
  rw [List.countP_cons]
  simp
theorem depth_mono (cs : List Nat) (i j : Nat) (h : i ≤ j) : depth cs j ≤ depth cs i := by
  unfold depth
  refine List.countP_mono_left (fun c _ hc => ?_)
  simp at hc ⊢
  omega
/-- The room of the codes of the first n leaves. -/
def kraft (cs : List Nat) : Nat → Nat
  | 0 => 0
  | n + 1 => kraft cs n + 2 ^ (cs.length - depth cs n)
theorem kraft_below (c : Nat) (cs : List Nat) : ∀ n, n ≤ c → kraft (c :: cs) n = kraft cs n
  | 0, _ => rfl
  | n + 1, h => by
    rw [kraft, kraft, kraft_below c cs n (by omega), depth_cons, if_pos (by omega), List.length_cons]
    have : cs.length + 1 - (depth cs n + 1) = cs.length - depth cs n := by omega
    rw [this]
theorem kraft_behind (c : Nat) (cs : List Nat) (h : ∀ d ∈ cs, d ≤ c) : ∀ n, kraft (c :: cs) (c + n) = kraft (c :: cs) c + n * 2 ^ (cs.length + 1)
  | 0 => by simp
  | n + 1 => by
    have e : depth (c :: cs) (c + n) = 0 := by
      unfold depth
      rw [List.countP_eq_zero]
      intro d hd
      simp
      rcases List.mem_cons.1 hd with rfl | hd
      · omega
      · have := h d hd; omega
    rw [← Nat.add_assoc, kraft, kraft_behind c cs h n, e, List.length_cons, Nat.sub_zero, Nat.succ_mul, Nat.add_assoc]
theorem kraft_all : ∀ (cs : List Nat) (n : Nat), cs.Pairwise (fun c d => d ≤ c) → (∀ c ∈ cs, c ≤ n) → kraft cs n + wsum cs = n * 2 ^ cs.length
  | [], n, _, _ => by
    have : ∀ m, kraft [] m = m := by
      intro m
      induction m with
      | zero => rfl
      | succ m ih => rw [kraft, ih]; simp [depth]
    rw [this]
    simp [wsum]
  | c :: cs, n, hs, hle => by
    have h1 := List.pairwise_cons.1 hs
    have hc : c ≤ n := hle c (List.mem_cons_self ..)
    obtain ⟨m, rfl⟩ : ∃ m, n = c + m := ⟨n - c, by omega⟩
    have ih := kraft_all cs c h1.2 h1.1
    rw [kraft_behind c cs h1.1, kraft_below c cs c (Nat.le_refl _), wsum, List.length_cons, Nat.pow_succ, Nat.add_mul]
    have e : c * (2 ^ cs.length * 2) = c * 2 ^ cs.length + c * 2 ^ cs.length := by rw [← Nat.mul_assoc]; omega
    omega
theorem kraft_ge (cs : List Nat) (i : Nat) : ∀ n, i < n → 2 ^ (cs.length - depth cs i) + (n - 1) ≤ kraft cs n
  | n + 1, h => by
    have h0 : ∀ m, m ≤ kraft cs m := by
      intro m
      induction m with
      | zero => exact Nat.zero_le _
      | succ m ih => rw [kraft]; have := Nat.one_le_two_pow (n := cs.length - depth cs m); omega
    rw [kraft]
    rcases Nat.eq_or_lt_of_le (Nat.lt_succ_iff.1 h) with e | e
    · subst e
      have := h0 i
      omega
    · have := kraft_ge cs i n e
      have := Nat.one_le_two_pow (n := cs.length - depth cs n)
      omega
end Go.Proofs.Ytkhhiaggmncehaa
