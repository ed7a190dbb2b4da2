/- Rows of which two places are exchanged: plain mathematics, no program. -/
import Derived.WalkKit
namespace Go.Proofs.Ytkhhiaggmncehaa
set_option linter.unusedVariables false

def swapD (d : List Int) (i j : Nat) : List Int := (d.set i (d.getD j 0)).set j (d.getD i 0)
theorem swapD_len (d : List Int) (i j : Nat) : (swapD d i j).length = d.length := by simp [swapD]
theorem swapD_get (d : List Int) (i j k : Nat) (hi : i < d.length) (hj : j < d.length) : (swapD d i j).getD k 0 = if k = j then d.getD i 0 else if k = i then d.getD j 0 else d.getD k 0 := by
  unfold swapD
  simp only [List.getD_eq_getElem?_getD, List.getElem?_set, List.length_set]
  by_cases h1 : k = j
  · subst h1; simp [hj]
  · rw [if_neg (fun e => h1 e.symm), if_neg h1]
    by_cases h2 : k = i
    · subst h2; simp [hi]
    · rw [if_neg (fun e => h2 e.symm), if_neg h2]
theorem swapD_perm (d : List Int) (i j : Nat) (hi : i < d.length) (hj : j < d.length) : (swapD d i j).Perm d := by
  have e1 : d.getD i 0 = d[i] := by simp [List.getD_eq_getElem?_getD, hi]
  have e2 : d.getD j 0 = d[j] := by simp [List.getD_eq_getElem?_getD, hj]
  have e3 : swapD d i j = (d.set i d[j]).set j d[i] := by unfold swapD; rw [e1, e2]
  rw [e3, List.perm_iff_count]
  intro a
  rw [List.count_set (by simpa using hj), List.count_set hi]
  have h1 : 0 < d.count d[i] := List.count_pos_iff.2 (List.getElem_mem hi)
  have h2 : 0 < d.count d[j] := List.count_pos_iff.2 (List.getElem_mem hj)
  by_cases hij : i = j
  · subst hij
    simp only [List.getElem_set_self]
    by_cases ha : d[i] = a
    · subst ha; simp
    · simp [ha]
  · rw [List.getElem_set_ne hij]
    by_cases ha : d[i] = a
    · by_cases hb : d[j] = a
      · subst ha; simp [hb]
      · subst ha; simp [hb]
    · by_cases hb : d[j] = a
      · subst hb; simp [ha]
      · simp [ha, hb]

/-- What an exchange leaves. -/
structure Same (d d' : List Int) (a b : Nat) : Prop where
  len : d'.length = d.length
  perm : d'.Perm d
  out : ∀ i, ¬ (a ≤ i ∧ i < b) → d'.getD i 0 = d.getD i 0
  src : ∀ i, a ≤ i → i < b → ∃ j, a ≤ j ∧ j < b ∧ d'.getD i 0 = d.getD j 0
theorem Same.refl (d : List Int) (a b : Nat) : Same d d a b := ⟨rfl, List.Perm.refl _, fun _ _ => rfl, fun i h1 h2 => ⟨i, h1, h2, rfl⟩⟩
theorem Same.trans {d e f : List Int} {a b : Nat} (h : Same d e a b) (k : Same e f a b) : Same d f a b := ⟨k.len.trans h.len, k.perm.trans h.perm, fun i hi => (k.out i hi).trans (h.out i hi), fun i h1 h2 => by
  obtain ⟨j, j1, j2, j3⟩ := k.src i h1 h2
  obtain ⟨q, q1, q2, q3⟩ := h.src j j1 j2
  exact ⟨q, q1, q2, j3.trans q3⟩⟩
theorem Same.wide {d e : List Int} {a b a' b' : Nat} (h : Same d e a b) (h1 : a' ≤ a) (h2 : b ≤ b') : Same d e a' b' := ⟨h.len, h.perm, fun i hi => h.out i (by omega), fun i h3 h4 => by
  by_cases hi : a ≤ i ∧ i < b
  · obtain ⟨j, j1, j2, j3⟩ := h.src i hi.1 hi.2
    exact ⟨j, by omega, by omega, j3⟩
  · exact ⟨i, h3, h4, h.out i hi⟩⟩
theorem Same.swap (d : List Int) (a b i j : Nat) (hb : b ≤ d.length) (hi : a ≤ i ∧ i < b) (hj : a ≤ j ∧ j < b) : Same d (swapD d i j) a b :=
  ⟨swapD_len d i j, swapD_perm d i j (by omega) (by omega), fun k hk => by
    rw [swapD_get d i j k (by omega) (by omega), if_neg (by omega), if_neg (by omega)], fun k h1 h2 => by
    rw [swapD_get d i j k (by omega) (by omega)]
    by_cases h3 : k = j
    · exact ⟨i, hi.1, hi.2, by rw [if_pos h3]⟩
    · by_cases h4 : k = i
      · exact ⟨j, hj.1, hj.2, by rw [if_neg h3, if_pos h4]⟩
      · exact ⟨k, h1, h2, by rw [if_neg h3, if_neg h4]⟩⟩

/-- Sorted by a key, from a to b. -/
def Sorted (key : Int → Int) (d : List Int) (a b : Nat) : Prop := ∀ i j, a ≤ i → i < j → j < b → key (d.getD i 0) ≤ key (d.getD j 0)
theorem Sorted.part {key : Int → Int} {d : List Int} {a b a' b' : Nat} (h : Sorted key d a b) (h1 : a ≤ a') (h2 : b' ≤ b) : Sorted key d a' b' := fun i j hi hij hj => h i j (by omega) hij (by omega)
theorem Sorted.le {key : Int → Int} {d : List Int} {a b i j : Nat} (h : Sorted key d a b) (hi : a ≤ i) (hij : i ≤ j) (hj : j < b) : key (d.getD i 0) ≤ key (d.getD j 0) := by
  rcases Nat.eq_or_lt_of_le hij with e | e
  · subst e; exact Int.le_refl _
  · exact h i j hi e hj
theorem Sorted.congr {key : Int → Int} {d e : List Int} {a b : Nat} (h : Sorted key d a b) (he : ∀ i, a ≤ i → i < b → e.getD i 0 = d.getD i 0) : Sorted key e a b := fun i j hi hij hj => by
  rw [he i hi (by omega), he j (by omega) hj]
  exact h i j hi hij hj

theorem ins_left {key : Int → Int} {d d' : List Int} {a b i : Nat} (h1 : a + 1 ≤ i) (h2 : i ≤ b) (f1 : ∀ q, a ≤ q → q + 1 < i → d'.getD q 0 = d.getD (q + 1) 0) (f2 : d'.getD (i - 1) 0 = d.getD a 0) (f3 : ∀ q, i ≤ q → q < b → d'.getD q 0 = d.getD q 0)
    (k1 : ∀ k, a < k → k < i → key (d.getD k 0) ≤ key (d.getD a 0)) (k2 : ∀ k, i ≤ k → k < b → key (d.getD a 0) ≤ key (d.getD k 0)) (hs : Sorted key d (a + 1) b) : Sorted key d' a b := by
  intro p q hp hpq hq
  by_cases c1 : p + 1 < i
  · rw [f1 p hp c1]
    by_cases c2 : q + 1 < i
    · rw [f1 q (by omega) c2]; exact hs.le (by omega) (by omega) (by omega)
    · by_cases c3 : q + 1 = i
      · rw [show q = i - 1 from by omega, f2]; exact k1 _ (by omega) (by omega)
      · rw [f3 q (by omega) hq]
        exact Int.le_trans (k1 (p + 1) (by omega) (by omega)) (k2 q (by omega) hq)
  · by_cases c3 : p + 1 = i
    · rw [show p = i - 1 from by omega, f2, f3 q (by omega) hq]; exact k2 q (by omega) hq
    · rw [f3 p (by omega) (by omega), f3 q (by omega) hq]; exact hs.le (by omega) (by omega) hq

theorem ins_right {key : Int → Int} {d d' : List Int} {a m i : Nat} (h1 : a ≤ i) (h2 : i ≤ m) (f1 : ∀ q, i < q → q ≤ m → d'.getD q 0 = d.getD (q - 1) 0) (f2 : d'.getD i 0 = d.getD m 0) (f3 : ∀ q, a ≤ q → q < i → d'.getD q 0 = d.getD q 0)
    (k1 : ∀ k, a ≤ k → k < i → key (d.getD k 0) ≤ key (d.getD m 0)) (k2 : ∀ k, i ≤ k → k < m → key (d.getD m 0) ≤ key (d.getD k 0)) (hs : Sorted key d a m) : Sorted key d' a (m + 1) := by
  intro p q hp hpq hq
  by_cases c1 : p < i
  · rw [f3 p hp c1]
    by_cases c2 : q < i
    · rw [f3 q (by omega) c2]; exact hs.le hp (by omega) (by omega)
    · by_cases c3 : q = i
      · rw [c3, f2]; exact k1 p hp c1
      · rw [f1 q (by omega) (by omega)]
        exact hs.le hp (by omega) (by omega)
  · by_cases c3 : p = i
    · rw [c3, f2, f1 q (by omega) (by omega)]; exact k2 _ (by omega) (by omega)
    · rw [f1 p (by omega) (by omega), f1 q (by omega) (by omega)]; exact hs.le (by omega) (by omega) (by omega)

/-- Behind the rotation both halves are two rows each, and the first half is below the second. -/
theorem sym_main {key : Int → Int} {d d1 : List Int} {a m b s e mid : Nat} (h1 : a ≤ s) (h2 : s ≤ m) (h3 : m ≤ e) (h4 : e ≤ b) (hmid : mid + m = s + e) (s1 : Sorted key d a m) (s2 : Sorted key d m b)
    (x1 : ∀ x y, a ≤ x → x < s → e ≤ y → y < b → key (d.getD x 0) ≤ key (d.getD y 0)) (x2 : ∀ x y, s ≤ x → x < m → m ≤ y → y < e → key (d.getD y 0) ≤ key (d.getD x 0))
    (f : ∀ k, s ≤ k → k < e → d1.getD k 0 = if k < mid then d.getD (m + (k - s)) 0 else d.getD (k - (e - m)) 0) (fo : ∀ k, ¬ (s ≤ k ∧ k < e) → d1.getD k 0 = d.getD k 0) :
    Sorted key d1 a s ∧ Sorted key d1 s mid ∧ Sorted key d1 mid e ∧ Sorted key d1 e b ∧ ∀ x y, a ≤ x → x < mid → mid ≤ y → y < b → key (d1.getD x 0) ≤ key (d1.getD y 0) := by
  refine ⟨(s1.part (Nat.le_refl _) h2).congr (fun i _ hi => fo i (by omega)), ?_, ?_, (s2.part h3 (Nat.le_refl _)).congr (fun i hi _ => fo i (by omega)), ?_⟩
  · intro i j hi hij hj
    rw [f i hi (by omega), f j (by omega) (by omega), if_pos (by omega), if_pos hj]
    exact s2.le (by omega) (by omega) (by omega)
  · intro i j hi hij hj
    rw [f i (by omega) (by omega), f j (by omega) hj, if_neg (by omega), if_neg (by omega)]
    exact s1.le (by omega) (by omega) (by omega)
  · intro x y hx hxm hy hyb
    by_cases c1 : x < s
    · rw [fo x (by omega)]
      by_cases c2 : y < e
      · rw [f y (by omega) c2, if_neg (by omega)]; exact s1.le hx (by omega) (by omega)
      · rw [fo y (by omega)]; exact x1 x y hx c1 (by omega) hyb
    · rw [f x (by omega) (by omega), if_pos hxm]
      by_cases c2 : y < e
      · rw [f y (by omega) c2, if_neg (by omega)]; exact x2 _ _ (by omega) (by omega) (by omega) (by omega)
      · rw [fo y (by omega)]; exact s2.le (by omega) (by omega) hyb

theorem sym_end {key : Int → Int} {d1 d2 d3 : List Int} {a mid b : Nat} (h : Same d1 d2 a mid) (k : Same d2 d3 mid b) (hs : Sorted key d2 a mid) (ks : Sorted key d3 mid b)
    (hx : ∀ x y, a ≤ x → x < mid → mid ≤ y → y < b → key (d1.getD x 0) ≤ key (d1.getD y 0)) : Sorted key d3 a b := by
  intro p q hp hpq hq
  by_cases c1 : q < mid
  · rw [k.out p (by omega), k.out q (by omega)]; exact hs p q hp hpq c1
  · by_cases c2 : p < mid
    · obtain ⟨x, x1, x2, x3⟩ := h.src p hp c2
      obtain ⟨y, y1, y2, y3⟩ := k.src q (by omega) hq
      rw [k.out p (by omega), x3, y3, h.out y (by omega)]
      exact hx x y x1 x2 y1 y2
    · exact ks p q (by omega) hpq hq
end Go.Proofs.Ytkhhiaggmncehaa
