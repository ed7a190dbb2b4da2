/- Merged by program: PsP PsR ShT FDig. -/
import Derived.Test.YtcehpobjnbgpdaaGreatDoorG02
import Derived.Test.YtcehpobjnbgpdaaGreatDoorG10
import Derived.WalkKit
import Derived.WalkMore
import Derived.Deep.RegionHeld3
import Derived.Laws.DeepStrings4
/- Values of a file: plain mathematics: what is read may be, and lies in the bytes; with an error nothing is told. -/
namespace Go.Proofs.YtcehpobjnbgpdaaGreatDoor
set_option linter.unusedVariables false
set_option linter.unusedSimpArgs false

theorem sizL_app : ∀ a b : List VT, sizL (a ++ b) = sizL a + sizL b
  | [], b => by rw [List.nil_append, sizL, Nat.zero_add]
  | t :: a, b => by rw [List.cons_append, sizL_cons, sizL_cons, sizL_app a b, Nat.add_assoc]

theorem siz_insL (key : ByteArray) (x : VT) : ∀ (n : Nat) (l : List VT), l.length ≤ n → sizL (insL key x l) ≤ sizL l + 1 + sizT x := by
  have hn : sizT (nmT key) = 1 := by rw [nmT, sizT_mk]; rfl
  intro n
  induction n with
  | zero =>
    intro l h
    obtain rfl : l = [] := List.length_eq_zero_iff.1 (by omega)
    rw [insL, sizL_cons, sizL_cons, hn]
    omega
  | succ n ih =>
    intro l h
    match l, h with
    | [], _ =>
      rw [insL, sizL_cons, sizL_cons, hn]
      omega
    | [t], _ =>
      rw [insL]
      split
      · rw [sizL_cons, sizL_cons, hn]; omega
      · rw [sizL_cons, sizL_cons, sizL_cons, hn]; simp only [sizL]; omega
    | t :: u :: l, h =>
      rw [insL]
      split
      · rw [sizL_cons, sizL_cons, hn]; omega
      · rw [sizL_cons, sizL_cons, sizL_cons, sizL_cons]
        have := ih l (by simp only [List.length_cons] at h; omega)
        omega

theorem sizL_cut (l : List VT) (a : Nat) : sizL l = sizL (l.take a) + sizL (l.drop a) := by rw [← sizL_app, List.take_append_drop]

theorem siz_putL (key : ByteArray) (x : VT) (l : List VT) : sizL (putL key x l) ≤ sizL l + 1 + sizT x := by
  unfold putL
  split
  · next j _ =>
    unfold replL
    rw [sizL_app, sizL_cons]
    have h1 := sizL_cut l (2 * j + 1)
    have h2 := sizL_drop (l.drop (2 * j + 1)) 1
    rw [List.drop_drop, show 2 * j + 1 + 1 = 2 * j + 2 from rfl] at h2
    omega
  · exact siz_insL key x _ l (Nat.le_refl _)

theorem siz_one (t : VT) : 1 ≤ sizT t := by
  obtain ⟨k, n, s, l⟩ := t
  rw [sizT_mk]; omega

theorem siz_dictF (l : List VT) : ∀ m : Nat, 2 * m ≤ l.length → sizL (dictF (keyAt l) (valAt l) (List.range m)) ≤ sizL (l.take (2 * m))
  | 0, _ => by
    show sizL [] ≤ _
    rw [sizL]; exact Nat.zero_le _
  | m + 1, h => by
    have ih := siz_dictF l m (by omega)
    rw [List.range_succ, dictF_snoc]
    have h1 := siz_putL (keyAt l m) (valAt l m) (dictF (keyAt l) (valAt l) (List.range m))
    have e : l.take (2 * (m + 1)) = l.take (2 * m) ++ [l[2 * m], l[2 * m + 1]] := by
      rw [show 2 * (m + 1) = 2 * m + 1 + 1 by omega, List.take_add_one, List.take_add_one, List.getElem?_eq_getElem (show 2 * m < l.length by omega), List.getElem?_eq_getElem (show 2 * m + 1 < l.length by omega), List.append_assoc]
      rfl
    have hv : valAt l m = l[2 * m + 1] := by
      unfold valAt
      rw [List.getElem?_eq_getElem (show 2 * m + 1 < l.length by omega)]
      rfl
    rw [e, sizL_app, sizL_cons, sizL_cons, ← hv]
    have := siz_one l[2 * m]
    simp only [sizL]
    omega

theorem siz_dictT (l : List VT) : sizL (dictT l) ≤ sizL l := by
  rw [← dictF_T]
  have h1 := siz_dictF l (l.length / 2) (by omega)
  have h2 := sizL_cut l (2 * (l.length / 2))
  omega

theorem dictF_ok {S : Nat → ByteArray} {V : Nat → VT} : ∀ m : Nat, okD none (dictF S V (List.range m))
  | 0 => trivial
  | m + 1 => by
    rw [List.range_succ, dictF_snoc]
    exact okD_put (dictF_ok m)

theorem dictF_mem {S : Nat → ByteArray} {V : Nat → VT} {t : VT} : ∀ m : Nat, t ∈ dictF S V (List.range m) → ∃ j, j < m ∧ (t = nmT (S j) ∨ t = V j)
  | 0, h => by cases h
  | m + 1, h => by
    rw [List.range_succ, dictF_snoc] at h
    rcases put_mem t h with h | h | h
    · exact ⟨m, by omega, .inl h⟩
    · exact ⟨m, by omega, .inr h⟩
    · obtain ⟨j, h1, h2⟩ := dictF_mem m h
      exact ⟨j, by omega, h2⟩

theorem name_text {t : VT} (hk : t.kind = 5) (h : firstT t = 0) : textO t.str := by
  obtain ⟨k, n, s, l⟩ := t
  have hk' : k = 5 := hk
  subst hk'
  rw [firstT_mk] at h
  by_cases h1 : ownO 5 n s l ≠ 0
  · rw [if_pos h1] at h; exact absurd h h1
  · have h2 := Decidable.not_not.1 h1
    rw [own_5] at h2
    by_cases h3 : textO s
    · exact h3
    · rw [if_pos h3] at h2; exact absurd h2 (by decide)

theorem first_nm {key : ByteArray} (h : textO key) : firstT (nmT key) = 0 := by
  have h0 : ownO 5 0 key [] = 0 := by rw [own_5, if_neg (fun h' => h' h)]; exact if_pos ⟨rfl, rfl⟩
  rw [nmT, firstT_mk, h0, if_neg (by decide), if_neg (by decide)]

/-- What is open may be. -/
def mayS : List (Int × List VT) → Prop
  | [] => True
  | (k, l) :: r => (k = 6 ∨ k = 7) ∧ r.length + 1 ≤ 64 ∧ (∀ t ∈ l, firstT t = 0 ∧ depthT t + (r.length + 1) ≤ 64) ∧ (k = 7 → ∀ j t, l[2 * j]? = some t → t.kind = 5) ∧ mayS r

def sizS : List (Int × List VT) → Nat
  | [] => 0
  | (_, l) :: r => sizL l + 1 + sizS r

theorem array_may {l : List VT} {D : Nat} (hD : D + 1 ≤ 64) (hf : ∀ t ∈ l, firstT t = 0 ∧ depthT t + (D + 1) ≤ 64) : firstT (.mk 6 0 ⟨#[]⟩ l) = 0 ∧ depthT (.mk 6 0 ⟨#[]⟩ l) + D ≤ 64 := by
  refine ⟨?_, ?_⟩
  · have h0 : ownO 6 0 ⟨#[]⟩ l = 0 := by rw [own_6]; exact if_pos ⟨rfl, rfl⟩
    rw [firstT_mk, h0, if_neg (by decide), if_pos (.inl rfl)]
    exact firstL_zero.2 (fun t ht => (hf t ht).1)
  · have h1 := (depthL_iff l 1 (64 - D)).2 ⟨by omega, fun t ht => by have := (hf t ht).2; omega⟩
    rw [depthT, if_pos (.inl rfl)]
    omega

theorem dict_may {l : List VT} {D : Nat} (hD : D + 1 ≤ 64) (he : l.length % 2 = 0) (hn : ∀ j t, l[2 * j]? = some t → t.kind = 5) (hf : ∀ t ∈ l, firstT t = 0 ∧ depthT t + (D + 1) ≤ 64) : firstT (.mk 7 0 ⟨#[]⟩ (dictT l)) = 0 ∧ depthT (.mk 7 0 ⟨#[]⟩ (dictT l)) + D ≤ 64 := by
  have hok : okD none (dictT l) := by rw [← dictF_T]; exact dictF_ok _
  have hm : ∀ t ∈ dictT l, firstT t = 0 ∧ depthT t + (D + 1) ≤ 64 := by
    intro t ht
    rw [← dictF_T] at ht
    obtain ⟨j, hj, h⟩ := dictF_mem _ ht
    have h1 : 2 * j + 1 < l.length := by omega
    rcases h with rfl | rfl
    · have hk : keyAt l j = l[2 * j].str := by unfold keyAt; rw [List.getElem?_eq_getElem (show 2 * j < l.length by omega)]; rfl
      have hmem := hf l[2 * j] (List.getElem_mem _)
      rw [hk]
      refine ⟨first_nm (name_text (hn j _ (List.getElem?_eq_getElem _)) hmem.1), ?_⟩
      rw [depth_nm]
      have := (depthT_le l[2 * j]).1
      omega
    · have hv : valAt l j = l[2 * j + 1] := by unfold valAt; rw [List.getElem?_eq_getElem h1]; rfl
      rw [hv]
      exact hf _ (List.getElem_mem _)
  refine ⟨?_, ?_⟩
  · have h0 : ownO 7 0 ⟨#[]⟩ (dictT l) = 0 := by rw [own_7]; exact dict_ok (okD_even hok) (okD_names hok) (okD_rise hok)
    rw [firstT_mk, h0, if_neg (by decide), if_pos (.inr rfl)]
    exact firstL_zero.2 (fun t ht => (hm t ht).1)
  · have h1 := (depthL_iff (dictT l) 1 (64 - D)).2 ⟨by omega, fun t ht => by have := (hm t ht).2; omega⟩
    rw [depth_dict]
    omega

/-- A value that is put where there is room for it. -/
theorem put_may {er : Int} {v : VT} {tz p : Nat} {st : List (Int × List VT)} (hm : mayS st) (hv : er = 0 → firstT v = 0 ∧ depthT v + st.length ≤ 65 ∧ (depthT v + st.length ≤ 64 ∨ depthT v = 1) ∧ sizT v + sizS st ≤ p) (hp : p ≤ tz) :
    (∀ q st', putO er v tz st = .next q st' → mayS st' ∧ sizS st' ≤ tz) ∧ (∀ v' to', putO er v tz st = .done 0 v' to' → firstT v' = 0 ∧ depthT v' ≤ 64 ∧ sizT v' ≤ tz ∧ to' = tz ∧ er = 0) := by
  unfold putO
  by_cases he : er ≠ 0
  · rw [if_pos he]
    exact ⟨fun q st' h => (by cases h), fun v' to' h => (by cases h; exact absurd rfl he)⟩
  rw [if_neg he]
  obtain ⟨h1, h2, h3, h4⟩ := hv (Decidable.not_not.1 he)
  have hez := Decidable.not_not.1 he
  match st, hm, h2, h3, h4 with
  | [], hm, h2, h3, h4 =>
    refine ⟨fun q st' h => (by cases h), fun v' to' h => ?_⟩
    cases h
    simp only [sizS, List.length_nil] at h4 h3
    exact ⟨h1, by omega, by omega, rfl, hez⟩
  | (k, l) :: r, hm, h2, h3, h4 =>
    simp only []
    by_cases hr : roomO ((k, l) :: r) v.kind ≠ 0
    · rw [if_pos hr]
      exact ⟨fun q st' h => (by cases h), fun v' to' h => (by injection h with e1 _ _; exact absurd e1 hr)⟩
    rw [if_neg hr]
    have hr0 := Decidable.not_not.1 hr
    refine ⟨fun q st' h => ?_, fun v' to' h => (by cases h)⟩
    cases h
    obtain ⟨m1, m2, m3, m4, m5⟩ := hm
    unfold roomO at hr0
    simp only [] at hr0
    by_cases hc : k = 7 ∧ l.length % 2 = 0 ∧ v.kind ≠ 5
    · rw [if_pos hc] at hr0; cases hr0
    rw [if_neg hc] at hr0
    by_cases h64 : 64 ≤ r.length + 1
    · rw [if_pos h64] at hr0; cases hr0
    simp only [List.length_cons] at h2 h3
    refine ⟨⟨m1, m2, fun t ht => ?_, fun hk j t hj => ?_, m5⟩, ?_⟩
    · rcases List.mem_append.1 ht with ht | ht
      · exact m3 t ht
      · rw [List.mem_singleton.1 ht]
        exact ⟨h1, by omega⟩
    · by_cases hjl : 2 * j < l.length
      · rw [List.getElem?_append_left hjl] at hj
        exact m4 hk j t hj
      · rw [List.getElem?_append_right (by omega)] at hj
        have hjj : 2 * j - l.length = 0 := by
          have := (List.getElem?_eq_some_iff.1 hj).1
          simp at this
          omega
        rw [hjj] at hj
        simp at hj
        subst hj
        have he2 : l.length % 2 = 0 := by omega
        exact Decidable.not_not.1 (fun hn => hc ⟨hk, he2, hn⟩)
    · simp only [sizS] at h4 ⊢
      rw [sizL_app, sizL_cons]
      simp only [sizL]
      omega

theorem opn_may {kind : Int} {tz p : Nat} {st : List (Int × List VT)} (hk : kind = 6 ∨ kind = 7) (hm : mayS st) (hs : sizS st ≤ p) (hp : p < tz) :
    (∀ q st', opnO kind tz st = .next q st' → mayS st' ∧ sizS st' ≤ tz) ∧ ∀ v' to', opnO kind tz st ≠ .done 0 v' to' := by
  unfold opnO
  by_cases hr : roomO st kind ≠ 0
  · rw [if_pos hr]
    exact ⟨fun q st' h => (by cases h), fun v' to' h => (by injection h with e1 _ _; exact absurd e1 hr)⟩
  rw [if_neg hr]
  refine ⟨fun q st' h => ?_, fun v' to' h => (by cases h)⟩
  cases h
  have hr0 := Decidable.not_not.1 hr
  refine ⟨⟨hk, ?_, fun t ht => (by cases ht), fun _ j t hj => (by simp at hj), hm⟩, by simp only [sizS, sizL]; omega⟩
  match st, hr0 with
  | [], _ => decide
  | (k, l) :: r, hr0 =>
    unfold roomO at hr0
    simp only [] at hr0
    split at hr0
    · cases hr0
    · split at hr0
      · cases hr0
      · simp only [List.length_cons]; omega

theorem pop_may {kind : Int} {p : Nat} {st : List (Int × List VT)} (hm : mayS st) (hs : sizS st ≤ p) (h : (popO st kind).1 = 0) :
    mayS st.tail ∧ firstT (popO st kind).2 = 0 ∧ depthT (popO st kind).2 + st.tail.length ≤ 64 ∧ sizT (popO st kind).2 + sizS st.tail ≤ p := by
  match st, hm, hs, h with
  | [], _, _, h => cases h
  | (k, l) :: r, hm, hs, h =>
    obtain ⟨m1, m2, m3, m4, m5⟩ := hm
    simp only [sizS] at hs
    unfold popO at h ⊢
    simp only [List.tail_cons] at h ⊢
    by_cases h1 : k ≠ kind
    · rw [if_pos h1] at h; cases h
    rw [if_neg h1] at h ⊢
    have hkk := Decidable.not_not.1 h1
    by_cases h2 : kind = 7
    · rw [if_pos h2] at h ⊢
      unfold dicO at h ⊢
      by_cases h3 : l.length % 2 ≠ 0
      · rw [if_pos h3] at h; cases h
      rw [if_neg h3] at h ⊢
      by_cases h4 : (dictT l).length < l.length
      · rw [if_pos h4] at h; cases h
      rw [if_neg h4]
      simp only []
      obtain ⟨d1, d2⟩ := dict_may (D := r.length) m2 (by omega) (m4 (hkk.trans h2)) m3
      have := siz_dictT l
      exact ⟨m5, d1, d2, by rw [sizT_mk]; omega⟩
    · rw [if_neg h2]
      simp only []
      have hk6 : k = 6 := by
        rcases m1 with h | h
        · exact h
        · exact absurd (hkk.symm.trans h) h2
      subst hk6
      obtain ⟨d1, d2⟩ := array_may (D := r.length) m2 m3
      exact ⟨m5, d1, d2, by rw [sizT_mk]; omega⟩

theorem word_may {s : List Nat} (h : (wordO s).1 = 0) : firstT (wordO s).2 = 0 ∧ depthT (wordO s).2 = 1 ∧ sizT (wordO s).2 = 1 := by
  have key : ∀ k n : Int, ownO k n ⟨#[]⟩ [] = 0 → ¬ (k = 6 ∨ k = 7) → firstT (.mk k n ⟨#[]⟩ []) = 0 ∧ depthT (.mk k n ⟨#[]⟩ []) = 1 ∧ sizT (.mk k n ⟨#[]⟩ []) = 1 := fun k n h0 hk =>
    ⟨by rw [firstT_mk, h0, if_neg (by decide), if_neg hk], by rw [depthT, if_neg hk], by rw [sizT_mk]; rfl⟩
  unfold wordO at h ⊢
  split at h
  · next h1 => rw [if_pos h1]; exact key 0 0 (by rw [own_0]; exact if_pos ⟨rfl, rfl, rfl⟩) (by decide)
  · next h1 =>
    rw [if_neg h1]
    split at h
    · next h2 => rw [if_pos h2]; exact key 1 0 (by rw [own_1]; exact if_pos ⟨rfl, rfl, .inl rfl⟩) (by decide)
    · next h2 =>
      rw [if_neg h2]
      split at h
      · next h3 => rw [if_pos h3]; exact key 1 1 (by rw [own_1]; exact if_pos ⟨rfl, rfl, .inr rfl⟩) (by decide)
      · cases h

theorem ref_may {bs : List Nat} {last : Bool} {N : Nat} {t : Tkn} (h : TokV N t) (h0 : (refO bs last t).1 = 0) : firstT (refO bs last t).2.1 = 0 ∧ depthT (refO bs last t).2.1 = 1 ∧ sizT (refO bs last t).2.1 = 1 := by
  have ht := tokV_first h
  unfold refO at h0 ⊢
  split at h0
  · next h1 => rw [if_pos h1]; exact ht
  · next h1 =>
    rw [if_neg h1]
    split at h0
    · cases h0
    · next h2 =>
      rw [if_neg h2]
      split at h0
      · next h3 => rw [if_pos h3]; exact ht
      · next h3 =>
        rw [if_neg h3]
        split at h0
        · cases h0
        · next h4 =>
          rw [if_neg h4]
          simp only []
          have ho : ownO 8 t.vn ⟨#[]⟩ [] = 0 := by rw [own_8]; exact if_pos ⟨rfl, rfl, by omega, by omega⟩
          exact ⟨by rw [firstT_mk, ho, if_neg (by decide), if_neg (by decide)], by rw [depthT, if_neg (by decide)], by rw [sizT_mk]; rfl⟩

theorem step_may {bs : List Nat} {last : Bool} {p : Nat} {st : List (Int × List VT)} (hb : ∀ x ∈ bs, x < 256) (hp : p ≤ bs.length) (hm : mayS st) (hs : sizS st ≤ p) :
    (∀ q st', stepO bs last p st = .next q st' → mayS st' ∧ sizS st' ≤ q) ∧ (∀ v to', stepO bs last p st = .done 0 v to' → firstT v = 0 ∧ depthT v ≤ 64 ∧ sizT v ≤ to' ∧ p < to' ∧ to' ≤ bs.length) := by
  have hlen : st.length ≤ 64 := by
    match st, hm with
    | [], _ => exact Nat.zero_le _
    | (k, l) :: r, hm => exact hm.2.1
  have htl : st.tail.length + 1 ≤ 64 ∨ st = [] := by
    match st, hlen with
    | [], _ => exact .inr rfl
    | x :: r, h => exact .inl h
  unfold stepO actO
  rcases next_tok bs p last hp with ⟨h1, _⟩ | ⟨h1, h2, h3, h4⟩
  · by_cases h0 : (nextO bs p last).1 ≠ 0
    · rw [if_pos h0]
      exact ⟨fun q st' h => (by cases h), fun v to' h => (by injection h with e1 _ _; exact absurd e1 h0)⟩
    · rw [if_neg h0, if_pos h1]
      exact ⟨fun q st' h => (by cases h), fun v to' h => (by cases h)⟩
  rw [if_neg (by rw [h1]; decide), if_neg h2]
  have fin : ∀ {er : Int} {v : VT} {tz : Nat} {s2 : List (Int × List VT)}, p < tz → (er = 0 → tz ≤ bs.length) → mayS s2 → (er = 0 → firstT v = 0 ∧ depthT v + s2.length ≤ 65 ∧ (depthT v + s2.length ≤ 64 ∨ depthT v = 1) ∧ sizT v + sizS s2 ≤ tz) →
      (∀ q st', putO er v tz s2 = .next q st' → mayS st' ∧ sizS st' ≤ q) ∧ (∀ v' to', putO er v tz s2 = .done 0 v' to' → firstT v' = 0 ∧ depthT v' ≤ 64 ∧ sizT v' ≤ to' ∧ p < to' ∧ to' ≤ bs.length) := by
    intro er v tz s2 k1 k2 k3 k4
    obtain ⟨a1, a2⟩ := put_may (p := tz) k3 k4 (Nat.le_refl _)
    refine ⟨fun q st' h => ?_, fun v' to' h => ?_⟩
    · rw [(put_to h).1]; exact a1 q st' h
    · obtain ⟨b1, b2, b3, b4, b5⟩ := a2 v' to' h
      rw [b4]
      exact ⟨b1, b2, b3, k1, k2 b5⟩
  have opn : ∀ {kind : Int}, (kind = 6 ∨ kind = 7) → (∀ q st', opnO kind (nextO bs p last).2.to st = .next q st' → mayS st' ∧ sizS st' ≤ q) ∧ (∀ v' to', opnO kind (nextO bs p last).2.to st = .done 0 v' to' → firstT v' = 0 ∧ depthT v' ≤ 64 ∧ sizT v' ≤ to' ∧ p < to' ∧ to' ≤ bs.length) := by
    intro kind hk
    obtain ⟨a1, a2⟩ := opn_may hk hm hs h3
    exact ⟨fun q st' h => by rw [opn_to h]; exact a1 q st' h, fun v' to' h => absurd h (a2 v' to')⟩
  split
  · exact opn (.inl rfl)
  split
  · exact opn (.inr rfl)
  split
  · refine fin h3 (fun _ => h4) ?_ (fun h => ?_)
    · match st, hm with
      | [], _ => trivial
      | (k, l) :: r, hm => exact hm.2.2.2.2
    · obtain ⟨b1, b2, b3, b4⟩ := pop_may hm hs h
      exact ⟨b2, by omega, .inl b3, by omega⟩
  split
  · refine fin h3 (fun _ => h4) ?_ (fun h => ?_)
    · match st, hm with
      | [], _ => trivial
      | (k, l) :: r, hm => exact hm.2.2.2.2
    · obtain ⟨b1, b2, b3, b4⟩ := pop_may hm hs h
      exact ⟨b2, by omega, .inl b3, by omega⟩
  split
  · refine fin h3 (fun _ => h4) hm (fun h => ?_)
    obtain ⟨b1, b2, b3⟩ := word_may h
    exact ⟨b1, by omega, .inr b2, by omega⟩
  · next k2 k4 k3 k5 k6 =>
    have hk := next_kind bs p last
    have hk1 : (nextO bs p last).2.kind = 1 := by omega
    have hv := next_val bs p last hb h1 hk1
    by_cases h0 : (refO bs last (nextO bs p last).2).1 = 0
    · have hto := ref_to h4 h0
      refine fin (by omega) (fun _ => hto.2) hm (fun h => ?_)
      obtain ⟨b1, b2, b3⟩ := ref_may hv h0
      exact ⟨b1, by omega, .inr b2, by omega⟩
    · unfold putO
      rw [if_pos h0]
      exact ⟨fun q st' h => (by cases h), fun v to' h => (by injection h with e1 _ _; exact absurd e1 h0)⟩

theorem run_may {bs : List Nat} {last : Bool} (hb : ∀ x ∈ bs, x < 256) : ∀ (n p : Nat) (st : List (Int × List VT)), bs.length - p ≤ n → p ≤ bs.length → mayS st → sizS st ≤ p →
    ((runO bs last p st).1 = 0 → firstT (runO bs last p st).2.1 = 0 ∧ depthT (runO bs last p st).2.1 ≤ 64 ∧ sizT (runO bs last p st).2.1 ≤ bs.length ∧ p < (runO bs last p st).2.2 ∧ (runO bs last p st).2.2 ≤ bs.length) := by
  intro n
  induction n with
  | zero =>
    intro p st hn hp hm hs h
    obtain ⟨a1, a2⟩ := step_may (last := last) hb hp hm hs
    cases hst : stepO bs last p st with
    | done er v tz =>
      rw [run_done hst] at h ⊢
      simp only [] at h
      subst h
      obtain ⟨b1, b2, b3, b4, b5⟩ := a2 v tz hst
      exact ⟨b1, b2, by simp only []; omega, b4, b5⟩
    | next q st' =>
      have := step_to hp hst
      omega
  | succ n ih =>
    intro p st hn hp hm hs h
    obtain ⟨a1, a2⟩ := step_may (last := last) hb hp hm hs
    cases hst : stepO bs last p st with
    | done er v tz =>
      rw [run_done hst] at h ⊢
      simp only [] at h
      subst h
      obtain ⟨b1, b2, b3, b4, b5⟩ := a2 v tz hst
      exact ⟨b1, b2, by simp only []; omega, b4, b5⟩
    | next q st' =>
      have hq := step_to hp hst
      rw [run_next hst hq] at h ⊢
      obtain ⟨c1, c2⟩ := a1 q st' hst
      have := ih q st' (by omega) hq.2 c1 c2 h
      exact ⟨this.1, this.2.1, this.2.2.1, by omega, this.2.2.2.2⟩

/-- With an error nothing is told. -/
theorem put_none {er e : Int} {v v' : VT} {tz to' : Nat} {st : List (Int × List VT)} (h : putO er v tz st = .done e v' to') (he : e ≠ 0) : v' = nilT ∧ to' = 0 := by
  unfold putO at h
  split at h
  · cases h; exact ⟨rfl, rfl⟩
  · match st, h with
    | [], h => cases h; exact absurd rfl he
    | (k, l) :: r, h =>
      simp only [] at h
      split at h
      · cases h; exact ⟨rfl, rfl⟩
      · cases h

theorem step_none {bs : List Nat} {last : Bool} {p : Nat} {st : List (Int × List VT)} {e : Int} {v' : VT} {to' : Nat} (h : stepO bs last p st = .done e v' to') (he : e ≠ 0) : v' = nilT ∧ to' = 0 := by
  unfold stepO actO opnO at h
  split at h
  · cases h; exact ⟨rfl, rfl⟩
  split at h
  · cases h; exact ⟨rfl, rfl⟩
  split at h
  · split at h
    · cases h; exact ⟨rfl, rfl⟩
    · cases h
  split at h
  · split at h
    · cases h; exact ⟨rfl, rfl⟩
    · cases h
  split at h
  · exact put_none h he
  split at h
  · exact put_none h he
  split at h
  · exact put_none h he
  · exact put_none h he

theorem run_none {bs : List Nat} {last : Bool} : ∀ (n p : Nat) (st : List (Int × List VT)), bs.length - p ≤ n → p ≤ bs.length → (runO bs last p st).1 ≠ 0 → (runO bs last p st).2.1 = nilT ∧ (runO bs last p st).2.2 = 0 := by
  intro n
  induction n with
  | zero =>
    intro p st hn hp h
    cases hst : stepO bs last p st with
    | done er v tz => rw [run_done hst] at h ⊢; exact step_none hst h
    | next q st' =>
      have := step_to hp hst
      omega
  | succ n ih =>
    intro p st hn hp h
    cases hst : stepO bs last p st with
    | done er v tz => rw [run_done hst] at h ⊢; exact step_none hst h
    | next q st' =>
      have hq := step_to hp hst
      rw [run_next hst hq] at h ⊢
      exact ih q st' (by omega) hq.2 h

/-- What Value tells of any bytes: with an error nothing; else a value that may be, that ends among the bytes. -/
theorem runI_may {bs : List Nat} {last : Bool} {p : Int} (hb : ∀ x ∈ bs, x < 256) :
    ((runI bs last p []).1 ≠ 0 → (runI bs last p []).2.1 = nilT ∧ (runI bs last p []).2.2 = 0) ∧
    ((runI bs last p []).1 = 0 → checkT (runI bs last p []).2.1 = 0 ∧ sizT (runI bs last p []).2.1 ≤ bs.length ∧ p < (runI bs last p []).2.2 ∧ (runI bs last p []).2.2 ≤ bs.length) := by
  unfold runI
  by_cases hp : p < 0 ∨ (bs.length : Int) < p
  · rw [if_pos hp]
    exact ⟨fun _ => ⟨rfl, rfl⟩, fun h => (by cases h)⟩
  · rw [if_neg hp]
    refine ⟨fun h => run_none _ _ _ (Nat.le_refl _) (by omega) h, fun h => ?_⟩
    obtain ⟨a1, a2, a3, a4, a5⟩ := run_may hb _ p.toNat [] (Nat.le_refl _) (by omega) trivial (Nat.zero_le _) h
    exact ⟨by unfold checkT; rw [if_neg (by omega), a1], a3, by omega, a5⟩

theorem runI_stays {b : List Nat} {k : Nat} {last : Bool} (hk : k ≤ b.length) (h : (runI (b.take k) false 0 []).1 ≠ 6) : runI b last 0 [] = runI (b.take k) false 0 [] ∧ runI (b.take k) true 0 [] = runI (b.take k) false 0 [] := by
  have n1 : ∀ n : Nat, ¬ ((0 : Int) < 0 ∨ (n : Int) < 0) := fun n => by omega
  unfold runI at h ⊢
  rw [if_neg (n1 _)] at h
  rw [if_neg (n1 _), if_neg (n1 _), if_neg (n1 _)]
  exact run_stays hk k 0 [] (by omega) (Nat.zero_le _) h

end Go.Proofs.YtcehpobjnbgpdaaGreatDoor

/- Values of a file: plain mathematics: what stands as a value, told by its parts, is what the loop over tokens reads. -/
namespace Go.Proofs.YtcehpobjnbgpdaaGreatDoor
set_option linter.unusedVariables false
set_option linter.unusedSimpArgs false

/-- What goes on behind a token. -/
noncomputable def contO (bs : List Nat) (last : Bool) : Out → Int × VT × Nat
  | .done er v tz => (er, v, tz)
  | .next q st => runO bs last q st

theorem run_cont {bs : List Nat} {last : Bool} {p : Nat} {st : List (Int × List VT)} (hp : p ≤ bs.length) : runO bs last p st = contO bs last (stepO bs last p st) := by
  cases h : stepO bs last p st with
  | done er v tz => rw [run_done h]; rfl
  | next q st' => rw [run_next h (step_to hp h)]; rfl

/-- What a token of a word or of a value is. -/
def leafO (bs : List Nat) (last : Bool) (t : Tkn) : Int × VT × Nat := if t.kind = 6 then ((wordO t.s).1, (wordO t.s).2, t.to) else refO bs last t

mutual
/-- The value v begins with the token t, within so many others, and ends at q. -/
inductive Reads (bs : List Nat) (last : Bool) : Nat → Tkn → VT → Nat → Prop
  | leaf {deep : Nat} {t : Tkn} {v : VT} {q : Nat} (hk : t.kind = 6 ∨ t.kind = 1) (hd : deep < 64) (h : leafO bs last t = (0, v, q)) : Reads bs last deep t v q
  | arr {deep : Nat} {t : Tkn} {l : List VT} {q : Nat} (hk : t.kind = 2) (hd : deep < 64) (h : Elems bs last (deep + 1) t.to l q) : Reads bs last deep t (.mk 6 0 ⟨#[]⟩ l) q
  | dict {deep : Nat} {t : Tkn} {l : List VT} {q : Nat} (hk : t.kind = 4) (hd : deep < 64) (h : Names bs last (deep + 1) t.to [] l q) : Reads bs last deep t (.mk 7 0 ⟨#[]⟩ (dictT l)) q
/-- The values l stand from p on, up to a Close that ends at q. -/
inductive Elems (bs : List Nat) (last : Bool) : Nat → Nat → List VT → Nat → Prop
  | nil {deep p : Nat} {t : Tkn} (hp : p ≤ bs.length) (h : nextO bs p last = (0, t)) (hk : t.kind = 3) : Elems bs last deep p [] t.to
  | cons {deep p q q' : Nat} {t : Tkn} {v : VT} {l : List VT} (hp : p ≤ bs.length) (h : nextO bs p last = (0, t)) (hv : Reads bs last deep t v q) (hl : Elems bs last deep q l q') : Elems bs last deep p (v :: l) q'
/-- Behind the names and values acc stand those of l, up to a CloseDict that ends at q. -/
inductive Names (bs : List Nat) (last : Bool) : Nat → Nat → List VT → List VT → Nat → Prop
  | nil {deep p : Nat} {acc : List VT} {t : Tkn} (hp : p ≤ bs.length) (h : nextO bs p last = (0, t)) (hk : t.kind = 5) : Names bs last deep p acc acc t.to
  | cons {deep p q q' : Nat} {acc l : List VT} {t u : Tkn} {v : VT} (hp : p ≤ bs.length) (hd : deep < 64) (h : nextO bs p last = (0, t)) (hk : t.kind = 1) (hn : t.vk = 5) (hno : findL (sb t.vs) (dictT acc) = none) (h2 : nextO bs t.to last = (0, u)) (hv : Reads bs last deep u v q) (hl : Names bs last deep q (acc ++ [tokV t, v]) l q') : Names bs last deep p acc l q'
end

/-- A name and its value behind others. -/
theorem dictT_snoc {acc : List VT} {n v : VT} (he : acc.length % 2 = 0) : dictT (acc ++ [n, v]) = putL n.str v (dictT acc) := by
  rw [← dictF_T, ← dictF_T]
  have hl : (acc ++ [n, v]).length / 2 = acc.length / 2 + 1 := by rw [List.length_append, show ([n, v] : List VT).length = 2 from rfl]; omega
  rw [hl, List.range_succ, dictF_snoc]
  have hk : ∀ j, j < acc.length / 2 → keyAt (acc ++ [n, v]) j = keyAt acc j ∧ valAt (acc ++ [n, v]) j = valAt acc j := fun j hj => by
    unfold keyAt valAt
    rw [List.getElem?_append_left (by omega), List.getElem?_append_left (by omega)]
    exact ⟨rfl, rfl⟩
  have key : ∀ m, m ≤ acc.length / 2 → dictF (keyAt (acc ++ [n, v])) (valAt (acc ++ [n, v])) (List.range m) = dictF (keyAt acc) (valAt acc) (List.range m) := by
    intro m
    induction m with
    | zero => intro _; rfl
    | succ m ih =>
      intro hm
      rw [List.range_succ, dictF_snoc, dictF_snoc, ih (by omega), (hk m (by omega)).1, (hk m (by omega)).2]
  rw [key _ (Nat.le_refl _)]
  have h1 : keyAt (acc ++ [n, v]) (acc.length / 2) = n.str := by
    unfold keyAt
    rw [List.getElem?_append_right (by omega), show 2 * (acc.length / 2) - acc.length = 0 by omega]
    rfl
  have h2 : valAt (acc ++ [n, v]) (acc.length / 2) = v := by
    unfold valAt
    rw [List.getElem?_append_right (by omega), show 2 * (acc.length / 2) + 1 - acc.length = 1 by omega]
    rfl
  rw [h1, h2]

theorem insL_len (key : ByteArray) (x : VT) : ∀ (n : Nat) (l : List VT), l.length ≤ n → (insL key x l).length = l.length + 2 := by
  intro n
  induction n with
  | zero =>
    intro l h
    obtain rfl : l = [] := List.length_eq_zero_iff.1 (by omega)
    rw [insL]; rfl
  | succ n ih =>
    intro l h
    match l, h with
    | [], _ => rw [insL]; rfl
    | [t], _ =>
      rw [insL]
      split <;> rfl
    | t :: u :: l, h =>
      rw [insL]
      split
      · simp only [List.length_cons]
      · have := ih l (by simp only [List.length_cons] at h; omega)
        simp only [List.length_cons, this]

theorem dict_snoc_len {acc : List VT} {n v : VT} (he : acc.length % 2 = 0) (hl : (dictT acc).length = acc.length) (hno : findL n.str (dictT acc) = none) : (dictT (acc ++ [n, v])).length = (acc ++ [n, v]).length := by
  rw [dictT_snoc he]
  unfold putL
  rw [hno]
  simp only []
  rw [insL_len _ _ _ _ (Nat.le_refl _), hl, List.length_append]
  rfl

theorem put_room {v : VT} {q : Nat} {k : Int} {acc : List VT} {r : List (Int × List VT)} (h : roomO ((k, acc) :: r) v.kind = 0) : putO 0 v q ((k, acc) :: r) = .next q ((k, acc ++ [v]) :: r) := by
  unfold putO
  rw [if_neg (by decide)]
  simp only []
  rw [if_neg (by rw [h]; decide)]

theorem room_6 {acc : List VT} {r : List (Int × List VT)} {k : Int} (hd : r.length + 1 < 64) : roomO ((6, acc) :: r) k = 0 := by
  unfold roomO
  simp only []
  rw [if_neg (fun h => absurd h.1 (by decide)), if_neg (by omega)]

theorem room_7n {acc : List VT} {r : List (Int × List VT)} (hd : r.length + 1 < 64) : roomO ((7, acc) :: r) 5 = 0 := by
  unfold roomO
  simp only []
  rw [if_neg (fun h => h.2.2 rfl), if_neg (by omega)]

theorem room_7v {acc : List VT} {r : List (Int × List VT)} {k : Int} (hd : r.length + 1 < 64) (ho : acc.length % 2 = 1) : roomO ((7, acc) :: r) k = 0 := by
  unfold roomO
  simp only []
  rw [if_neg (fun h => by have := h.2.1; omega), if_neg (by omega)]

theorem reads_deep {bs : List Nat} {last : Bool} {deep q : Nat} {t : Tkn} {v : VT} (h : Reads bs last deep t v q) : deep < 64 := by
  cases h <;> assumption

theorem reads_kind {bs : List Nat} {last : Bool} {deep q : Nat} {t : Tkn} {v : VT} (h : Reads bs last deep t v q) : t.kind = 6 ∨ t.kind = 1 ∨ t.kind = 2 ∨ t.kind = 4 := by
  cases h with
  | leaf hk _ _ => rcases hk with h | h <;> simp [h]
  | arr hk _ _ => simp [hk]
  | dict hk _ _ => simp [hk]

theorem opn_put {bs : List Nat} {last : Bool} {k : Int} {p q : Nat} {v : VT} {st : List (Int × List VT)} (hv : v.kind = k) (h : roomO st k ≠ 0) : opnO k p st = putO 0 v q st := by
  unfold opnO putO
  rw [if_pos h, if_neg (by decide)]
  match st, h with
  | [], h => exact absurd rfl h
  | (k', l) :: r, h =>
    simp only []
    rw [hv, if_pos h]

mutual
theorem run_reads {bs : List Nat} {last : Bool} : ∀ {deep : Nat} {t : Tkn} {v : VT} {q : Nat}, Reads bs last deep t v q → ∀ (p : Nat) (st : List (Int × List VT)), p ≤ bs.length → nextO bs p last = (0, t) → st.length = deep → runO bs last p st = contO bs last (putO 0 v q st)
  | _, t, v, q, .leaf hk hd h, p, st, hp, hn, hst => by
    rw [run_cont hp]
    unfold stepO
    rw [hn]
    unfold actO leafO at *
    rcases hk with hk | hk
    · rw [if_pos hk] at h
      simp only [] at h ⊢
      have h1 : (wordO t.s).1 = 0 := congrArg Prod.fst h
      have h2 : (wordO t.s).2 = v := congrArg (fun x => x.2.1) h
      have h3 : t.to = q := congrArg (fun x => x.2.2) h
      rw [if_neg (by decide), if_neg (by rw [hk]; decide), if_neg (by rw [hk]; decide), if_neg (by rw [hk]; decide), if_neg (by rw [hk]; decide), if_neg (by rw [hk]; decide), if_pos hk, h1, h2, h3]
    · rw [if_neg (by rw [hk]; decide)] at h
      simp only []
      rw [if_neg (by decide), if_neg (by rw [hk]; decide), if_neg (by rw [hk]; decide), if_neg (by rw [hk]; decide), if_neg (by rw [hk]; decide), if_neg (by rw [hk]; decide), if_neg (by rw [hk]; decide), h]
  | _, t, _, q, .arr (l := l) hk hd h, p, st, hp, hn, hst => by
    rw [run_cont hp]
    have hs : stepO bs last p st = opnO 6 t.to st := by
      unfold stepO
      rw [hn]
      unfold actO
      simp only []
      rw [if_neg (by decide), if_neg (by rw [hk]; decide), if_pos hk]
    rw [hs]
    by_cases hr : roomO st 6 = 0
    · have ho : opnO 6 t.to st = .next t.to ((6, []) :: st) := by unfold opnO; rw [if_neg (by rw [hr]; decide)]
      rw [ho]
      show runO bs last t.to ((6, []) :: st) = _
      have := run_elems h [] st (by rw [hst])
      rwa [List.nil_append] at this
    · rw [opn_put (bs := bs) (last := last) (k := 6) (p := t.to) (v := .mk 6 0 ⟨#[]⟩ l) (q := q) rfl hr]
  | _, t, _, q, .dict (l := l) hk hd h, p, st, hp, hn, hst => by
    rw [run_cont hp]
    have hs : stepO bs last p st = opnO 7 t.to st := by
      unfold stepO
      rw [hn]
      unfold actO
      simp only []
      rw [if_neg (by decide), if_neg (by rw [hk]; decide), if_neg (by rw [hk]; decide), if_pos hk]
    rw [hs]
    by_cases hr : roomO st 7 = 0
    · have ho : opnO 7 t.to st = .next t.to ((7, []) :: st) := by unfold opnO; rw [if_neg (by rw [hr]; decide)]
      rw [ho]
      show runO bs last t.to ((7, []) :: st) = _
      exact run_names h st (by rw [hst]) rfl (by unfold dictT; rfl)
    · rw [opn_put (bs := bs) (last := last) (k := 7) (p := t.to) (v := .mk 7 0 ⟨#[]⟩ (dictT l)) (q := q) rfl hr]
theorem run_elems {bs : List Nat} {last : Bool} : ∀ {deep p : Nat} {l : List VT} {q : Nat}, Elems bs last deep p l q → ∀ (acc : List VT) (st : List (Int × List VT)), st.length + 1 = deep → runO bs last p ((6, acc) :: st) = contO bs last (putO 0 (.mk 6 0 ⟨#[]⟩ (acc ++ l)) q st)
  | _, p, _, _, .nil (t := t) hp h hk, acc, st, hst => by
    rw [run_cont hp, List.append_nil]
    unfold stepO
    rw [h]
    unfold actO
    simp only []
    rw [if_neg (by decide), if_neg (by rw [hk]; decide), if_neg (by rw [hk]; decide), if_neg (by rw [hk]; decide), if_pos hk]
    rfl
  | _, p, _, _, .cons (v := v) (q := q) hp h hv hl, acc, st, hst => by
    rw [run_reads hv p _ hp h (by simpa using hst)]
    have hd := reads_deep hv
    rw [put_room (room_6 (by omega))]
    show runO bs last q ((6, acc ++ [v]) :: st) = _
    rw [run_elems hl (acc ++ [v]) st hst, List.append_assoc]
    rfl
theorem run_names {bs : List Nat} {last : Bool} : ∀ {deep p : Nat} {acc l : List VT} {q : Nat}, Names bs last deep p acc l q → ∀ (st : List (Int × List VT)), st.length + 1 = deep → acc.length % 2 = 0 → (dictT acc).length = acc.length → runO bs last p ((7, acc) :: st) = contO bs last (putO 0 (.mk 7 0 ⟨#[]⟩ (dictT l)) q st)
  | _, p, acc, _, _, .nil (t := t) hp h hk, st, hst, he, hln => by
    rw [run_cont hp]
    unfold stepO
    rw [h]
    unfold actO
    simp only []
    rw [if_neg (by decide), if_neg (by rw [hk]; decide), if_neg (by rw [hk]; decide), if_neg (by rw [hk]; decide), if_neg (by rw [hk]; decide), if_pos hk]
    have hp0 : popO ((7, acc) :: st) 7 = (0, .mk 7 0 ⟨#[]⟩ (dictT acc)) := by
      unfold popO
      simp only []
      rw [if_neg (by decide), if_pos trivial]
      unfold dicO
      rw [if_neg (by omega), if_neg (by omega)]
    rw [hp0]
    rfl
  | _, p, acc, l, _, .cons (t := t) (u := u) (v := v) (q := q) hp hd h hk hn hno h2 hv hl, st, hst, he, hln => by
    have hto := next_tok bs p last hp
    rw [h] at hto
    have htl : t.to ≤ bs.length := by
      rcases hto with h0 | h0
      · rw [show t.kind = 0 from h0.1] at hk; cases hk
      · exact h0.2.2.2
    rw [run_cont hp]
    have hs : stepO bs last p ((7, acc) :: st) = putO 0 (tokV t) t.to ((7, acc) :: st) := by
      unfold stepO
      rw [h]
      unfold actO
      simp only []
      rw [if_neg (by decide), if_neg (by rw [hk]; decide), if_neg (by rw [hk]; decide), if_neg (by rw [hk]; decide), if_neg (by rw [hk]; decide), if_neg (by rw [hk]; decide), if_neg (by rw [hk]; decide)]
      have hr : refO bs last t = (0, tokV t, t.to) := by unfold refO; rw [if_pos (by rw [hn]; decide)]
      rw [hr]
    have hk5 : (tokV t).kind = 5 := by show ((t.vk : Nat) : Int) = 5; rw [hn]; rfl
    rw [hs, put_room (by rw [hk5]; exact room_7n (by omega))]
    show runO bs last t.to ((7, acc ++ [tokV t]) :: st) = _
    rw [run_reads hv t.to _ htl h2 (by simpa using hst), put_room (room_7v (by omega) (by rw [List.length_append]; simp; omega))]
    show runO bs last q ((7, acc ++ [tokV t] ++ [v]) :: st) = _
    have e : acc ++ [tokV t] ++ [v] = acc ++ [tokV t, v] := by simp
    rw [e]
    exact run_names hl st hst (by rw [List.length_append]; simp; omega) (dict_snoc_len he hln hno)
end

/-- What stands as a value from a place on is read. -/
theorem runI_reads {bs : List Nat} {last : Bool} {p q : Nat} {t : Tkn} {v : VT} (hp : p ≤ bs.length) (hn : nextO bs p last = (0, t)) (h : Reads bs last 0 t v q) : runI bs last (p : Nat) [] = (0, v, q) := by
  unfold runI
  rw [if_neg (by omega), Int.toNat_natCast, run_reads h p [] hp hn rfl]
  rfl

end Go.Proofs.YtcehpobjnbgpdaaGreatDoor

/- Forms of values: plain mathematics, no program: what is written of a name, a text, a number or a word is the token that stands there. -/
namespace Go.Proofs.YtcehpobjnbgpdaaGreatDoor
set_option linter.unusedVariables false
set_option linter.unusedSimpArgs false

/-- A byte's two digits. -/
def hexC (d : Nat) : Nat := if d < 10 then 48 + d else 87 + d

def hex2 (c : Nat) : List Nat := [hexC (c / 16), hexC (c % 16)]

theorem hexC_D {d : Nat} (h : d < 16) : hexD (hexC d) = some d := by
  unfold hexC hexD
  split
  · rw [if_pos (by omega)]; congr 1; omega
  · rw [if_neg (by omega), if_pos (by omega)]; congr 1; omega

theorem hexC_rg : ∀ d, d < 16 → isRg (hexC d) = true ∧ isSp (hexC d) = false ∧ hexC d ≠ 62 ∧ hexC d ≠ 60 ∧ hexC d < 256 := by decide

/-- A name's form. -/
def nmC (c : Nat) : List Nat := if 32 < c ∧ c < 127 ∧ c ≠ 35 ∧ isDl c = false then [c] else 35 :: hex2 c

def nmL : List Nat → List Nat
  | [] => []
  | c :: s => nmC c ++ nmL s

/-- A text's bytes between brackets, and in hex. -/
def esC (c : Nat) : List Nat := if c = 40 ∨ c = 41 ∨ c = 92 then [92, c] else [c]

def esL : List Nat → List Nat
  | [] => []
  | c :: s => esC c ++ esL s

def hxL : List Nat → List Nat
  | [] => []
  | c :: s => hex2 c ++ hxL s

def fineT (s : List Nat) : Prop := ∀ c ∈ s, 32 ≤ c ∧ c ≤ 126

instance (s : List Nat) : Decidable (fineT s) := inferInstanceAs (Decidable (∀ c ∈ s, 32 ≤ c ∧ c ≤ 126))

def nmF (s : List Nat) : List Nat := 47 :: nmL s

def txF (s : List Nat) : List Nat := if fineT s then 40 :: (esL s ++ [41]) else 60 :: (hxL s ++ [62])

/-- No regular byte stands first. -/
def endsR (l : List Nat) : Prop := ∀ c m, l = c :: m → isRg c = false

theorem rgs_app : ∀ (l m : List Nat), (∀ c ∈ l, isRg c = true) → endsR m → rgs (l ++ m) = l.length := by
  intro l m
  induction l with
  | nil =>
    intro _ hm
    cases m with
    | nil => rfl
    | cons c m =>
      show rgs (c :: m) = 0
      rw [rgs, if_neg (by rw [hm c m rfl]; decide)]
  | cons c l ih =>
    intro hl hm
    show rgs (c :: (l ++ m)) = _
    rw [rgs, if_pos (hl c (List.mem_cons_self ..)), ih (fun d hd => hl d (List.mem_cons_of_mem _ hd)) hm, List.length_cons]

theorem nmC_rg {c : Nat} (h : c < 256) : ∀ d ∈ nmC c, isRg d = true := by
  intro d hd
  unfold nmC at hd
  split at hd
  · next hc =>
    rw [List.mem_singleton] at hd
    subst hd
    unfold isRg
    rw [hc.2.2.2]
    have : isSp d = false := by
      unfold isSp
      simp only [Bool.or_eq_false_iff, beq_eq_false_iff_ne]
      omega
    rw [this]
    rfl
  · unfold hex2 at hd
    simp only [List.mem_cons, List.not_mem_nil, or_false] at hd
    rcases hd with rfl | rfl | rfl
    · decide
    · exact (hexC_rg _ (by omega)).1
    · exact (hexC_rg _ (by omega)).1

theorem nmL_rg : ∀ (s : List Nat), (∀ c ∈ s, c < 256) → ∀ d ∈ nmL s, isRg d = true := by
  intro s
  induction s with
  | nil => intro _ d hd; cases hd
  | cons c s ih =>
    intro hs d hd
    rw [nmL] at hd
    rcases List.mem_append.1 hd with h | h
    · exact nmC_rg (hs c (List.mem_cons_self ..)) d h
    · exact ih (fun x hx => hs x (List.mem_cons_of_mem _ hx)) d h

theorem nameF_nmL : ∀ (s : List Nat), (∀ c ∈ s, c < 256) → nameF (nmL s) = some s := by
  intro s
  induction s with
  | nil => intro _; rw [nmL, nameF]
  | cons c s ih =>
    intro hs
    have hc := hs c (List.mem_cons_self ..)
    have hr := ih (fun x hx => hs x (List.mem_cons_of_mem _ hx))
    rw [nmL]
    unfold nmC
    split
    · next h =>
      show nameF (c :: nmL s) = _
      rw [nameF.eq_def]
      simp only []
      rw [if_pos h.2.2.1, hr]
      rfl
    · show nameF (35 :: hexC (c / 16) :: hexC (c % 16) :: nmL s) = _
      rw [nameF.eq_def]
      simp only []
      rw [if_neg (by decide)]
      simp only [hexC_D (show c / 16 < 16 by omega), hexC_D (show c % 16 < 16 by omega), hr]
      show some ((16 * (c / 16) + c % 16) :: s) = _
      congr 2
      omega

/-- A name's token. -/
theorem tok_nm (p : Nat) (s rest : List Nat) (hs : ∀ c ∈ s, c < 256) (h0 : ∀ c ∈ s, c ≠ 0) (hl : s.length ≤ 127) (hr : endsR rest) :
    tokO true p 47 (nmL s ++ rest) = (0, ⟨1, p, p + 1 + (nmL s).length, 5, 0, s, []⟩) := by
  have hg := rgs_app (nmL s) rest (nmL_rg s hs) hr
  have hn : nameO (nmL s) = (0, s) := by
    unfold nameO
    rw [nameF_nmL s hs]
    simp only []
    rw [if_neg (by rintro (h | h); exact h0 0 h rfl; omega)]
  unfold tokO
  rw [if_neg (by decide), if_neg (by decide), if_neg (fun e => absurd e.1 (by decide)), if_neg (fun e => absurd e.1 (by decide)), if_neg (fun e => absurd e.1 (by decide)), if_neg (by decide), if_neg (by decide), if_pos rfl, if_neg (fun e => absurd e.2 (by decide)), hg, List.take_left' rfl, hn, if_neg (fun e => e rfl)]

theorem txtO_es : ∀ (s rest out : List Nat) (p : Nat), fineT s → txtO true 1 out p (esL s ++ 41 :: rest) = (0, out ++ s, p + (esL s).length + 1) := by
  intro s rest
  induction s with
  | nil =>
    intro out p _
    show txtO true 1 out p (41 :: rest) = _
    rw [txtO_cons, if_neg (by decide), if_neg (by decide), if_neg (by decide), if_pos rfl, if_pos rfl, List.append_nil]
    rfl
  | cons c s ih =>
    intro out p hf
    have hc := hf c (List.mem_cons_self ..)
    have hr := fun o q => ih o q (fun x hx => hf x (List.mem_cons_of_mem _ hx))
    rw [esL]
    by_cases h : c = 40 ∨ c = 41 ∨ c = 92
    · have he : esC c = [92, c] := by unfold esC; rw [if_pos h]
      have hesc : escO true (c :: (esL s ++ 41 :: rest)) = (0, some c, 1) := by
        rw [escO_cons]
        repeat rw [if_neg (by omega)]
        rw [if_pos (by omega)]
      rw [he]
      show txtO true 1 out p (92 :: c :: (esL s ++ 41 :: rest)) = _
      rw [txtO_cons, if_pos rfl, hesc, if_neg (fun e => e rfl)]
      show txtO true 1 (out ++ [c]) (p + 1 + 1) (esL s ++ 41 :: rest) = _
      rw [hr, List.append_assoc]
      simp only [List.singleton_append, List.length_append, List.length_cons, List.length_nil]
      congr 2
      omega
    · have he : esC c = [c] := by unfold esC; rw [if_neg h]
      rw [he]
      show txtO true 1 out p (c :: (esL s ++ 41 :: rest)) = _
      rw [txtO_cons, if_neg (by omega), if_neg (by omega), if_neg (by omega), if_neg (by omega), hr, List.append_assoc]
      simp only [List.singleton_append, List.length_append, List.length_cons, List.length_nil]
      congr 2
      omega

theorem pairs_app : ∀ (n : Nat) (ds es : List Nat), ds.length ≤ n → ds.length % 2 = 0 → pairs (ds ++ es) = pairs ds ++ pairs es := by
  intro n
  induction n using Nat.strongRecOn with
  | _ n ih =>
    intro ds es hn he
    match ds, hn, he with
    | [], _, _ => rfl
    | [a], _, he => simp at he
    | a :: b :: l, hn, he =>
      simp only [List.length_cons] at hn he
      show pairs (a :: b :: (l ++ es)) = _
      rw [pairs, pairs, ih l.length (by omega) l es (Nat.le_refl _) (by omega)]
      rfl

theorem hexO_hx : ∀ (s rest ds : List Nat) (p : Nat), (∀ c ∈ s, c < 256) → ds.length % 2 = 0 → hexO true ds p (hxL s ++ 62 :: rest) = (0, pairs ds ++ s, p + (hxL s).length + 1) := by
  intro s rest
  induction s with
  | nil =>
    intro ds p _ _
    show hexO true ds p (62 :: rest) = _
    rw [hexO, if_pos rfl, List.append_nil]
    rfl
  | cons c s ih =>
    intro ds p hs he
    have hc := hs c (List.mem_cons_self ..)
    have h1 := hexC_rg (c / 16) (by omega)
    have h2 := hexC_rg (c % 16) (by omega)
    show hexO true ds p (hexC (c / 16) :: hexC (c % 16) :: (hxL s ++ 62 :: rest)) = _
    rw [hexO, if_neg h1.2.2.1, if_neg (by rw [h1.2.1]; decide), hexC_D (by omega)]
    simp only []
    rw [hexO, if_neg h2.2.2.1, if_neg (by rw [h2.2.1]; decide), hexC_D (by omega)]
    simp only []
    rw [ih _ _ (fun x hx => hs x (List.mem_cons_of_mem _ hx)) (by simp only [List.length_append, List.length_cons, List.length_nil]; omega), List.append_assoc, pairs_app _ ds _ (Nat.le_refl _) he]
    show (0, (pairs ds ++ [16 * (c / 16) + c % 16]) ++ s, _) = _
    rw [List.append_assoc, show 16 * (c / 16) + c % 16 = c by omega]
    simp only [List.singleton_append, hxL, hex2, List.length_append, List.length_cons, List.length_nil]
    congr 2
    omega

/-- A text's token. -/
theorem tok_tx (p : Nat) (s rest : List Nat) (hs : ∀ c ∈ s, c < 256) :
    ∃ c l, txF s ++ rest = c :: l ∧ (c = 40 ∨ c = 60) ∧ tokO true p c l = (0, ⟨1, p, p + (txF s).length, 4, 0, s, []⟩) := by
  unfold txF
  by_cases h : fineT s
  · rw [if_pos h]
    refine ⟨40, esL s ++ 41 :: rest, by rw [List.cons_append, List.append_assoc]; rfl, .inl rfl, ?_⟩
    have hx := txtO_es s rest [] (p + 1) h
    unfold tokO
    rw [if_neg (by decide), if_neg (by decide), if_neg (fun e => absurd e.1 (by decide)), if_neg (fun e => absurd e.1 (by decide)), if_neg (fun e => absurd e.1 (by decide)), if_neg (by decide), if_pos rfl, hx, if_neg (fun e => e rfl)]
    simp only [List.nil_append, List.length_cons, List.length_append, List.length_nil]
    congr 2
    omega
  · rw [if_neg h]
    refine ⟨60, hxL s ++ 62 :: rest, by rw [List.cons_append, List.append_assoc]; rfl, .inr rfl, ?_⟩
    have hx := hexO_hx s rest [] (p + 1) hs rfl
    have hh : (hxL s ++ 62 :: rest).head? ≠ some 60 := by
      cases s with
      | nil => simp [hxL]
      | cons c s =>
        show some (hexC (c / 16)) ≠ some 60
        intro e
        exact (hexC_rg (c / 16) (by have := hs c (List.mem_cons_self ..); omega)).2.2.2.1 (Option.some.inj e)
    rw [tokO_60 true p _ hh, hx, if_neg (fun e => e rfl)]
    simp only [pairs, List.nil_append, List.length_cons, List.length_append, List.length_nil]
    congr 2
    omega

/-- A number's bytes. -/
theorem num_rg {n : List Nat} (h : ∀ d ∈ n, isD d ∨ d = 45 ∨ d = 46) : ∀ c ∈ n, isRg c = true := by
  intro c hc
  have hk : isD c ∨ c = 45 ∨ c = 46 := h c hc
  have : ∀ c, c < 58 → (48 ≤ c ∨ c = 45 ∨ c = 46) → isRg c = true := by decide
  unfold isD at hk
  exact this c (by omega) (by omega)

theorem sign_b (x : Int) : ∀ d ∈ signL x, isD d ∨ d = 45 ∨ d = 46 := by
  intro d hd
  unfold signL at hd
  split at hd
  · rw [List.mem_singleton] at hd; exact .inr (.inl hd)
  · cases hd

theorem int_b (x : Int) : ∀ d ∈ intTxt x, isD d ∨ d = 45 ∨ d = 46 := by
  intro d hd
  rcases List.mem_append.1 hd with h | h
  · exact sign_b x d h
  · exact .inl (txt_dig _ _ d h)

theorem real_b (x : Int) : ∀ d ∈ realTxt x, isD d ∨ d = 45 ∨ d = 46 := by
  intro d hd
  rcases List.mem_append.1 hd with h | h
  · exact sign_b x d h
  rcases List.mem_append.1 h with h | h
  · exact .inl (txt_dig _ _ d h)
  rcases List.mem_cons.1 h with h | h
  · exact .inr (.inr h)
  · exact .inl (trimZ_dig 5 _ (txt_dig _ _) d h)

theorem sign_cons (x : Int) (n : Nat) (m : List Nat) : ∃ c l, signL x ++ (txt n 1 ++ m) = c :: l ∧ (isD c ∨ c = 45) := by
  unfold signL
  split
  · exact ⟨45, _, rfl, .inr rfl⟩
  · obtain ⟨c, l, e, hc⟩ := txt_cons n
    exact ⟨c, l ++ m, by rw [e]; rfl, .inl hc⟩

theorem int_cons (x : Int) : ∃ c l, intTxt x = c :: l ∧ (isD c ∨ c = 45) := by
  have := sign_cons x x.natAbs []
  rwa [List.append_nil] at this

theorem real_cons (x : Int) : ∃ c l, realTxt x = c :: l ∧ (isD c ∨ c = 45) := sign_cons x _ _

/-- A number's token. -/
theorem tok_num {p c : Nat} {n l rest : List Nat} {k : Nat} {x : Int} (hn : n = c :: l) (hc : isD c ∨ c = 45) (hb : ∀ d ∈ n, isD d ∨ d = 45 ∨ d = 46) (ho : numOf n = (0, k, x)) (hr : endsR rest) :
    tokO true p c (l ++ rest) = (0, ⟨1, p, p + n.length, k, x, [], []⟩) := by
  have hrg := num_rg hb
  subst hn
  have hg := rgs_app l rest (fun d hd => hrg d (List.mem_cons_of_mem _ hd)) hr
  have h1 := hrg c (List.mem_cons_self ..)
  unfold isD at hc
  have hdl : ¬ isDl c = true := by
    intro e
    unfold isRg at h1
    rw [e] at h1
    simp at h1
  have hnm : isNm c = true := by
    unfold isNm
    rcases hc with hc | rfl
    · simp [hc.1, hc.2]
    · rfl
  have ht : (c :: (l ++ rest)).take (l.length + 1) = c :: l := by rw [List.take_succ_cons, List.take_left' rfl]
  unfold tokO
  rw [if_neg (by omega), if_neg (by omega), if_neg (fun e => by omega), if_neg (fun e => by omega), if_neg (fun e => absurd e.2.2 (by decide)), if_neg (by omega), if_neg (by omega), if_neg (by omega), if_neg hdl, if_neg (fun e => absurd e.2 (by decide)), if_pos hnm, hg, ht, ho, if_neg (fun e => e rfl)]
  simp only [List.length_cons]
  congr 2
  omega

/-- A word's token. -/
theorem tok_wd {p c : Nat} {l rest : List Nat} (hc : c = 110 ∨ c = 116 ∨ c = 102 ∨ c = 82) (hl : ∀ d ∈ l, isRg d = true) (hr : endsR rest) :
    tokO true p c (l ++ rest) = (0, ⟨6, p, p + 1 + l.length, 0, 0, [], c :: l⟩) := by
  have hg := rgs_app l rest hl hr
  have hdl : ¬ isDl c = true := by rcases hc with rfl | rfl | rfl | rfl <;> decide
  have hnm : ¬ isNm c = true := by rcases hc with rfl | rfl | rfl | rfl <;> decide
  have ht : (c :: (l ++ rest)).take (l.length + 1) = c :: l := by rw [List.take_succ_cons, List.take_left' rfl]
  unfold tokO
  rw [if_neg (by omega), if_neg (by omega), if_neg (fun e => by omega), if_neg (fun e => by omega), if_neg (fun e => absurd e.2.2 (by decide)), if_neg (by omega), if_neg (by omega), if_neg (by omega), if_neg hdl, if_neg (fun e => absurd e.2 (by decide)), if_neg hnm, hg, ht]

/-- The token that stands behind at most one space. -/
theorem next_at {bs l : List Nat} {p j c : Nat} {last : Bool} (hb : bs.drop p = List.replicate j 32 ++ c :: l) (hs : isSp c = false) (h37 : c ≠ 37) : nextO bs p last = tokO last (p + j) c l := by
  have hk : ∀ (j : Nat), skp false (List.replicate j 32 ++ c :: l) = j := by
    intro j
    induction j with
    | zero => rw [List.replicate_zero, List.nil_append, skp, if_neg (by rw [hs]; decide), if_neg h37]
    | succ j ih => rw [List.replicate_succ, List.cons_append, skp, if_pos (by decide), ih]
  have hd : bs.drop (p + j) = c :: l := by
    rw [← List.drop_drop, hb]
    exact List.drop_left' (by rw [List.length_replicate])
  unfold nextO
  rw [hb, hk, hd]

end Go.Proofs.YtcehpobjnbgpdaaGreatDoor

/- Show's digits: a byte's two digits are put to the form. -/
namespace Go.Proofs.YtcehpobjnbgpdaaGreatDoor
open Go.RowKit
set_option linter.unusedVariables false
set_option linter.unusedSimpArgs false

/-- The digits' text. -/
def hexS : ByteArray := ⟨#[48, 49, 50, 51, 52, 53, 54, 55, 56, 57, 97, 98, 99, 100, 101, 102]⟩

theorem hexS_at : ∀ d, d < 16 → ∀ h : d < (ByteArray.mk #[48, 49, 50, 51, 52, 53, 54, 55, 56, 57, 97, 98, 99, 100, 101, 102]).size, ((ByteArray.mk #[48, 49, 50, 51, 52, 53, 54, 55, 56, 57, 97, 98, 99, 100, 101, 102])[d]'h).toNat = hexC d := by decide

theorem hexC_lt {d : Nat} (h : d < 16) : hexC d < 256 := (hexC_rg d h).2.2.2.2

theorem hex2_lt {c : Nat} (h : c < 256) : ∀ d ∈ hex2 c, d < 256 := by
  intro d hd
  unfold hex2 at hd
  simp only [List.mem_cons, List.not_mem_nil, or_false] at hd
  rcases hd with rfl | rfl
  · exact hexC_lt (by omega)
  · exact hexC_lt (by omega)

theorem and15 (c : Nat) (h : c < 256) : bits .and .u8 (c : Int) 15 = (c % 16 : Nat) := by
  have hx : (BitVec.ofInt 8 (c : Int) &&& BitVec.ofInt 8 15).toNat = c % 16 := by
    rw [BitVec.toNat_and]
    have e7 : (BitVec.ofInt 8 15).toNat = 2 ^ 4 - 1 := by decide
    rw [e7, Nat.and_two_pow_sub_one_eq_mod, BitVec.toNat_ofInt]
    omega
  show IntKind.u8.wrap ((BitVec.ofInt 8 (c : Int) &&& BitVec.ofInt 8 15).toNat : Int) = _
  rw [hx]
  unfold IntKind.wrap
  simp [IntKind.bits, IntKind.signed]
  omega

set_option maxHeartbeats 400000 in
set_option maxRecDepth 100000 in
theorem fdig_any {V w W : World} {R : Nat} {out : List Nat} (h : FB V w W R out) (c : Nat) (hc : c < 256) (hl : out.length ≤ 500000) :
    Calls Tryz.prog 88 #[.pointer (some ⟨R, 0, none⟩), .int .u8 (c : Nat)] W fun e W' => e = .returned (.tuple #[]) ∧ FB V w W' R (out ++ hex2 c) := by
  obtain ⟨a, ha⟩ : ∃ a, a = c / 16 := ⟨_, rfl⟩
  obtain ⟨b, hb⟩ : ∃ b, b = c % 16 := ⟨_, rfl⟩
  have ha16 : a < 16 := by omega
  have hb16 : b < 16 := by omega
  have HE := keepf (show out ++ hex2 c = (out ++ [hexC a]) ++ [hexC b] from by rw [ha, hb]; unfold hex2; simp)
  have HW := keepf (fun V X o x (hX : FB V w X R o) (ho : o.length ≤ 1000000) => fpwbyte_any hX x ho)
  have g1 := hexS_at a ha16
  have g2 := hexS_at b hb16
  have s2 : c >>> 4 = a := by rw [ha, Nat.shiftRight_eq_div_pow]
  have s1 : (c : Int) / 16 = (a : Int) := by omega
  have s3 : bits .and .u8 (c : Int) 15 = (b : Int) := by rw [hb]; exact and15 c hc
  have HF := keepf h
  have i1 : (a : Int) < 16 := by omega
  have i2 : (b : Int) < 16 := by omega
  clear h ha hb
  go_enter Tryz.func88, Tryz.ntmps88
  go_wp2
  go_region_held3 (fun _ => True) (first | trivial | (go_keep; done)) ((go_at_call 86; with_reducible refine (HW.out _ _ _ (hexC a) HF.out.drew (by omega)).mono ?_; rintro e w3 ⟨rfl, h3⟩; have HF2 := keepf h3; clear h3))
  go_wp2
  have hl2 : (out ++ [hexC a]).length ≤ 1000000 := by simp; omega
  go_region_held3 (fun _ => True) (first | trivial | (go_keep; done)) ((go_at_call 86; with_reducible refine (HW.out _ _ _ (hexC b) HF2.out.drew hl2).mono ?_; rintro e w4 ⟨rfl, h4⟩; have HF3 := keepf h4; clear h4))
  go_wp2
  go_end0
  exact ⟨rfl, by rw [HE.out]; exact HF3.out⟩

end Go.Proofs.YtcehpobjnbgpdaaGreatDoor

