/- Merged by program: PsP QWks RVt8 QStaW LexIn QMayW. -/
import Derived.Test.YtaababegolfjeaaG01
import Derived.Test.YtaababegolfjeaaG02
import Derived.Test.YtaababegolfjeaaG04
import Derived.Test.YtaababegolfjeaaG08
import Derived.Test.YtaababegolfjeaaG10
import Derived.Test.YtaababegolfjeaaG23
import Derived.Laws.BytesArg
import Derived.Lib.SlBytesConst
import Derived.OpenShut
import Derived.Deep.Slices
import Derived.Lib.SmallJoins
/- Values of a file: plain mathematics: what is read may be, and lies in the bytes; with an error nothing is told. -/
namespace Go.Proofs.Ytaababegolfjeaa
set_option linter.unusedVariables false
set_option linter.unusedSimpArgs false

theorem sizL_app : ∀ a b : List VT, sizL (a ++ b) = sizL a + sizL b
  | [], b => by rw [List.nil_append, sizL, Nat.zero_add]
  | t :: a, b => by rw [List.cons_append, sizL_cons, sizL_cons, sizL_app a b, Nat.add_assoc]

theorem siz_insL (key : ByteArray) (x : VT) : ∀ (n : Nat) (l : List VT), l.length ≤ n → sizL (insL key x l) ≤ sizL l + 1 + sizT x := by
  have hn : sizT (nmT key) = 1 := by rw [nmT, sizT_mk]; rfl
  intro n
  induction n with
  | zero =>
    intro l h
    obtain rfl : l = [] := List.length_eq_zero_iff.1 (by omega)
    rw [insL, sizL_cons, sizL_cons, hn]
    omega
  | succ n ih =>
    intro l h
    match l, h with
    | [], _ =>
      rw [insL, sizL_cons, sizL_cons, hn]
      omega
    | [t], _ =>
      rw [insL]
      split
      · rw [sizL_cons, sizL_cons, hn]; omega
      · rw [sizL_cons, sizL_cons, sizL_cons, hn]; simp only [sizL]; omega
    | t :: u :: l, h =>
      rw [insL]
      split
      · rw [sizL_cons, sizL_cons, hn]; omega
      · rw [sizL_cons, sizL_cons, sizL_cons, sizL_cons]
        have := ih l (by simp only [List.length_cons] at h; omega)
        omega

theorem sizL_cut (l : List VT) (a : Nat) : sizL l = sizL (l.take a) + sizL (l.drop a) := by rw [← sizL_app, List.take_append_drop]

theorem siz_putL (key : ByteArray) (x : VT) (l : List VT) : sizL (putL key x l) ≤ sizL l + 1 + sizT x := by
  unfold putL
  split
  · next j _ =>
    unfold replL
    rw [sizL_app, sizL_cons]
    have h1 := sizL_cut l (2 * j + 1)
    have h2 := sizL_drop (l.drop (2 * j + 1)) 1
    rw [List.drop_drop, show 2 * j + 1 + 1 = 2 * j + 2 from rfl] at h2
    omega
  · exact siz_insL key x _ l (Nat.le_refl _)

theorem siz_one (t : VT) : 1 ≤ sizT t := by
  obtain ⟨k, n, s, l⟩ := t
  rw [sizT_mk]; omega

theorem siz_dictF (l : List VT) : ∀ m : Nat, 2 * m ≤ l.length → sizL (dictF (keyAt l) (valAt l) (List.range m)) ≤ sizL (l.take (2 * m))
  | 0, _ => by
    show sizL [] ≤ _
    rw [sizL]; exact Nat.zero_le _
  | m + 1, h => by
    have ih := siz_dictF l m (by omega)
    rw [List.range_succ, dictF_snoc]
    have h1 := siz_putL (keyAt l m) (valAt l m) (dictF (keyAt l) (valAt l) (List.range m))
    have e : l.take (2 * (m + 1)) = l.take (2 * m) ++ [l[2 * m], l[2 * m + 1]] := by
      rw [show 2 * (m + 1) = 2 * m + 1 + 1 by omega, List.take_add_one, List.take_add_one, List.getElem?_eq_getElem (show 2 * m < l.length by omega), List.getElem?_eq_getElem (show 2 * m + 1 < l.length by omega), List.append_assoc]
      rfl
    have hv : valAt l m = l[2 * m + 1] := by
      unfold valAt
      rw [List.getElem?_eq_getElem (show 2 * m + 1 < l.length by omega)]
      rfl
    rw [e, sizL_app, sizL_cons, sizL_cons, ← hv]
    have := siz_one l[2 * m]
    simp only [sizL]
    omega

theorem siz_dictT (l : List VT) : sizL (dictT l) ≤ sizL l := by
  rw [← dictF_T]
  have h1 := siz_dictF l (l.length / 2) (by omega)
  have h2 := sizL_cut l (2 * (l.length / 2))
  omega

theorem dictF_ok {S : Nat → ByteArray} {V : Nat → VT} : ∀ m : Nat, okD none (dictF S V (List.range m))
  | 0 => trivial
  | m + 1 => by
    rw [List.range_succ, dictF_snoc]
    exact okD_put (dictF_ok m)

theorem dictF_mem {S : Nat → ByteArray} {V : Nat → VT} {t : VT} : ∀ m : Nat, t ∈ dictF S V (List.range m) → ∃ j, j < m ∧ (t = nmT (S j) ∨ t = V j)
  | 0, h => by cases h
  | m + 1, h => by
    rw [List.range_succ, dictF_snoc] at h
    rcases put_mem t h with h | h | h
    · exact ⟨m, by omega, .inl h⟩
    · exact ⟨m, by omega, .inr h⟩
    · obtain ⟨j, h1, h2⟩ := dictF_mem m h
      exact ⟨j, by omega, h2⟩

theorem name_text {t : VT} (hk : t.kind = 5) (h : firstT t = 0) : textO t.str := by
  obtain ⟨k, n, s, l⟩ := t
  have hk' : k = 5 := hk
  subst hk'
  rw [firstT_mk] at h
  by_cases h1 : ownO 5 n s l ≠ 0
  · rw [if_pos h1] at h; exact absurd h h1
  · have h2 := Decidable.not_not.1 h1
    rw [own_5] at h2
    by_cases h3 : textO s
    · exact h3
    · rw [if_pos h3] at h2; exact absurd h2 (by decide)

theorem first_nm {key : ByteArray} (h : textO key) : firstT (nmT key) = 0 := by
  have h0 : ownO 5 0 key [] = 0 := by rw [own_5, if_neg (fun h' => h' h)]; exact if_pos ⟨rfl, rfl⟩
  rw [nmT, firstT_mk, h0, if_neg (by decide), if_neg (by decide)]

/-- What is open may be. -/
def mayS : List (Int × List VT) → Prop
  | [] => True
  | (k, l) :: r => (k = 6 ∨ k = 7) ∧ r.length + 1 ≤ 64 ∧ (∀ t ∈ l, firstT t = 0 ∧ depthT t + (r.length + 1) ≤ 64) ∧ (k = 7 → ∀ j t, l[2 * j]? = some t → t.kind = 5) ∧ mayS r

def sizS : List (Int × List VT) → Nat
  | [] => 0
  | (_, l) :: r => sizL l + 1 + sizS r

theorem array_may {l : List VT} {D : Nat} (hD : D + 1 ≤ 64) (hf : ∀ t ∈ l, firstT t = 0 ∧ depthT t + (D + 1) ≤ 64) : firstT (.mk 6 0 ⟨#[]⟩ l) = 0 ∧ depthT (.mk 6 0 ⟨#[]⟩ l) + D ≤ 64 := by
  refine ⟨?_, ?_⟩
  · have h0 : ownO 6 0 ⟨#[]⟩ l = 0 := by rw [own_6]; exact if_pos ⟨rfl, rfl⟩
    rw [firstT_mk, h0, if_neg (by decide), if_pos (.inl rfl)]
    exact firstL_zero.2 (fun t ht => (hf t ht).1)
  · have h1 := (depthL_iff l 1 (64 - D)).2 ⟨by omega, fun t ht => by have := (hf t ht).2; omega⟩
    rw [depthT, if_pos (.inl rfl)]
    omega

theorem dict_may {l : List VT} {D : Nat} (hD : D + 1 ≤ 64) (he : l.length % 2 = 0) (hn : ∀ j t, l[2 * j]? = some t → t.kind = 5) (hf : ∀ t ∈ l, firstT t = 0 ∧ depthT t + (D + 1) ≤ 64) : firstT (.mk 7 0 ⟨#[]⟩ (dictT l)) = 0 ∧ depthT (.mk 7 0 ⟨#[]⟩ (dictT l)) + D ≤ 64 := by
  have hok : okD none (dictT l) := by rw [← dictF_T]; exact dictF_ok _
  have hm : ∀ t ∈ dictT l, firstT t = 0 ∧ depthT t + (D + 1) ≤ 64 := by
    intro t ht
    rw [← dictF_T] at ht
    obtain ⟨j, hj, h⟩ := dictF_mem _ ht
    have h1 : 2 * j + 1 < l.length := by omega
    rcases h with rfl | rfl
    · have hk : keyAt l j = l[2 * j].str := by unfold keyAt; rw [List.getElem?_eq_getElem (show 2 * j < l.length by omega)]; rfl
      have hmem := hf l[2 * j] (List.getElem_mem _)
      rw [hk]
      refine ⟨first_nm (name_text (hn j _ (List.getElem?_eq_getElem _)) hmem.1), ?_⟩
      rw [depth_nm]
      have := (depthT_le l[2 * j]).1
      omega
    · have hv : valAt l j = l[2 * j + 1] := by unfold valAt; rw [List.getElem?_eq_getElem h1]; rfl
      rw [hv]
      exact hf _ (List.getElem_mem _)
  refine ⟨?_, ?_⟩
  · have h0 : ownO 7 0 ⟨#[]⟩ (dictT l) = 0 := by rw [own_7]; exact dict_ok (okD_even hok) (okD_names hok) (okD_rise hok)
    rw [firstT_mk, h0, if_neg (by decide), if_pos (.inr rfl)]
    exact firstL_zero.2 (fun t ht => (hm t ht).1)
  · have h1 := (depthL_iff (dictT l) 1 (64 - D)).2 ⟨by omega, fun t ht => by have := (hm t ht).2; omega⟩
    rw [depth_dict]
    omega

/-- A value that is put where there is room for it. -/
theorem put_may {er : Int} {v : VT} {tz p : Nat} {st : List (Int × List VT)} (hm : mayS st) (hv : er = 0 → firstT v = 0 ∧ depthT v + st.length ≤ 65 ∧ (depthT v + st.length ≤ 64 ∨ depthT v = 1) ∧ sizT v + sizS st ≤ p) (hp : p ≤ tz) :
    (∀ q st', putO er v tz st = .next q st' → mayS st' ∧ sizS st' ≤ tz) ∧ (∀ v' to', putO er v tz st = .done 0 v' to' → firstT v' = 0 ∧ depthT v' ≤ 64 ∧ sizT v' ≤ tz ∧ to' = tz ∧ er = 0) := by
  unfold putO
  by_cases he : er ≠ 0
  · rw [if_pos he]
    exact ⟨fun q st' h => (by cases h), fun v' to' h => (by cases h; exact absurd rfl he)⟩
  rw [if_neg he]
  obtain ⟨h1, h2, h3, h4⟩ := hv (Decidable.not_not.1 he)
  have hez := Decidable.not_not.1 he
  match st, hm, h2, h3, h4 with
  | [], hm, h2, h3, h4 =>
    refine ⟨fun q st' h => (by cases h), fun v' to' h => ?_⟩
    cases h
    simp only [sizS, List.length_nil] at h4 h3
    exact ⟨h1, by omega, by omega, rfl, hez⟩
  | (k, l) :: r, hm, h2, h3, h4 =>
    simp only []
    by_cases hr : roomO ((k, l) :: r) v.kind ≠ 0
    · rw [if_pos hr]
      exact ⟨fun q st' h => (by cases h), fun v' to' h => (by injection h with e1 _ _; exact absurd e1 hr)⟩
    rw [if_neg hr]
    have hr0 := Decidable.not_not.1 hr
    refine ⟨fun q st' h => ?_, fun v' to' h => (by cases h)⟩
    cases h
    obtain ⟨m1, m2, m3, m4, m5⟩ := hm
    unfold roomO at hr0
    simp only [] at hr0
    by_cases hc : k = 7 ∧ l.length % 2 = 0 ∧ v.kind ≠ 5
    · rw [if_pos hc] at hr0; cases hr0
    rw [if_neg hc] at hr0
    by_cases h64 : 64 ≤ r.length + 1
    · rw [if_pos h64] at hr0; cases hr0
    simp only [List.length_cons] at h2 h3
    refine ⟨⟨m1, m2, fun t ht => ?_, fun hk j t hj => ?_, m5⟩, ?_⟩
    · rcases List.mem_append.1 ht with ht | ht
      · exact m3 t ht
      · rw [List.mem_singleton.1 ht]
        exact ⟨h1, by omega⟩
    · by_cases hjl : 2 * j < l.length
      · rw [List.getElem?_append_left hjl] at hj
        exact m4 hk j t hj
      · rw [List.getElem?_append_right (by omega)] at hj
        have hjj : 2 * j - l.length = 0 := by
          have := (List.getElem?_eq_some_iff.1 hj).1
          simp at this
          omega
        rw [hjj] at hj
        simp at hj
        subst hj
        have he2 : l.length % 2 = 0 := by omega
        exact Decidable.not_not.1 (fun hn => hc ⟨hk, he2, hn⟩)
    · simp only [sizS] at h4 ⊢
      rw [sizL_app, sizL_cons]
      simp only [sizL]
      omega

theorem opn_may {kind : Int} {tz p : Nat} {st : List (Int × List VT)} (hk : kind = 6 ∨ kind = 7) (hm : mayS st) (hs : sizS st ≤ p) (hp : p < tz) :
    (∀ q st', opnO kind tz st = .next q st' → mayS st' ∧ sizS st' ≤ tz) ∧ ∀ v' to', opnO kind tz st ≠ .done 0 v' to' := by
  unfold opnO
  by_cases hr : roomO st kind ≠ 0
  · rw [if_pos hr]
    exact ⟨fun q st' h => (by cases h), fun v' to' h => (by injection h with e1 _ _; exact absurd e1 hr)⟩
  rw [if_neg hr]
  refine ⟨fun q st' h => ?_, fun v' to' h => (by cases h)⟩
  cases h
  have hr0 := Decidable.not_not.1 hr
  refine ⟨⟨hk, ?_, fun t ht => (by cases ht), fun _ j t hj => (by simp at hj), hm⟩, by simp only [sizS, sizL]; omega⟩
  match st, hr0 with
  | [], _ => decide
  | (k, l) :: r, hr0 =>
    unfold roomO at hr0
    simp only [] at hr0
    split at hr0
    · cases hr0
    · split at hr0
      · cases hr0
      · simp only [List.length_cons]; omega

theorem pop_may {kind : Int} {p : Nat} {st : List (Int × List VT)} (hm : mayS st) (hs : sizS st ≤ p) (h : (popO st kind).1 = 0) :
    mayS st.tail ∧ firstT (popO st kind).2 = 0 ∧ depthT (popO st kind).2 + st.tail.length ≤ 64 ∧ sizT (popO st kind).2 + sizS st.tail ≤ p := by
  match st, hm, hs, h with
  | [], _, _, h => cases h
  | (k, l) :: r, hm, hs, h =>
    obtain ⟨m1, m2, m3, m4, m5⟩ := hm
    simp only [sizS] at hs
    unfold popO at h ⊢
    simp only [List.tail_cons] at h ⊢
    by_cases h1 : k ≠ kind
    · rw [if_pos h1] at h; cases h
    rw [if_neg h1] at h ⊢
    have hkk := Decidable.not_not.1 h1
    by_cases h2 : kind = 7
    · rw [if_pos h2] at h ⊢
      unfold dicO at h ⊢
      by_cases h3 : l.length % 2 ≠ 0
      · rw [if_pos h3] at h; cases h
      rw [if_neg h3] at h ⊢
      by_cases h4 : (dictT l).length < l.length
      · rw [if_pos h4] at h; cases h
      rw [if_neg h4]
      simp only []
      obtain ⟨d1, d2⟩ := dict_may (D := r.length) m2 (by omega) (m4 (hkk.trans h2)) m3
      have := siz_dictT l
      exact ⟨m5, d1, d2, by rw [sizT_mk]; omega⟩
    · rw [if_neg h2]
      simp only []
      have hk6 : k = 6 := by
        rcases m1 with h | h
        · exact h
        · exact absurd (hkk.symm.trans h) h2
      subst hk6
      obtain ⟨d1, d2⟩ := array_may (D := r.length) m2 m3
      exact ⟨m5, d1, d2, by rw [sizT_mk]; omega⟩

theorem word_may {s : List Nat} (h : (wordO s).1 = 0) : firstT (wordO s).2 = 0 ∧ depthT (wordO s).2 = 1 ∧ sizT (wordO s).2 = 1 := by
  have key : ∀ k n : Int, ownO k n ⟨#[]⟩ [] = 0 → ¬ (k = 6 ∨ k = 7) → firstT (.mk k n ⟨#[]⟩ []) = 0 ∧ depthT (.mk k n ⟨#[]⟩ []) = 1 ∧ sizT (.mk k n ⟨#[]⟩ []) = 1 := fun k n h0 hk =>
    ⟨by rw [firstT_mk, h0, if_neg (by decide), if_neg hk], by rw [depthT, if_neg hk], by rw [sizT_mk]; rfl⟩
  unfold wordO at h ⊢
  split at h
  · next h1 => rw [if_pos h1]; exact key 0 0 (by rw [own_0]; exact if_pos ⟨rfl, rfl, rfl⟩) (by decide)
  · next h1 =>
    rw [if_neg h1]
    split at h
    · next h2 => rw [if_pos h2]; exact key 1 0 (by rw [own_1]; exact if_pos ⟨rfl, rfl, .inl rfl⟩) (by decide)
    · next h2 =>
      rw [if_neg h2]
      split at h
      · next h3 => rw [if_pos h3]; exact key 1 1 (by rw [own_1]; exact if_pos ⟨rfl, rfl, .inr rfl⟩) (by decide)
      · cases h

theorem ref_may {bs : List Nat} {last : Bool} {N : Nat} {t : Tkn} (h : TokV N t) (h0 : (refO bs last t).1 = 0) : firstT (refO bs last t).2.1 = 0 ∧ depthT (refO bs last t).2.1 = 1 ∧ sizT (refO bs last t).2.1 = 1 := by
  have ht := tokV_first h
  unfold refO at h0 ⊢
  split at h0
  · next h1 => rw [if_pos h1]; exact ht
  · next h1 =>
    rw [if_neg h1]
    split at h0
    · cases h0
    · next h2 =>
      rw [if_neg h2]
      split at h0
      · next h3 => rw [if_pos h3]; exact ht
      · next h3 =>
        rw [if_neg h3]
        split at h0
        · cases h0
        · next h4 =>
          rw [if_neg h4]
          simp only []
          have ho : ownO 8 t.vn ⟨#[]⟩ [] = 0 := by rw [own_8]; exact if_pos ⟨rfl, rfl, by omega, by omega⟩
          exact ⟨by rw [firstT_mk, ho, if_neg (by decide), if_neg (by decide)], by rw [depthT, if_neg (by decide)], by rw [sizT_mk]; rfl⟩

theorem step_may {bs : List Nat} {last : Bool} {p : Nat} {st : List (Int × List VT)} (hb : ∀ x ∈ bs, x < 256) (hp : p ≤ bs.length) (hm : mayS st) (hs : sizS st ≤ p) :
    (∀ q st', stepO bs last p st = .next q st' → mayS st' ∧ sizS st' ≤ q) ∧ (∀ v to', stepO bs last p st = .done 0 v to' → firstT v = 0 ∧ depthT v ≤ 64 ∧ sizT v ≤ to' ∧ p < to' ∧ to' ≤ bs.length) := by
  have hlen : st.length ≤ 64 := by
    match st, hm with
    | [], _ => exact Nat.zero_le _
    | (k, l) :: r, hm => exact hm.2.1
  have htl : st.tail.length + 1 ≤ 64 ∨ st = [] := by
    match st, hlen with
    | [], _ => exact .inr rfl
    | x :: r, h => exact .inl h
  unfold stepO actO
  rcases next_tok bs p last hp with ⟨h1, _⟩ | ⟨h1, h2, h3, h4⟩
  · by_cases h0 : (nextO bs p last).1 ≠ 0
    · rw [if_pos h0]
      exact ⟨fun q st' h => (by cases h), fun v to' h => (by injection h with e1 _ _; exact absurd e1 h0)⟩
    · rw [if_neg h0, if_pos h1]
      exact ⟨fun q st' h => (by cases h), fun v to' h => (by cases h)⟩
  rw [if_neg (by rw [h1]; decide), if_neg h2]
  have fin : ∀ {er : Int} {v : VT} {tz : Nat} {s2 : List (Int × List VT)}, p < tz → (er = 0 → tz ≤ bs.length) → mayS s2 → (er = 0 → firstT v = 0 ∧ depthT v + s2.length ≤ 65 ∧ (depthT v + s2.length ≤ 64 ∨ depthT v = 1) ∧ sizT v + sizS s2 ≤ tz) →
      (∀ q st', putO er v tz s2 = .next q st' → mayS st' ∧ sizS st' ≤ q) ∧ (∀ v' to', putO er v tz s2 = .done 0 v' to' → firstT v' = 0 ∧ depthT v' ≤ 64 ∧ sizT v' ≤ to' ∧ p < to' ∧ to' ≤ bs.length) := by
    intro er v tz s2 k1 k2 k3 k4
    obtain ⟨a1, a2⟩ := put_may (p := tz) k3 k4 (Nat.le_refl _)
    refine ⟨fun q st' h => ?_, fun v' to' h => ?_⟩
    · rw [(put_to h).1]; exact a1 q st' h
    · obtain ⟨b1, b2, b3, b4, b5⟩ := a2 v' to' h
      rw [b4]
      exact ⟨b1, b2, b3, k1, k2 b5⟩
  have opn : ∀ {kind : Int}, (kind = 6 ∨ kind = 7) → (∀ q st', opnO kind (nextO bs p last).2.to st = .next q st' → mayS st' ∧ sizS st' ≤ q) ∧ (∀ v' to', opnO kind (nextO bs p last).2.to st = .done 0 v' to' → firstT v' = 0 ∧ depthT v' ≤ 64 ∧ sizT v' ≤ to' ∧ p < to' ∧ to' ≤ bs.length) := by
    intro kind hk
    obtain ⟨a1, a2⟩ := opn_may hk hm hs h3
    exact ⟨fun q st' h => by rw [opn_to h]; exact a1 q st' h, fun v' to' h => absurd h (a2 v' to')⟩
  split
  · exact opn (.inl rfl)
  split
  · exact opn (.inr rfl)
  split
  · refine fin h3 (fun _ => h4) ?_ (fun h => ?_)
    · match st, hm with
      | [], _ => trivial
      | (k, l) :: r, hm => exact hm.2.2.2.2
    · obtain ⟨b1, b2, b3, b4⟩ := pop_may hm hs h
      exact ⟨b2, by omega, .inl b3, by omega⟩
  split
  · refine fin h3 (fun _ => h4) ?_ (fun h => ?_)
    · match st, hm with
      | [], _ => trivial
      | (k, l) :: r, hm => exact hm.2.2.2.2
    · obtain ⟨b1, b2, b3, b4⟩ := pop_may hm hs h
      exact ⟨b2, by omega, .inl b3, by omega⟩
  split
  · refine fin h3 (fun _ => h4) hm (fun h => ?_)
    obtain ⟨b1, b2, b3⟩ := word_may h
    exact ⟨b1, by omega, .inr b2, by omega⟩
  · next k2 k4 k3 k5 k6 =>
    have hk := next_kind bs p last
    have hk1 : (nextO bs p last).2.kind = 1 := by omega
    have hv := next_val bs p last hb h1 hk1
    by_cases h0 : (refO bs last (nextO bs p last).2).1 = 0
    · have hto := ref_to h4 h0
      refine fin (by omega) (fun _ => hto.2) hm (fun h => ?_)
      obtain ⟨b1, b2, b3⟩ := ref_may hv h0
      exact ⟨b1, by omega, .inr b2, by omega⟩
    · unfold putO
      rw [if_pos h0]
      exact ⟨fun q st' h => (by cases h), fun v to' h => (by injection h with e1 _ _; exact absurd e1 h0)⟩

theorem run_may {bs : List Nat} {last : Bool} (hb : ∀ x ∈ bs, x < 256) : ∀ (n p : Nat) (st : List (Int × List VT)), bs.length - p ≤ n → p ≤ bs.length → mayS st → sizS st ≤ p →
    ((runO bs last p st).1 = 0 → firstT (runO bs last p st).2.1 = 0 ∧ depthT (runO bs last p st).2.1 ≤ 64 ∧ sizT (runO bs last p st).2.1 ≤ bs.length ∧ p < (runO bs last p st).2.2 ∧ (runO bs last p st).2.2 ≤ bs.length) := by
  intro n
  induction n with
  | zero =>
    intro p st hn hp hm hs h
    obtain ⟨a1, a2⟩ := step_may (last := last) hb hp hm hs
    cases hst : stepO bs last p st with
    | done er v tz =>
      rw [run_done hst] at h ⊢
      simp only [] at h
      subst h
      obtain ⟨b1, b2, b3, b4, b5⟩ := a2 v tz hst
      exact ⟨b1, b2, by simp only []; omega, b4, b5⟩
    | next q st' =>
      have := step_to hp hst
      omega
  | succ n ih =>
    intro p st hn hp hm hs h
    obtain ⟨a1, a2⟩ := step_may (last := last) hb hp hm hs
    cases hst : stepO bs last p st with
    | done er v tz =>
      rw [run_done hst] at h ⊢
      simp only [] at h
      subst h
      obtain ⟨b1, b2, b3, b4, b5⟩ := a2 v tz hst
      exact ⟨b1, b2, by simp only []; omega, b4, b5⟩
    | next q st' =>
      have hq := step_to hp hst
      rw [run_next hst hq] at h ⊢
      obtain ⟨c1, c2⟩ := a1 q st' hst
      have := ih q st' (by omega) hq.2 c1 c2 h
      exact ⟨this.1, this.2.1, this.2.2.1, by omega, this.2.2.2.2⟩

/-- With an error nothing is told. -/
theorem put_none {er e : Int} {v v' : VT} {tz to' : Nat} {st : List (Int × List VT)} (h : putO er v tz st = .done e v' to') (he : e ≠ 0) : v' = nilT ∧ to' = 0 := by
  unfold putO at h
  split at h
  · cases h; exact ⟨rfl, rfl⟩
  · match st, h with
    | [], h => cases h; exact absurd rfl he
    | (k, l) :: r, h =>
      simp only [] at h
      split at h
      · cases h; exact ⟨rfl, rfl⟩
      · cases h

theorem step_none {bs : List Nat} {last : Bool} {p : Nat} {st : List (Int × List VT)} {e : Int} {v' : VT} {to' : Nat} (h : stepO bs last p st = .done e v' to') (he : e ≠ 0) : v' = nilT ∧ to' = 0 := by
  unfold stepO actO opnO at h
  split at h
  · cases h; exact ⟨rfl, rfl⟩
  split at h
  · cases h; exact ⟨rfl, rfl⟩
  split at h
  · split at h
    · cases h; exact ⟨rfl, rfl⟩
    · cases h
  split at h
  · split at h
    · cases h; exact ⟨rfl, rfl⟩
    · cases h
  split at h
  · exact put_none h he
  split at h
  · exact put_none h he
  split at h
  · exact put_none h he
  · exact put_none h he

theorem run_none {bs : List Nat} {last : Bool} : ∀ (n p : Nat) (st : List (Int × List VT)), bs.length - p ≤ n → p ≤ bs.length → (runO bs last p st).1 ≠ 0 → (runO bs last p st).2.1 = nilT ∧ (runO bs last p st).2.2 = 0 := by
  intro n
  induction n with
  | zero =>
    intro p st hn hp h
    cases hst : stepO bs last p st with
    | done er v tz => rw [run_done hst] at h ⊢; exact step_none hst h
    | next q st' =>
      have := step_to hp hst
      omega
  | succ n ih =>
    intro p st hn hp h
    cases hst : stepO bs last p st with
    | done er v tz => rw [run_done hst] at h ⊢; exact step_none hst h
    | next q st' =>
      have hq := step_to hp hst
      rw [run_next hst hq] at h ⊢
      exact ih q st' (by omega) hq.2 h

/-- What Value tells of any bytes: with an error nothing; else a value that may be, that ends among the bytes. -/
theorem runI_may {bs : List Nat} {last : Bool} {p : Int} (hb : ∀ x ∈ bs, x < 256) :
    ((runI bs last p []).1 ≠ 0 → (runI bs last p []).2.1 = nilT ∧ (runI bs last p []).2.2 = 0) ∧
    ((runI bs last p []).1 = 0 → checkT (runI bs last p []).2.1 = 0 ∧ sizT (runI bs last p []).2.1 ≤ bs.length ∧ p < (runI bs last p []).2.2 ∧ (runI bs last p []).2.2 ≤ bs.length) := by
  unfold runI
  by_cases hp : p < 0 ∨ (bs.length : Int) < p
  · rw [if_pos hp]
    exact ⟨fun _ => ⟨rfl, rfl⟩, fun h => (by cases h)⟩
  · rw [if_neg hp]
    refine ⟨fun h => run_none _ _ _ (Nat.le_refl _) (by omega) h, fun h => ?_⟩
    obtain ⟨a1, a2, a3, a4, a5⟩ := run_may hb _ p.toNat [] (Nat.le_refl _) (by omega) trivial (Nat.zero_le _) h
    exact ⟨by unfold checkT; rw [if_neg (by omega), a1], a3, by omega, a5⟩

theorem runI_stays {b : List Nat} {k : Nat} {last : Bool} (hk : k ≤ b.length) (h : (runI (b.take k) false 0 []).1 ≠ 6) : runI b last 0 [] = runI (b.take k) false 0 [] ∧ runI (b.take k) true 0 [] = runI (b.take k) false 0 [] := by
  have n1 : ∀ n : Nat, ¬ ((0 : Int) < 0 ∨ (n : Int) < 0) := fun n => by omega
  unfold runI at h ⊢
  rw [if_neg (n1 _)] at h
  rw [if_neg (n1 _), if_neg (n1 _), if_neg (n1 _)]
  exact run_stays hk k 0 [] (by omega) (Nat.zero_le _) h

end Go.Proofs.Ytaababegolfjeaa

/- The small question that every statement of stage 12 asks (written by mkqwks.py). -/
namespace Go.Proofs.Ytaababegolfjeaa
open Go.RowKit
set_option linter.unusedVariables false
set_option linter.unusedSimpArgs false

theorem src_mark12 {w : World} (cs : Array Value) (t : TypeId) (fr : Nat × Nat) {n m size : Nat} (h : n = w.heap.size) (hs : cs.size = m * size) : Src (w.alloc (.cells cs t fr)) size (some ⟨n, 0, none⟩) m m cs.toList := by
  subst h
  refine ⟨by simpa using hs, fun h => (by cases h), fun ad hA j u hu => ?_⟩
  cases hA
  have hb := heap_alloc_new w (.cells cs t fr)
  have hc := cell_of_row (w.alloc (.cells cs t fr)) w.heap.size j cs t fr hb
  rw [← Array.getElem?_toList, hu] at hc
  by_cases hj : j = 0
  · subst hj; simpa [Addr.add] using hc
  · simpa [Addr.add, hj] using hc

set_option maxRecDepth 100000 in
theorem pw_1 : runI [91, 49, 32, 48, 32, 82, 32, 51, 93, 32] false 0 [] = (0, (.mk 6 0 ⟨#[]⟩ [(.mk 8 1 ⟨#[]⟩ []), (.mk 2 3 ⟨#[]⟩ [])]), 9) := by
  have s1 : actO [91, 49, 32, 48, 32, 82, 32, 51, 93, 32] false (nextA [91, 49, 32, 48, 32, 82, 32, 51, 93, 32] 0 false) [] = .next 1 [(6, [])] := by rfl
  have s2 : actO [91, 49, 32, 48, 32, 82, 32, 51, 93, 32] false (nextA [91, 49, 32, 48, 32, 82, 32, 51, 93, 32] ((1 : Nat) : Int) false) [(6, [])] = .next 6 [(6, [(.mk 8 1 ⟨#[]⟩ [])])] := by rfl
  have s3 : actO [91, 49, 32, 48, 32, 82, 32, 51, 93, 32] false (nextA [91, 49, 32, 48, 32, 82, 32, 51, 93, 32] ((6 : Nat) : Int) false) [(6, [(.mk 8 1 ⟨#[]⟩ [])])] = .next 8 [(6, [(.mk 8 1 ⟨#[]⟩ []), (.mk 2 3 ⟨#[]⟩ [])])] := by rfl
  have s4 : actO [91, 49, 32, 48, 32, 82, 32, 51, 93, 32] false (nextA [91, 49, 32, 48, 32, 82, 32, 51, 93, 32] ((8 : Nat) : Int) false) [(6, [(.mk 8 1 ⟨#[]⟩ []), (.mk 2 3 ⟨#[]⟩ [])])] = .done 0 (.mk 6 0 ⟨#[]⟩ [(.mk 8 1 ⟨#[]⟩ []), (.mk 2 3 ⟨#[]⟩ [])]) 9 := by rfl
  rw [(runI_next s1).1, (runI_next s2).1, (runI_next s3).1, runI_done s4]

set_option maxRecDepth 100000 in
theorem pw_2 : runI [91, 49, 32, 50, 32, 82, 32, 51, 93] true 0 [] = (26, nilT, 0) := by
  have s1 : actO [91, 49, 32, 50, 32, 82, 32, 51, 93] true (nextA [91, 49, 32, 50, 32, 82, 32, 51, 93] 0 true) [] = .next 1 [(6, [])] := by rfl
  have s2 : actO [91, 49, 32, 50, 32, 82, 32, 51, 93] true (nextA [91, 49, 32, 50, 32, 82, 32, 51, 93] ((1 : Nat) : Int) true) [(6, [])] = .done 26 nilT 0 := by rfl
  rw [(runI_next s1).1, runI_done s2]

theorem pv_1 (w : World) : Calls Try.prog 6 #[.slice (some ⟨w.heap.size, 0, none⟩) 10 10, .int .i64 0, .bool false] (w.alloc (.cells #[.int .u8 91, .int .u8 49, .int .u8 32, .int .u8 48, .int .u8 32, .int .u8 82, .int .u8 32, .int .u8 51, .int .u8 93, .int .u8 32] 5 (10, 11))) fun e w' => ∃ (b off cp : Nat), e = .returned (.tuple #[.agg #[.int .i64 6, .int .i64 0, .string ⟨#[]⟩, .slice (some ⟨b, off, none⟩) 2 cp], .int .i64 9, .int .i64 0]) ∧ 2 ≤ cp ∧ w'.cell? ⟨b, off, none⟩ = some (.int .i64 8) ∧ Chg NoS (w.alloc (.cells #[.int .u8 91, .int .u8 49, .int .u8 32, .int .u8 48, .int .u8 32, .int .u8 82, .int .u8 32, .int .u8 51, .int .u8 93, .int .u8 32] 5 (10, 11))) w' := by
  have h := qval_any [91, 49, 32, 48, 32, 82, 32, 51, 93, 32] (some ⟨w.heap.size, 0, none⟩) 10 0 false _ (src_mark12 #[.int .u8 91, .int .u8 49, .int .u8 32, .int .u8 48, .int .u8 32, .int .u8 82, .int .u8 32, .int .u8 51, .int .u8 93, .int .u8 32] 5 (10, 11) rfl rfl) (by decide) (by decide) (by decide)
  rw [pw_1] at h
  refine Calls.mono h ?_
  rintro e w' ⟨v, rfl, hv, hc⟩
  simp only [] at hv
  obtain ⟨h1, h2, h3, hg, hl, hr⟩ := hv.inv
  obtain ⟨b, off, hA⟩ := hr.start
  rw [hA] at hr
  obtain ⟨e1, c0, c1, c2, c3, hv1, _⟩ := hr.plain
  have hk := (val_eq hv1).1
  obtain ⟨k, n, s, A, len, cap⟩ := v
  simp only [] at h1 h2 h3 hl hA
  subst h1 h2 h3 hA
  simp at hl
  subst hl
  have hcap := hg.cap
  simp only [] at hcap
  refine ⟨b, off, cap, rfl, hcap, ?_, hc⟩
  rw [hk, show VT.kind (.mk 8 1 ⟨#[]⟩ []) = 8 from rfl] at c0
  simpa using c0

theorem pv_2 (w : World) : Calls Try.prog 6 #[.slice (some ⟨w.heap.size, 0, none⟩) 9 9, .int .i64 0, .bool true] (w.alloc (.cells #[.int .u8 91, .int .u8 49, .int .u8 32, .int .u8 50, .int .u8 32, .int .u8 82, .int .u8 32, .int .u8 51, .int .u8 93] 5 (9, 10))) fun e w' => ∃ v : VC, e = .returned (.tuple #[v.val, .int .i64 0, .int .i64 26]) ∧ Chg NoS (w.alloc (.cells #[.int .u8 91, .int .u8 49, .int .u8 32, .int .u8 50, .int .u8 32, .int .u8 82, .int .u8 32, .int .u8 51, .int .u8 93] 5 (9, 10))) w' := by
  have h := qval_any [91, 49, 32, 50, 32, 82, 32, 51, 93] (some ⟨w.heap.size, 0, none⟩) 9 0 true _ (src_mark12 #[.int .u8 91, .int .u8 49, .int .u8 32, .int .u8 50, .int .u8 32, .int .u8 82, .int .u8 32, .int .u8 51, .int .u8 93] 5 (9, 10) rfl rfl) (by decide) (by decide) (by decide)
  rw [pw_2] at h
  refine Calls.mono h ?_
  rintro e w' ⟨v, rfl, hv, hc⟩
  exact ⟨v, rfl, hc⟩

set_option maxHeartbeats 4000000 in
set_option maxRecDepth 100000 in
theorem works_any12 (w : World) : Calls Try.prog 5 #[] w fun e w' => e = .returned (.bool true) ∧ Chg NoS w w' := by
  have hcc1 : ∀ W : World, (convert 22 22 (.slice (some ⟨W.heap.size, 0, none⟩) 10 10)).run Try.prog (W.alloc (.cells #[.int .u8 91, .int .u8 49, .int .u8 32, .int .u8 48, .int .u8 32, .int .u8 82, .int .u8 32, .int .u8 51, .int .u8 93, .int .u8 32] 5)) = .ok (.slice (some ⟨W.heap.size, 0, none⟩) 10 10) (W.alloc (.cells #[.int .u8 91, .int .u8 49, .int .u8 32, .int .u8 48, .int .u8 32, .int .u8 82, .int .u8 32, .int .u8 51, .int .u8 93, .int .u8 32] 5 (10, 11))) := fun W => Lib.run_convert_bytes_const W 22 5 _ 10 10 Try.underlying22 Try.underlying5
  have hcc2 : ∀ W : World, (convert 22 22 (.slice (some ⟨W.heap.size, 0, none⟩) 9 9)).run Try.prog (W.alloc (.cells #[.int .u8 91, .int .u8 49, .int .u8 32, .int .u8 50, .int .u8 32, .int .u8 82, .int .u8 32, .int .u8 51, .int .u8 93] 5)) = .ok (.slice (some ⟨W.heap.size, 0, none⟩) 9 9) (W.alloc (.cells #[.int .u8 91, .int .u8 49, .int .u8 32, .int .u8 50, .int .u8 32, .int .u8 82, .int .u8 32, .int .u8 51, .int .u8 93] 5 (9, 10))) := fun W => Lib.run_convert_bytes_const W 22 5 _ 9 9 Try.underlying22 Try.underlying5
  have H1 := keepf (fun W => pv_1 W)
  have H2 := keepf (fun W => pv_2 W)
  go_enter Try.func5, Try.ntmps5
  go_upto_region 2 with (go_at_call 6; refine (H1.out _).mono ?_; rintro e w2 ⟨b, off, cp, rfl, hcp, hcell, hc2⟩; have HC2 := keepf (((Chg.refl NoS w).alloc _).trans hc2 (fun _ _ e => e)); have HCE := keepf hcell; clear hc2 hcell)
  have HB2 := keepf (Blk.new w2 27 #[.int .i64 6, .int .i64 0, .string ⟨#[]⟩, .slice (some ⟨b, off, none⟩) 2 cp])
  have HA := (Chg.refl NoS w2).alloc (.cells #[.int .i64 6, .int .i64 0, .string ⟨#[]⟩, .slice (some ⟨b, off, none⟩) 2 cp] 27)
  have HC3 := keepf (HC2.out.trans HA (fun _ _ e => e))
  have HCE3 := keepf ((HA.cell (p := ⟨b, off, none⟩) (cell_lt HCE.out) (fun e => e)).trans HCE.out)
  obtain ⟨W, hW⟩ : ∃ W, W = w2.alloc (.cells #[.int .i64 6, .int .i64 0, .string ⟨#[]⟩, .slice (some ⟨b, off, none⟩) 2 cp] 27) := ⟨_, rfl⟩
  obtain ⟨g, hg⟩ : ∃ g, g = w2.heap.size := ⟨_, rfl⟩
  rw [← hW] at HB2 HC3 HCE3
  rw [← hg] at HB2
  rw [← hW, ← hg]
  clear hW hg hcc1 HA
  go_upto_region 3 with (go_at_call 6; refine (H2.out _).mono ?_; rintro e w3 ⟨v, rfl, hc3⟩; have HCC := keepf (((Chg.refl NoS W).alloc _).trans hc3 (fun _ _ e => e)); clear hc3; obtain ⟨vk, vn, vs, vA, vl, vc⟩ := v; unfold VC.val; simp only [])
  have HA := (HCC.out.alloc (.cells #[.int .i64 vk, .int .i64 vn, .string vs, .slice vA vl vc] 27))
  have HB4 := keepf (HB2.out.chg HA (fun e => e))
  have HC5 := keepf (HC3.out.trans HA (fun _ _ e => e))
  have hce := (HA.cell (p := ⟨b, off, none⟩) (cell_lt HCE3.out) (fun e => e)).trans HCE3.out
  obtain ⟨W4, hW⟩ : ∃ W4, W4 = w3.alloc (.cells #[.int .i64 vk, .int .i64 vn, .string vs, .slice vA vl vc] 27) := ⟨_, rfl⟩
  rw [← hW] at HB4 HC5 hce ⊢
  clear hW hcc2 HA HCC
  obtain ⟨q0, q1, q2, q3, _, _, _, _⟩ := HB4.out.cl4
  go_wp2_with fail
  go_ret
  exact ⟨rfl, HC5.out⟩

end Go.Proofs.Ytaababegolfjeaa

/- The document's own Same, and the law's small and numbers. -/
namespace Go.Proofs.Ytaababegolfjeaa
open Go.RowKit
set_option linter.unusedVariables false
set_option linter.unusedSimpArgs false

theorem ret_vb {a b : Bool} (h : a = b) : Ending.returned (.bool a) = .returned (.bool b) := by rw [h]

set_option maxHeartbeats 1000000 in
theorem rsame11_any (t t' : VT) (c c' : VC) (w : World) (hv : ValIs w t c) (hv' : ValIs w t' c') :
    Calls Try.prog 7 #[c.val, c'.val] w fun e w' => e = .returned (.bool (decide (cmpT t t' = 0))) ∧ Chg NoS w w' := by
  have HC := keepf (fun W (h : ValIs W t c) (h' : ValIs W t' c') => rcmp_any t t' c c' W h h')
  have HV := keepf hv
  have HV' := keepf hv'
  obtain ⟨z, hz⟩ : ∃ z, cmpT t t' = z := ⟨_, rfl⟩
  rw [hz] at HC ⊢
  obtain ⟨k, n, s, A, len, cap⟩ := c
  obtain ⟨k', n', s', A', len', cap'⟩ := c'
  unfold VC.val at HC ⊢
  simp only [] at HC ⊢
  clear hv hv' hz
  have HB := keepf ((Blk.new w 27 #[.int .i64 k, .int .i64 n, .string s, .slice A len cap]).alloc (.cells #[.int .i64 k', .int .i64 n', .string s', .slice A' len' cap'] 27))
  have HB' := keepf (Blk.new (w.alloc (.cells #[.int .i64 k, .int .i64 n, .string s, .slice A len cap] 27)) 27 #[.int .i64 k', .int .i64 n', .string s', .slice A' len' cap'])
  have hs1 : (w.alloc (.cells #[.int .i64 k, .int .i64 n, .string s, .slice A len cap] 27)).heap.size = w.heap.size + 1 := by simp
  rw [hs1] at HB'
  have HC0 := keepf (((Chg.refl NoS w).alloc (.cells #[.int .i64 k, .int .i64 n, .string s, .slice A len cap] 27)).alloc (.cells #[.int .i64 k', .int .i64 n', .string s', .slice A' len' cap'] 27))
  by_cases h0 : z = 0
  · subst h0
    go_enter Try.func7, Try.ntmps7
    go_upto_region 1 with fail
    obtain ⟨W0, hW⟩ : ∃ W, W = ((w.alloc (.cells #[.int .i64 k, .int .i64 n, .string s, .slice A len cap] 27)).alloc (.cells #[.int .i64 k', .int .i64 n', .string s', .slice A' len' cap'] 27)) := ⟨_, rfl⟩
    rw [← hW] at HB HB' HC0 ⊢
    clear hW hs1
    have p0 := HB.out.cell 0
    have p1 := HB.out.cell 1
    have p2 := HB.out.cell 2
    have p3 := HB.out.cell 3
    have q0 := HB'.out.cell 0
    have q1 := HB'.out.cell 1
    have q2 := HB'.out.cell 2
    have q3 := HB'.out.cell 3
    simp at p0 p1 p2 p3 q0 q1 q2 q3
    go_wp2_with (go_at_call 15; refine (HC.out _ (HV.out.chg HC0.out) (HV'.out.chg HC0.out)).mono ?_; rintro e w2 ⟨rfl, hc2⟩; have HC2 := keepf (HC0.out.trans hc2 (fun _ _ e => e)); clear hc2)
    go_ret
    exact ⟨rfl, HC2.out⟩
  · have HD := keepf (show decide (z = 0) = false from by simpa using h0)
    have e0 : (z == 0) = false := by simpa using h0
    clear h0
    go_enter Try.func7, Try.ntmps7
    go_upto_region 1 with fail
    obtain ⟨W0, hW⟩ : ∃ W, W = ((w.alloc (.cells #[.int .i64 k, .int .i64 n, .string s, .slice A len cap] 27)).alloc (.cells #[.int .i64 k', .int .i64 n', .string s', .slice A' len' cap'] 27)) := ⟨_, rfl⟩
    rw [← hW] at HB HB' HC0 ⊢
    clear hW hs1
    have p0 := HB.out.cell 0
    have p1 := HB.out.cell 1
    have p2 := HB.out.cell 2
    have p3 := HB.out.cell 3
    have q0 := HB'.out.cell 0
    have q1 := HB'.out.cell 1
    have q2 := HB'.out.cell 2
    have q3 := HB'.out.cell 3
    simp at p0 p1 p2 p3 q0 q1 q2 q3
    go_wp2_with (go_at_call 15; refine (HC.out _ (HV.out.chg HC0.out) (HV'.out.chg HC0.out)).mono ?_; rintro e w2 ⟨rfl, hc2⟩; have HC2 := keepf (HC0.out.trans hc2 (fun _ _ e => e)); clear hc2)
    go_ret
    exact ⟨ret_vb HD.out.symm, HC2.out⟩

end Go.Proofs.Ytaababegolfjeaa

/- The walk of ParseStays: what is told of the first bytes stays (written by mkqlaw.py). -/
namespace Go.Proofs.Ytaababegolfjeaa
open Go.RowKit
set_option linter.unusedVariables false
set_option linter.unusedSimpArgs false

/-- What is held of three values' boxes, over calls that change none of them. -/
structure VS3 (w : World) (g1 g2 g3 : Nat) (v1 v2 v3 : VC) (T : VT) (W : World) : Prop where
  b1 : Blk W g1 27 v1.arr
  b2 : Blk W g2 27 v2.arr
  b3 : Blk W g3 27 v3.arr
  i1 : ValIs W T v1
  i2 : ValIs W T v2
  i3 : ValIs W T v3
  chg : Chg NoS w W

theorem VS3.call {w W W' : World} {g1 g2 g3 : Nat} {v1 v2 v3 : VC} {T : VT} (h : VS3 w g1 g2 g3 v1 v2 v3 T W) (hc : Chg NoS W W') : VS3 w g1 g2 g3 v1 v2 v3 T W' :=
  ⟨h.b1.chg hc (fun e => e), h.b2.chg hc (fun e => e), h.b3.chg hc (fun e => e), h.i1.chg hc, h.i2.chg hc, h.i3.chg hc, h.chg.trans hc (fun _ _ e => e)⟩

theorem arr_cells {W : World} {g : Nat} {k n : Int} {s : ByteArray} {A : Option Addr} {l c : Nat} (h : Blk W g 27 (VC.arr ⟨k, n, s, A, l, c⟩)) : W.cell? ⟨g, 0, none⟩ = some (.int .i64 k) ∧ W.cell? ⟨g, 1, none⟩ = some (.int .i64 n) ∧ W.cell? ⟨g, 2, none⟩ = some (.string s) ∧ W.cell? ⟨g, 3, none⟩ = some (.slice A l c) :=
  have h' : Blk W g 27 #[.int .i64 k, .int .i64 n, .string s, .slice A l c] := h
  ⟨h'.cl4.c0, h'.cl4.c1, h'.cl4.c2, h'.cl4.c3⟩

theorem same_self {t : VT} {c c' : VC} {w : World} (hv : ValIs w t c) (hv' : ValIs w t c') : Calls Try.prog 7 #[c.val, c'.val] w fun e w' => e = .returned (.bool true) ∧ Chg NoS w w' := by
  have h := rsame11_any t t c c' w hv hv'
  rw [show decide (cmpT t t = 0) = true from by rw [decide_eq_true_eq]; exact cmpT_self t] at h
  exact h

set_option maxHeartbeats 8000000 in
set_option maxRecDepth 100000 in
theorem staysW12 (bs : List Nat) (A : Option Addr) (c : Nat) (N : Nat) (last : Bool) (w : World) (hS : Src w 1 A bs.length c (lcells bs)) (hm : bs.length ≤ maxLen) (hb : ∀ x ∈ bs, x < 256) (hc : bs.length ≤ c) (hN : N < 65536) :
    Calls Try.prog 3 #[.slice A bs.length c, .int .u16 (N : Nat), .bool last] w fun e w' => e = .returned (.bool true) ∧ Chg NoS w w' := by
  have HW := keepf (fun W => works_any12 W)
  unfold maxLen at hm
  obtain ⟨n, hn⟩ : ∃ n, n = bs.length := ⟨_, rfl⟩
  have HN := keepf hn
  by_cases h4 : bs.length ≤ 400
  · have HV := keepf (fun (W : World) (h : Chg NoS w W) => qval_any bs A c 0 last W (Src.below (w0 := w) hS h) (by omega) hc hb)
    rw [← hn] at hm hc h4 HV ⊢
    obtain ⟨k, hk⟩ : ∃ k, k = N % (n + 1) := ⟨_, rfl⟩
    have hkn : k ≤ n := by have := Nat.mod_lt N (show 0 < n + 1 by omega); omega
    have e1 : (N : Int) % ((n : Int) + 1) = (k : Nat) := by rw [hk]; rfl
    have d4 : decide ((400 : Int) < n) = false := by simp; omega
    have d4' : decide (400 < n) = false := by simp; omega
    have hkc : k ≤ c := by omega
    have hST : Src w 1 A k c (lcells (bs.take k)) := by
      have h := src_cutL (lo := 0) (m := k) hS (by rw [← hn]; exact hc) (by omega)
      rw [cutL_zero, List.drop_zero, Nat.sub_zero] at h
      unfold lcells at h ⊢
      rwa [← List.map_take] at h
    have htl : (bs.take k).length = k := by rw [List.length_take]; omega
    have HVT := keepf (fun (la : Bool) (W : World) (h : Chg NoS w W) => by
      have h' := qval_any (bs.take k) A c 0 la W (by rw [htl]; exact Src.below (w0 := w) hST h) (by omega) (by omega) (fun x hx => hb x (List.mem_of_mem_take hx))
      rw [htl] at h'
      exact h')
    have hto : ∀ W : World, (Instr.sliceAt 22 (.slice A n c) none (some (.int .i64 (k : Nat))) none).run Try.prog W = .ok (.slice A k c) W := fun W => toL A n c k hkc W
    have hst := runI_stays (b := bs) (k := k) (last := last) (by omega)
    have HX := keepf (HVT.out false)
    have HZ := keepf (HVT.out true)
    obtain ⟨R, hR⟩ : ∃ R, R = runI (bs.take k) false 0 [] := ⟨_, rfl⟩
    rw [← hR] at HX hst
    obtain ⟨er, T, tz⟩ := R
    simp only [] at hst
    unfold ValTo at HX
    simp only [] at HX
    by_cases her : er = 6
    · subst her
      clear hst hR HVT HZ HV hS hb hc hn hk hST htl HN
      go_enter Try.func3, Try.ntmps3
      go_wp2_with (first
        | (go_at_call 6; refine (HX.out _ (Chg.refl NoS w)).mono ?_; rintro e w2 ⟨v, rfl, hv2, hc2⟩; have HC2 := keepf hc2; clear hc2 hv2; obtain ⟨pk, pn, ps, pA, pl, pc⟩ := v; unfold VC.val; simp only [])
        | (go_at_call 5; refine (HW.out _).mono ?_; rintro e wx ⟨rfl, hcx⟩; have HCx := keepf hcx; clear hcx))
      go_ret
      exact ⟨rfl, (HC2.out.alloc _).trans HCx.out (fun _ _ e => e)⟩
    · obtain ⟨hs1, hs2⟩ := hst her
      rw [hs1] at HV
      rw [hs2] at HZ
      unfold ValTo at HV HZ
      simp only [] at HV HZ
      have v2 : (er == 6) = false := by simpa using her
      have v3 : (er != 6) = true := by simpa using her
      clear hst hR HVT hS hb hc hn hk hST htl hs1 hs2 her HN
      go_enter Try.func3, Try.ntmps3
      go_upto_region 7 with (go_at_call 6; refine (HX.out _ (Chg.refl NoS w)).mono ?_; rintro e w2 ⟨v, rfl, hv2, hc2⟩; have HC2 := keepf hc2; have HI2 := keepf hv2; clear hc2 hv2; obtain ⟨pk, pn, ps, pA, pl, pc⟩ := v; unfold VC.val; simp only [])
      have HA2 := keepf ((Chg.refl NoS w2).alloc (.cells #[.int .i64 pk, .int .i64 pn, .string ps, .slice pA pl pc] 27))
      have HB2 := keepf (Blk.new w2 27 #[.int .i64 pk, .int .i64 pn, .string ps, .slice pA pl pc])
      have HI23 := keepf (HI2.out.chg HA2.out)
      have HC23 := keepf (HC2.out.trans HA2.out (fun _ _ e => e))
      obtain ⟨W2, hW⟩ : ∃ W2, W2 = w2.alloc (.cells #[.int .i64 pk, .int .i64 pn, .string ps, .slice pA pl pc] 27) := ⟨_, rfl⟩
      obtain ⟨g8, hg⟩ : ∃ g8, g8 = w2.heap.size := ⟨_, rfl⟩
      rw [← hW] at HB2 HI23 HC23 ⊢
      rw [← hg] at HB2 ⊢
      clear hW hg HA2
      go_upto_region 8 with (go_at_call 6; refine (HV.out _ HC23.out).mono ?_; rintro e w3 ⟨v, rfl, hv3, hc3⟩; have HC3 := keepf hc3; have HI3 := keepf hv3; clear hc3 hv3; obtain ⟨qk, qn, qs, qA, ql, qc⟩ := v; unfold VC.val; simp only [])
      have HA3 := keepf ((Chg.refl NoS w3).alloc (.cells #[.int .i64 qk, .int .i64 qn, .string qs, .slice qA ql qc] 27))
      have HB33 := keepf (Blk.new w3 27 #[.int .i64 qk, .int .i64 qn, .string qs, .slice qA ql qc])
      have HB23 := keepf ((HB2.out.chg HC3.out (fun e => e)).chg HA3.out (fun e => e))
      have HI233 := keepf ((HI23.out.chg HC3.out).chg HA3.out)
      have HI33 := keepf (HI3.out.chg HA3.out)
      have HC33 := keepf ((HC23.out.trans HC3.out (fun _ _ e => e)).trans HA3.out (fun _ _ e => e))
      obtain ⟨W3, hW⟩ : ∃ W3, W3 = w3.alloc (.cells #[.int .i64 qk, .int .i64 qn, .string qs, .slice qA ql qc] 27) := ⟨_, rfl⟩
      obtain ⟨g11, hg⟩ : ∃ g11, g11 = w3.heap.size := ⟨_, rfl⟩
      rw [← hW] at HB33 HB23 HI233 HI33 HC33 ⊢
      rw [← hg] at HB33 ⊢
      clear hW hg HA3 HI23 HC23 HB2 HI3 HI2
      go_upto_region 9 with (go_at_call 6; refine (HZ.out _ HC33.out).mono ?_; rintro e w4 ⟨v, rfl, hv4, hc4⟩; have HC4 := keepf hc4; have HI4 := keepf hv4; clear hc4 hv4; obtain ⟨rk, rn, rs, rA, rl, rc⟩ := v; unfold VC.val; simp only [])
      have HA4 := keepf ((Chg.refl NoS w4).alloc (.cells #[.int .i64 rk, .int .i64 rn, .string rs, .slice rA rl rc] 27))
      have hst : VS3 w g8 g11 w4.heap.size ⟨pk, pn, ps, pA, pl, pc⟩ ⟨qk, qn, qs, qA, ql, qc⟩ ⟨rk, rn, rs, rA, rl, rc⟩ T (w4.alloc (.cells #[.int .i64 rk, .int .i64 rn, .string rs, .slice rA rl rc] 27)) :=
        ⟨(HB23.out.chg HC4.out (fun e => e)).chg HA4.out (fun e => e), (HB33.out.chg HC4.out (fun e => e)).chg HA4.out (fun e => e), Blk.new w4 27 #[.int .i64 rk, .int .i64 rn, .string rs, .slice rA rl rc], (HI233.out.chg HC4.out).chg HA4.out, (HI33.out.chg HC4.out).chg HA4.out, HI4.out.chg HA4.out, (HC33.out.trans HC4.out (fun _ _ e => e)).trans HA4.out (fun _ _ e => e)⟩
      obtain ⟨W4, hW⟩ : ∃ W4, W4 = w4.alloc (.cells #[.int .i64 rk, .int .i64 rn, .string rs, .slice rA rl rc] 27) := ⟨_, rfl⟩
      obtain ⟨g14, hg⟩ : ∃ g14, g14 = w4.heap.size := ⟨_, rfl⟩
      rw [← hW, ← hg] at hst
      rw [← hW, ← hg]
      clear hW hg HA4 HI4 HC4 HC33 HI33 HI233 HB23 HB33
      have HST := keepf hst
      obtain ⟨p0, p1, p2, p3, _, _, _, _⟩ := (show Blk W4 g8 27 #[.int .i64 pk, .int .i64 pn, .string ps, .slice pA pl pc] from hst.b1).cl4
      obtain ⟨q0, q1, q2, q3, _, _, _, _⟩ := (show Blk W4 g11 27 #[.int .i64 qk, .int .i64 qn, .string qs, .slice qA ql qc] from hst.b2).cl4
      obtain ⟨r0, r1, r2, r3, _, _, _, _⟩ := (show Blk W4 g14 27 #[.int .i64 rk, .int .i64 rn, .string rs, .slice rA rl rc] from hst.b3).cl4
      have HS1 := keepf (same_self hst.i1 hst.i2)
      have HS2 := keepf (fun (W : World) (h : VS3 w g8 g11 g14 ⟨pk, pn, ps, pA, pl, pc⟩ ⟨qk, qn, qs, qA, ql, qc⟩ ⟨rk, rn, rs, rA, rl, rc⟩ T W) => same_self h.i1 h.i3)
      unfold VC.val at HS1 HS2
      simp only [] at HS1 HS2
      clear hst
      go_wp2_with (first
        | (go_at_call 7; with_reducible (refine HS1.out.mono ?_); rintro e w7 ⟨rfl, hc7⟩; have HST7 := keepf (HST.out.call hc7); clear hc7; obtain ⟨p0, p1, p2, p3⟩ := arr_cells HST7.out.b1; obtain ⟨r0, r1, r2, r3⟩ := arr_cells HST7.out.b3)
        | (go_at_call 7; with_reducible (refine (HS2.out _ HST7.out).mono ?_); rintro e w8 ⟨rfl, hc8⟩; have HST8 := keepf (HST7.out.call hc8); clear hc8)
        | (go_at_call 5; refine (HW.out _).mono ?_; rintro e wx ⟨rfl, hcx⟩; have HCx := keepf hcx; clear hcx))
      go_ret
      exact ⟨rfl, HST8.out.chg.trans HCx.out (fun _ _ e => e)⟩
  · rw [← hn] at hm h4 hc ⊢
    have d4 : decide ((400 : Int) < n) = true := by simp; omega
    have d4' : decide (400 < n) = true := by simp; omega
    clear hS hb hc hn h4
    go_enter Try.func3, Try.ntmps3
    go_wp2_with (go_at_call 5; refine (HW.out _).mono ?_; rintro e wx ⟨rfl, hcx⟩; have HCx := keepf hcx; clear hcx)
    go_ret
    exact ⟨rfl, HCx.out⟩

end Go.Proofs.Ytaababegolfjeaa

/- What comes in, for the words of a file: bytes, and bytes with a place and a number. -/
namespace Go.Proofs.Ytaababegolfjeaa
open Go.RowKit Go.Deep Go.ChangeShapes Go.WideShapes
set_option linter.unusedVariables false

theorem open_capL {H : Type} {en : TypeId × Value → H} {P : Program} {w : World} {base fuel : Nat} {spare : Nat → Bool} {held : Bool} {t e : TypeId} {A : Option Addr} {len cap : Nat} {x : DataW H × List MemPlace}
    (ht : P.underlying t = some (.slice e)) (h : DataW.trod en P w base spare held fuel t [.slice A len cap] = some x) : len ≤ cap := by
  rcases open_slice ht h with ⟨h0, _⟩ | ⟨a, len', cap', m, n, D, Pl, hcs, hb, hl, _⟩
  · simp only [List.cons.injEq, Value.slice.injEq, and_true] at h0
    omega
  · simp only [List.cons.injEq, Value.slice.injEq, and_true] at hcs
    omega

def encL (b : Nat) : List Value := [.int .u8 (b : Nat)]

theorem byte_elL {H : Type} {en : TypeId × Value → H} {w : World} {base n : Nat} {spare : Nat → Bool} {held : Bool} {cs : List Value} {y : DataW H × List MemPlace}
    (h : DataW.trod en Try.prog w base spare held n 5 cs = some y) : ∃ p : Nat, cs = encL p ∧ p < 256 := by
  obtain ⟨z, rfl, hz⟩ := el_int Try.underlying5 h
  have b0 := bounds_u8 hz
  exact ⟨z.toNat, by simp [encL]; omega, by omega⟩

theorem flat_bytesL (bs : List Nat) : bs.flatMap encL = lcells bs := by
  induction bs with
  | nil => rfl
  | cons b bs ih => rw [List.flatMap_cons, ih]; rfl

end Go.Proofs.Ytaababegolfjeaa

/- The walk of ParseMay: what is read may be, and lies in the bytes (written by mkqlaw.py). -/
namespace Go.Proofs.Ytaababegolfjeaa
open Go.RowKit
set_option linter.unusedVariables false
set_option linter.unusedSimpArgs false

structure VS1 (w : World) (g1 : Nat) (v1 : VC) (T : VT) (W : World) : Prop where
  b1 : Blk W g1 27 v1.arr
  i1 : ValIs W T v1
  chg : Chg NoS w W

theorem VS1.call {w W W' : World} {g1 : Nat} {v1 : VC} {T : VT} (h : VS1 w g1 v1 T W) (hc : Chg NoS W W') : VS1 w g1 v1 T W' :=
  ⟨h.b1.chg hc (fun e => e), h.i1.chg hc, h.chg.trans hc (fun _ _ e => e)⟩

set_option maxHeartbeats 8000000 in
set_option maxRecDepth 100000 in
theorem mayW12 (bs : List Nat) (A : Option Addr) (c : Nat) (p : Int) (last : Bool) (w : World) (hS : Src w 1 A bs.length c (lcells bs)) (hm : bs.length ≤ maxLen) (hb : ∀ x ∈ bs, x < 256) (hc : bs.length ≤ c) :
    Calls Try.prog 4 #[.slice A bs.length c, .int .i64 p, .bool last] w fun e w' => e = .returned (.bool true) ∧ Chg NoS w w' := by
  have HW := keepf (fun W => works_any12 W)
  unfold maxLen at hm
  obtain ⟨n, hn⟩ : ∃ n, n = bs.length := ⟨_, rfl⟩
  by_cases h4 : bs.length ≤ 400
  · have HV := keepf (qval_any bs A c p last w hS (by omega) hc hb)
    have hmay := runI_may (last := last) (p := p) hb
    rw [← hn] at hm hc h4 HV hmay ⊢
    obtain ⟨R, hR⟩ : ∃ R, R = runI bs last p [] := ⟨_, rfl⟩
    rw [← hR] at HV hmay
    clear hR
    obtain ⟨er, T, tz⟩ := R
    unfold ValTo at HV
    simp only [] at HV hmay
    have d4 : decide ((400 : Int) < n) = false := by simp; omega
    have d4' : decide (400 < n) = false := by simp; omega
    by_cases he : er = 0
    · subst he
      obtain ⟨k1, k2, k3, k4⟩ := hmay.2 rfl
      have HCK := keepf k1
      have HSZ := keepf k2
      have d5 : decide (p < (tz : Int)) = true := by simpa using k3
      have d6 : decide ((tz : Int) ≤ n) = true := by simp; omega
      have d6' : decide (tz ≤ n) = true := by simp; omega
      clear hmay hS hb hc hn k1 k2
      go_enter Try.func4, Try.ntmps4
      go_upto_region 6 with (go_at_call 6; refine HV.out.mono ?_; rintro e w2 ⟨v, rfl, hv2, hc2⟩; have HC2 := keepf hc2; have HI2 := keepf hv2; clear hc2 hv2; obtain ⟨pk, pn, ps, pA, pl, pc⟩ := v; unfold VC.val; simp only [])
      have HA2 := keepf ((Chg.refl NoS w2).alloc (.cells #[.int .i64 pk, .int .i64 pn, .string ps, .slice pA pl pc] 27))
      have hst : VS1 w w2.heap.size ⟨pk, pn, ps, pA, pl, pc⟩ T (w2.alloc (.cells #[.int .i64 pk, .int .i64 pn, .string ps, .slice pA pl pc] 27)) := ⟨Blk.new w2 27 #[.int .i64 pk, .int .i64 pn, .string ps, .slice pA pl pc], HI2.out.chg HA2.out, HC2.out.trans HA2.out (fun _ _ e => e)⟩
      obtain ⟨W2, hW⟩ : ∃ W2, W2 = w2.alloc (.cells #[.int .i64 pk, .int .i64 pn, .string ps, .slice pA pl pc] 27) := ⟨_, rfl⟩
      obtain ⟨g7, hg⟩ : ∃ g7, g7 = w2.heap.size := ⟨_, rfl⟩
      rw [← hW, ← hg] at hst
      rw [← hW, ← hg]
      clear hW hg HA2 HI2 HC2
      have HST := keepf hst
      obtain ⟨p0, p1, p2, p3, _, _, _, _⟩ := (show Blk W2 g7 27 #[.int .i64 pk, .int .i64 pn, .string ps, .slice pA pl pc] from hst.b1).cl4
      have HCH := keepf (rcheck11_any T _ W2 hst.i1 (by have := HSZ.out; omega))
      rw [HCK.out] at HCH
      unfold VC.val at HCH
      simp only [] at HCH
      clear hst
      go_wp2_with (first
        | (go_at_call 8; refine HCH.out.mono ?_; rintro e w7 ⟨rfl, hc7⟩; have HST7 := keepf (HST.out.call hc7); clear hc7)
        | (go_at_call 5; refine (HW.out _).mono ?_; rintro e wx ⟨rfl, hcx⟩; have HCx := keepf hcx; clear hcx))
      go_ret
      exact ⟨rfl, HST7.out.chg.trans HCx.out (fun _ _ e => e)⟩
    · obtain ⟨rfl, rfl⟩ := hmay.1 he
      have e1 : (er != 0) = true := by simpa using he
      have e2 : (er == 0) = false := by simpa using he
      clear hmay hS hb hc hn he
      go_enter Try.func4, Try.ntmps4
      go_upto_region 5 with (go_at_call 6; refine HV.out.mono ?_; rintro e w2 ⟨v, rfl, hv2, hc2⟩; have HC2 := keepf hc2; have HI2 := keepf hv2; clear hc2 hv2; obtain ⟨pk, pn, ps, pA, pl, pc⟩ := v; unfold VC.val; simp only [])
      have HA2 := keepf ((Chg.refl NoS w2).alloc (.cells #[.int .i64 pk, .int .i64 pn, .string ps, .slice pA pl pc] 27))
      have hst : VS1 w w2.heap.size ⟨pk, pn, ps, pA, pl, pc⟩ nilT (w2.alloc (.cells #[.int .i64 pk, .int .i64 pn, .string ps, .slice pA pl pc] 27)) := ⟨Blk.new w2 27 #[.int .i64 pk, .int .i64 pn, .string ps, .slice pA pl pc], HI2.out.chg HA2.out, HC2.out.trans HA2.out (fun _ _ e => e)⟩
      obtain ⟨W2, hW⟩ : ∃ W2, W2 = w2.alloc (.cells #[.int .i64 pk, .int .i64 pn, .string ps, .slice pA pl pc] 27) := ⟨_, rfl⟩
      obtain ⟨g7, hg⟩ : ∃ g7, g7 = w2.heap.size := ⟨_, rfl⟩
      rw [← hW, ← hg] at hst
      rw [← hW, ← hg]
      clear hW hg HA2 HI2 HC2
      have HST := keepf hst
      obtain ⟨p0, p1, p2, p3, _, _, _, _⟩ := (show Blk W2 g7 27 #[.int .i64 pk, .int .i64 pn, .string ps, .slice pA pl pc] from hst.b1).cl4
      have HS1 := keepf (same_self (c' := ⟨0, 0, ⟨#[]⟩, none, 0, 0⟩) hst.i1 (nil_is W2))
      unfold VC.val at HS1
      simp only [] at HS1
      clear hst
      go_wp2_with (first
        | (go_at_call 7; refine HS1.out.mono ?_; rintro e w7 ⟨rfl, hc7⟩; have HST7 := keepf (HST.out.call hc7); clear hc7)
        | (go_at_call 5; refine (HW.out _).mono ?_; rintro e wx ⟨rfl, hcx⟩; have HCx := keepf hcx; clear hcx))
      go_ret
      exact ⟨rfl, HST7.out.chg.trans HCx.out (fun _ _ e => e)⟩
  · rw [← hn] at hm h4 hc ⊢
    have d4 : decide ((400 : Int) < n) = true := by simp; omega
    have d4' : decide (400 < n) = true := by simp; omega
    clear hS hb hc hn h4
    go_enter Try.func4, Try.ntmps4
    go_wp2_with (go_at_call 5; refine (HW.out _).mono ?_; rintro e wx ⟨rfl, hcx⟩; have HCx := keepf hcx; clear hcx)
    go_ret
    exact ⟨rfl, HCx.out⟩

end Go.Proofs.Ytaababegolfjeaa

