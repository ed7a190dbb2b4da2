/- Merged by program: VPutM VCat VWk VFnd. -/
import Derived.Test.YtcehpobjnbgpdaaGreatDoorG04
import Derived.Test.YtcehpobjnbgpdaaGreatDoorG05
import Derived.Lib.AppendZeros
import Derived.Shelf.Abstract
/- A value with another one put into it: plain mathematics (it is got, it is dropped, and it may be). -/
namespace Go.Proofs.YtcehpobjnbgpdaaGreatDoor
set_option linter.unusedVariables false
set_option linter.unusedSimpArgs false

/-- A name. -/
def nmT (key : ByteArray) : VT := .mk 5 0 key []

/-- A name whose text is greater. -/
def gtT (key : ByteArray) (t : VT) : Prop := t.kind = 5 ∧ Op.bytesLess key.toList t.str.toList = true

open Classical in

/-- A name and its value, put in ahead of the first name whose text is greater, or at the end. -/
noncomputable def insL (key : ByteArray) (x : VT) : List VT → List VT
  | [] => [nmT key, x]
  | [t] => if gtT key t then [nmT key, x, t] else [t, nmT key, x]
  | t :: u :: l => if gtT key t then nmT key :: x :: t :: u :: l else t :: u :: insL key x l

def replL (j : Nat) (x : VT) (l : List VT) : List VT := l.take (2 * j + 1) ++ x :: l.drop (2 * j + 2)

noncomputable def putL (key : ByteArray) (x : VT) (l : List VT) : List VT := match findL key l with
  | some j => replL j x l
  | none => insL key x l

noncomputable def putT : VT → ByteArray → VT → VT
  | .mk k n s l, key, x => if k = 7 then .mk k n s (putL key x l) else .mk k n s l

theorem two_ind {P : List VT → Prop} (h0 : P []) (h2 : ∀ t u l, l.length % 2 = 0 → P l → P (t :: u :: l)) : ∀ l : List VT, l.length % 2 = 0 → P l
  | [], _ => h0
  | [t], h => by simp at h
  | t :: u :: l, h => h2 t u l (by simp only [List.length_cons] at h; omega) (two_ind h0 h2 l (by simp only [List.length_cons] at h; omega))

theorem ins_gt {key : ByteArray} {x t u : VT} {l : List VT} (h : gtT key t) : insL key x (t :: u :: l) = nmT key :: x :: t :: u :: l := by rw [insL, if_pos h]

theorem ins_le {key : ByteArray} {x t u : VT} {l : List VT} (h : ¬ gtT key t) : insL key x (t :: u :: l) = t :: u :: insL key x l := by rw [insL, if_neg h]

theorem repl_zero (x t u : VT) (l : List VT) : replL 0 x (t :: u :: l) = t :: x :: l := rfl

theorem repl_succ (j : Nat) (x t u : VT) (l : List VT) : replL (j + 1) x (t :: u :: l) = t :: u :: replL j x l := by
  unfold replL
  rw [show 2 * (j + 1) + 1 = (2 * j + 1) + 1 + 1 by omega, show 2 * (j + 1) + 2 = (2 * j + 2) + 1 + 1 by omega]
  rfl

theorem find_none {key : ByteArray} {t u : VT} {l : List VT} (h : findL key (t :: u :: l) = none) : ¬ hitT key t ∧ findL key l = none := by
  by_cases ht : hitT key t
  · rw [findL_hit ht] at h; cases h
  · rw [findL_no ht, List.drop_succ_cons, List.drop_zero] at h
    exact ⟨ht, by cases hf : findL key l with | none => rfl | some i => rw [hf] at h; cases h⟩

theorem find_two {key : ByteArray} {t u : VT} {l : List VT} (h : ¬ hitT key t) : findL key (t :: u :: l) = (findL key l).map (· + 1) := by
  rw [findL_no h, List.drop_succ_cons, List.drop_zero]

theorem hit_nm (key : ByteArray) : hitT key (nmT key) := ⟨rfl, rfl⟩

/-- What was put in where there was nothing. -/
theorem ins_find {key : ByteArray} {x : VT} : ∀ l : List VT, l.length % 2 = 0 → findL key l = none →
    ∃ j, findL key (insL key x l) = some j ∧ (insL key x l)[2 * j + 1]? = some x ∧ (insL key x l).take (2 * j) ++ (insL key x l).drop (2 * j + 2) = l := by
  refine two_ind (fun _ => ⟨0, findL_hit (hit_nm key), rfl, rfl⟩) (fun t u l hl ih h => ?_)
  obtain ⟨ht, hf⟩ := find_none h
  by_cases hg : gtT key t
  · rw [ins_gt hg]
    exact ⟨0, findL_hit (hit_nm key), rfl, rfl⟩
  · rw [ins_le hg]
    obtain ⟨j, h1, h2, h3⟩ := ih hf
    refine ⟨j + 1, by rw [find_two ht, h1]; rfl, ?_, ?_⟩
    · rw [show 2 * (j + 1) + 1 = (2 * j + 1) + 1 + 1 by omega]; exact h2
    · rw [show 2 * (j + 1) = (2 * j) + 1 + 1 by omega, show (2 * j) + 1 + 1 + 2 = (2 * j + 2) + 1 + 1 by omega]
      show t :: u :: ((insL key x l).take (2 * j) ++ (insL key x l).drop (2 * j + 2)) = _
      rw [h3]

theorem repl_find {key : ByteArray} {x : VT} : ∀ l : List VT, l.length % 2 = 0 → ∀ j, findL key l = some j →
    findL key (replL j x l) = some j ∧ (replL j x l)[2 * j + 1]? = some x ∧ (replL j x l).take (2 * j) ++ (replL j x l).drop (2 * j + 2) = l.take (2 * j) ++ l.drop (2 * j + 2) := by
  refine two_ind (fun j h => by rw [findL_nil] at h; cases h) (fun t u l hl ih j h => ?_)
  by_cases ht : hitT key t
  · rw [findL_hit ht] at h
    cases h
    rw [repl_zero]
    exact ⟨findL_hit ht, rfl, rfl⟩
  · rw [find_two ht] at h
    cases hf : findL key l with
    | none => rw [hf] at h; cases h
    | some i =>
      rw [hf] at h
      simp only [Option.map_some, Option.some.injEq] at h
      subst h
      obtain ⟨h1, h2, h3⟩ := ih i hf
      rw [repl_succ]
      refine ⟨by rw [find_two ht, h1]; rfl, ?_, ?_⟩
      · rw [show 2 * (i + 1) + 1 = (2 * i + 1) + 1 + 1 by omega]; exact h2
      · rw [show 2 * (i + 1) = (2 * i) + 1 + 1 by omega, show (2 * i) + 1 + 1 + 2 = (2 * i + 2) + 1 + 1 by omega]
        show t :: u :: ((replL i x l).take (2 * i) ++ (replL i x l).drop (2 * i + 2)) = t :: u :: (l.take (2 * i) ++ l.drop (2 * i + 2))
        rw [h3]

/-- What was put in is found, and dropped again. -/
theorem put_find {key : ByteArray} {x : VT} {l : List VT} (h : l.length % 2 = 0) : ∃ j, findL key (putL key x l) = some j ∧ (putL key x l)[2 * j + 1]? = some x ∧
    (putL key x l).take (2 * j) ++ (putL key x l).drop (2 * j + 2) = match findL key l with | some i => l.take (2 * i) ++ l.drop (2 * i + 2) | none => l := by
  unfold putL
  cases hf : findL key l with
  | none => exact ins_find l h hf
  | some j => exact ⟨j, repl_find l h j hf⟩

theorem put_get {key : ByteArray} {x : VT} {l : List VT} (h : l.length % 2 = 0) : getT 7 (putL key x l) key = (x, true) := by
  obtain ⟨j, h1, h2, _⟩ := put_find (key := key) (x := x) h
  unfold getT
  rw [if_pos rfl, h1]
  simp only [h2, Option.getD_some]

theorem drop_some {n : Int} {s key : ByteArray} {l : List VT} {j : Nat} (h : findL key l = some j) : dropT (.mk 7 n s l) key = .mk 7 n s (l.take (2 * j) ++ l.drop (2 * j + 2)) :=
  drop_hit (by unfold findI; rw [if_pos rfl, h])

theorem drop_none {n : Int} {s key : ByteArray} {l : List VT} (h : findL key l = none) : dropT (.mk 7 n s l) key = .mk 7 n s l :=
  drop_no (by unfold findI; rw [if_pos rfl, h]; decide)

/-- Without what was put in it is as it is without what there was. -/
theorem put_drop {n : Int} {s key : ByteArray} {x : VT} {l : List VT} (h : l.length % 2 = 0) : dropT (.mk 7 n s (putL key x l)) key = dropT (.mk 7 n s l) key := by
  obtain ⟨j, h1, _, h3⟩ := put_find (key := key) (x := x) h
  rw [drop_some h1, h3]
  cases hf : findL key l with
  | none => rw [drop_none hf]
  | some i => rw [drop_some hf]

/-- A dictionary's names and values: the names rise, from above lo on. -/
def okD : Option ByteArray → List VT → Prop
  | _, [] => True
  | _, [_] => False
  | lo, t :: _ :: l => t.kind = 5 ∧ (∀ s, lo = some s → Op.bytesLess s.toList t.str.toList = true) ∧ okD (some t.str) l

theorem okD_even : ∀ {l : List VT} {lo : Option ByteArray}, okD lo l → l.length % 2 = 0
  | [], _, _ => rfl
  | [_], _, h => h.elim
  | t :: u :: l, _, h => by have := okD_even h.2.2; simp only [List.length_cons]; omega

theorem less_tr {a b c : ByteArray} (h : Op.bytesLess a.toList b.toList = true) (k : Op.bytesLess b.toList c.toList = true) : Op.bytesLess a.toList c.toList = true := by
  rw [Go.Proofs.bytesLess_eq, decide_eq_true_iff] at h k ⊢
  exact List.lt_trans h k

theorem less_self (a : ByteArray) : Op.bytesLess a.toList a.toList = false := bytesLess_self _

theorem less_tot {a b : ByteArray} (h : Op.bytesLess a.toList b.toList ≠ true) (h2 : a ≠ b) : Op.bytesLess b.toList a.toList = true := by
  rw [Ne, Go.Proofs.bytesLess_eq, decide_eq_true_iff] at h
  rw [Go.Proofs.bytesLess_eq, decide_eq_true_iff]
  rcases Classical.em (b.toList < a.toList) with h3 | h3
  · exact h3
  · exact absurd (toList_inj (List.le_antisymm (List.not_lt.1 h3) (List.not_lt.1 h))) h2

/-- No name above one that is no less. -/
theorem okD_none {key s : ByteArray} (hk : key = s ∨ Op.bytesLess key.toList s.toList = true) : ∀ {l : List VT}, okD (some s) l → findL key l = none := by
  intro l
  induction h : l.length using Nat.strongRecOn generalizing l s with
  | _ N ih =>
    intro hd
    match l, hd with
    | [], _ => exact findL_nil key
    | t :: u :: l', hd =>
      have h1 := hd.2.1 s rfl
      have hlt : Op.bytesLess key.toList t.str.toList = true := by
        rcases hk with rfl | hk
        · exact h1
        · exact less_tr hk h1
      have hno : ¬ hitT key t := fun e => by
        rw [e.2, less_self] at hlt
        cases hlt
      rw [find_two hno, ih l'.length (by rw [← h]; simp only [List.length_cons]; omega) (.inr hlt) rfl hd.2.2]
      rfl

theorem okD_drop {key : ByteArray} : ∀ {l : List VT} {lo : Option ByteArray} {j : Nat}, okD lo l → findL key l = some j → findL key (l.take (2 * j) ++ l.drop (2 * j + 2)) = none := by
  intro l
  induction h : l.length using Nat.strongRecOn generalizing l with
  | _ N ih =>
    intro lo j hd hf
    match l, hd with
    | [], _ => rw [findL_nil] at hf; cases hf
    | t :: u :: l', hd =>
      by_cases ht : hitT key t
      · rw [findL_hit ht] at hf
        cases hf
        exact okD_none (.inl ht.2.symm) hd.2.2
      · rw [find_two ht] at hf
        cases hf2 : findL key l' with
        | none => rw [hf2] at hf; cases hf
        | some i =>
          rw [hf2] at hf
          simp only [Option.map_some, Option.some.injEq] at hf
          subst hf
          have := ih l'.length (by rw [← h]; simp only [List.length_cons]; omega) rfl hd.2.2 hf2
          rw [show 2 * (i + 1) = (2 * i) + 1 + 1 by omega, show (2 * i) + 1 + 1 + 2 = (2 * i + 2) + 1 + 1 by omega]
          show findL key (t :: u :: (l'.take (2 * i) ++ l'.drop (2 * i + 2))) = none
          rw [find_two ht, this]
          rfl

theorem okD_ins {key : ByteArray} {x : VT} : ∀ {l : List VT} {lo : Option ByteArray}, okD lo l → (∀ s, lo = some s → Op.bytesLess s.toList key.toList = true) → findL key l = none → okD lo (insL key x l) := by
  intro l
  induction h : l.length using Nat.strongRecOn generalizing l with
  | _ N ih =>
    intro lo hd hlo hf
    match l, hd with
    | [], _ => exact ⟨rfl, hlo, trivial⟩
    | t :: u :: l', hd =>
      obtain ⟨ht, hf2⟩ := find_none hf
      by_cases hg : gtT key t
      · rw [ins_gt hg]
        exact ⟨rfl, hlo, hd.1, fun s hs => by cases hs; exact hg.2, hd.2.2⟩
      · rw [ins_le hg]
        refine ⟨hd.1, hd.2.1, ih l'.length (by rw [← h]; simp only [List.length_cons]; omega) rfl hd.2.2 (fun s hs => ?_) hf2⟩
        cases hs
        exact less_tot (fun e => hg ⟨hd.1, e⟩) (fun e => ht ⟨hd.1, e.symm⟩)

theorem okD_repl {x : VT} : ∀ {l : List VT} {lo : Option ByteArray} (j : Nat), okD lo l → 2 * j < l.length → okD lo (replL j x l) := by
  intro l
  induction h : l.length using Nat.strongRecOn generalizing l with
  | _ N ih =>
    intro lo j hd hj
    match l, hd with
    | [], _ => exact absurd hj (by rw [← h]; exact Nat.not_lt_zero _)
    | t :: u :: l', hd =>
      cases j with
      | zero => rw [repl_zero]; exact ⟨hd.1, hd.2.1, hd.2.2⟩
      | succ j =>
        rw [repl_succ]
        simp only [List.length_cons] at hj h
        exact ⟨hd.1, hd.2.1, ih l'.length (by omega) rfl j hd.2.2 (by omega)⟩

theorem okD_put {key : ByteArray} {x : VT} {l : List VT} (h : okD none l) : okD none (putL key x l) := by
  unfold putL
  cases hf : findL key l with
  | none => exact okD_ins h (fun s hs => by cases hs) hf
  | some j => exact okD_repl j h (findL_lt key _ l (Nat.le_refl _) j hf)

/-- A dictionary that may be by itself. -/
theorem dict_okD : ∀ {l : List VT}, l.length % 2 = 0 → namesO l → riseO l → okD none l := by
  have key : ∀ (N : Nat) (l : List VT) (lo : Option ByteArray), l.length ≤ N → l.length % 2 = 0 → namesO l → riseO l → (∀ s t, lo = some s → l[0]? = some t → Op.bytesLess s.toList t.str.toList = true) → okD lo l := by
    intro N
    induction N using Nat.strongRecOn with
    | _ N ih =>
      intro l lo hl he hn hr hlo
      match l, he with
      | [], _ => trivial
      | t :: u :: l', he =>
        simp only [List.length_cons] at hl he
        refine ⟨hn 0 t rfl, fun s hs => hlo s t hs rfl, ih (N - 1) (by omega) l' _ (by omega) (by omega) (fun j v hv => hn (j + 1) v (by rw [show 2 * (j + 1) = 2 * j + 1 + 1 by omega]; exact hv)) (fun j a b ha hb => hr (j + 1) a b (by rw [show 2 * (j + 1) = 2 * j + 1 + 1 by omega]; exact ha) (by rw [show 2 * (j + 1) + 2 = 2 * j + 2 + 1 + 1 by omega]; exact hb)) (fun s v hs hv => ?_)⟩
        cases hs
        exact hr 0 t v rfl hv
  intro l he hn hr
  exact key _ l none (Nat.le_refl _) he hn hr (fun s t h => by cases h)

theorem okD_names : ∀ {l : List VT} {lo : Option ByteArray}, okD lo l → namesO l := by
  intro l
  induction h : l.length using Nat.strongRecOn generalizing l with
  | _ N ih =>
    intro lo hd j t ht
    match l, hd with
    | [], _ => simp at ht
    | a :: u :: l', hd =>
      cases j with
      | zero => simp at ht; subst ht; exact hd.1
      | succ j =>
        rw [show 2 * (j + 1) = 2 * j + 1 + 1 by omega] at ht
        exact ih l'.length (by rw [← h]; simp only [List.length_cons]; omega) rfl hd.2.2 j t (by simpa using ht)

theorem okD_rise : ∀ {l : List VT} {lo : Option ByteArray}, okD lo l → riseO l := by
  intro l
  induction h : l.length using Nat.strongRecOn generalizing l with
  | _ N ih =>
    intro lo hd j t v ht hv
    match l, hd with
    | [], _ => simp at ht
    | a :: u :: l', hd =>
      cases j with
      | zero =>
        simp at ht
        subst ht
        match l', hd.2.2, hv with
        | b :: u' :: l'', hd2, hv =>
          simp at hv
          subst hv
          exact hd2.2.1 _ rfl
      | succ j =>
        rw [show 2 * (j + 1) = 2 * j + 1 + 1 by omega] at ht
        rw [show 2 * (j + 1) + 2 = 2 * j + 2 + 1 + 1 by omega] at hv
        exact ih l'.length (by rw [← h]; simp only [List.length_cons]; omega) rfl hd.2.2 j t v (by simpa using ht) (by simpa using hv)

theorem firstL_zero {l : List VT} : firstL l = 0 ↔ ∀ t ∈ l, firstT t = 0 := by
  induction l with
  | nil => exact ⟨fun _ t h => (by cases h), fun _ => by rw [firstL]⟩
  | cons t l ih =>
    rw [firstL_cons]
    by_cases h : firstT t = 0
    · rw [if_neg (fun e => e h), ih]
      exact ⟨fun k u hu => by rcases List.mem_cons.1 hu with rfl | hu; exact h; exact k u hu, fun k u hu => k u (List.mem_cons_of_mem _ hu)⟩
    · rw [if_pos h]
      exact ⟨fun e => absurd e h, fun k => absurd (k t (List.mem_cons_self ..)) h⟩

theorem put_mem {key : ByteArray} {x : VT} {l : List VT} : ∀ t ∈ putL key x l, t = nmT key ∨ t = x ∨ t ∈ l := by
  have hi : ∀ (N : Nat) (l : List VT), l.length ≤ N → ∀ t ∈ insL key x l, t = nmT key ∨ t = x ∨ t ∈ l := by
    intro N
    induction N using Nat.strongRecOn with
    | _ N ih =>
      intro l hl t ht
      match l with
      | [] => rw [insL] at ht; simp at ht; rcases ht with h | h; exact .inl h; exact .inr (.inl h)
      | [a] =>
        rw [insL] at ht
        split at ht
        · simp at ht; rcases ht with h | h | h; exact .inl h; exact .inr (.inl h); exact .inr (.inr (by simp [h]))
        · simp at ht; rcases ht with h | h | h; exact .inr (.inr (by simp [h])); exact .inl h; exact .inr (.inl h)
      | a :: u :: l' =>
        simp only [List.length_cons] at hl
        by_cases hg : gtT key a
        · rw [ins_gt hg] at ht
          rcases List.mem_cons.1 ht with h | ht
          · exact .inl h
          rcases List.mem_cons.1 ht with h | ht
          · exact .inr (.inl h)
          · exact .inr (.inr ht)
        · rw [ins_le hg] at ht
          rcases List.mem_cons.1 ht with h | ht
          · exact .inr (.inr (by rw [h]; exact List.mem_cons_self ..))
          rcases List.mem_cons.1 ht with h | ht
          · exact .inr (.inr (by rw [h]; exact List.mem_cons_of_mem _ (List.mem_cons_self ..)))
          · rcases ih (N - 1) (by omega) l' (by omega) t ht with h | h | h
            · exact .inl h
            · exact .inr (.inl h)
            · exact .inr (.inr (List.mem_cons_of_mem _ (List.mem_cons_of_mem _ h)))
  intro t ht
  unfold putL at ht
  split at ht
  · unfold replL at ht
    rcases List.mem_append.1 ht with h | h
    · exact .inr (.inr (List.mem_of_mem_take h))
    · rcases List.mem_cons.1 h with h | h
      · exact .inr (.inl h)
      · exact .inr (.inr (List.mem_of_mem_drop h))
  · exact hi _ l (Nat.le_refl _) t ht

theorem depthL_iff : ∀ (l : List VT) (a N : Nat), depthL a l ≤ N ↔ a ≤ N ∧ ∀ t ∈ l, depthT t + 1 ≤ N := by
  intro l
  induction l with
  | nil => intro a N; rw [depthL]; exact ⟨fun h => ⟨h, fun t h => by cases h⟩, fun h => h.1⟩
  | cons t l ih =>
    intro a N
    rw [depthL_cons, ih]
    constructor
    · rintro ⟨h1, h2⟩
      refine ⟨?_, fun u hu => ?_⟩
      · split at h1 <;> omega
      · rcases List.mem_cons.1 hu with rfl | hu
        · split at h1 <;> omega
        · exact h2 u hu
    · rintro ⟨h1, h2⟩
      refine ⟨?_, fun u hu => h2 u (List.mem_cons_of_mem _ hu)⟩
      have := h2 t (List.mem_cons_self ..)
      split <;> omega

theorem depth_dict (n : Int) (s : ByteArray) (l : List VT) : depthT (.mk 7 n s l) = depthL 1 l := by rw [depthT, if_pos (.inr rfl)]

theorem depth_nm (key : ByteArray) : depthT (nmT key) = 1 := by rw [nmT, depthT, if_neg (by decide)]

/-- A value that may be, put into a dictionary that may be, of a name that may be. -/
theorem put_check {n : Int} {s key : ByteArray} {x : VT} {l : List VT} (hv : checkT (.mk 7 n s l) = 0) (hx : checkT x = 0) (hk : textO key) :
    okD none l ∧ checkT (.mk 7 n s (putL key x l)) = if 64 ≤ depthT x then 15 else 0 := by
  have hv1 : depthT (.mk 7 n s l) ≤ 64 ∧ firstT (.mk 7 n s l) = 0 := by
    unfold checkT at hv
    split at hv
    · cases hv
    · exact ⟨by omega, hv⟩
  have hx1 : depthT x ≤ 64 ∧ firstT x = 0 := by
    unfold checkT at hx
    split at hx
    · cases hx
    · exact ⟨by omega, hx⟩
  obtain ⟨hd, hf⟩ := hv1
  rw [firstT_mk, own_7] at hf
  have ho : dictO n s.size l = 0 := by
    split at hf
    · next h => exact absurd hf h
    · next h => exact Decidable.not_not.1 h
  rw [if_neg (fun e => e ho), if_pos (.inr rfl), firstL_zero] at hf
  have hparts : n = 0 ∧ s.size = 0 ∧ l.length % 2 = 0 ∧ namesO l ∧ riseO l := by
    unfold dictO at ho
    split at ho
    · cases ho
    · next h =>
      split at ho
      · next h2 => exact ⟨Classical.byContradiction fun e => h (.inl e), Classical.byContradiction fun e => h (.inr (.inl e)), Classical.byContradiction fun e => h (.inr (.inr (.inl e))), Classical.byContradiction fun e => h (.inr (.inr (.inr e))), h2⟩
      · cases ho
  obtain ⟨hn, hs, he, hna, hri⟩ := hparts
  have hok := dict_okD he hna hri
  refine ⟨hok, ?_⟩
  have hok2 := okD_put (key := key) (x := x) hok
  have hxm : x ∈ putL key x l := by
    obtain ⟨j, _, h2, _⟩ := put_find (key := key) (x := x) he
    exact List.mem_of_getElem? h2
  have hnm : firstT (nmT key) = 0 := by
    have ho5 : ownO 5 0 key [] = 0 := by rw [own_5, if_neg (fun e => e hk), if_pos ⟨rfl, rfl⟩]
    rw [nmT, firstT_mk, if_neg (fun e => e ho5), if_neg (by decide)]
  have hfirst : firstT (.mk 7 n s (putL key x l)) = 0 := by
    have ho2 : dictO n s.size (putL key x l) = 0 := by rw [hn, hs]; exact dict_ok (okD_even hok2) (okD_names hok2) (okD_rise hok2)
    rw [firstT_mk, own_7, if_neg (fun e => e ho2), if_pos (.inr rfl), firstL_zero]
    intro t ht
    rcases put_mem t ht with rfl | rfl | h
    · exact hnm
    · exact hx1.2
    · exact hf t h
  have hdep : depthT (.mk 7 n s (putL key x l)) ≤ 64 ↔ ¬ 64 ≤ depthT x := by
    rw [depth_dict, depthL_iff]
    rw [depth_dict, depthL_iff] at hd
    constructor
    · rintro ⟨_, h⟩
      have := h x hxm
      omega
    · intro h
      refine ⟨by omega, fun t ht => ?_⟩
      rcases put_mem t ht with rfl | rfl | h2
      · rw [depth_nm]; omega
      · omega
      · exact hd.2 t h2
  unfold checkT
  by_cases h : 64 ≤ depthT x
  · rw [if_pos (by have := fun e => (hdep.1 e) h; omega), if_pos h]
  · rw [if_neg (by have := hdep.2 h; omega), if_neg h, hfirst]

end Go.Proofs.YtcehpobjnbgpdaaGreatDoor

/- Rows of values: Grow and Concat of the library at them; and 'behind'. -/
namespace Go.Proofs.YtcehpobjnbgpdaaGreatDoor
open Go.RowKit
set_option linter.unusedVariables false
set_option linter.unusedSimpArgs false

theorem take_moreV {α : Type} (L : List α) (k : Nat) (x : α) (h : L[k]? = some x) : L.take (k + 1) = L.take k ++ [x] := by
  rw [List.take_add_one, h]
  rfl

/-- A slice of values: where it lies, its capacity, its cells and its trees. -/
structure SlV where
  A : Option Addr
  c : Nat
  es : List VC
  ts : List VT

def SlV.val (x : SlV) : Value := .slice x.A x.es.length x.c

def allC (Xs : List SlV) : List VC := Xs.flatMap SlV.es

def allT (Xs : List SlV) : List VT := Xs.flatMap SlV.ts

theorem allC_snoc (Xs : List SlV) (x : SlV) : allC (Xs ++ [x]) = allC Xs ++ x.es := by simp [allC]

theorem allT_snoc (Xs : List SlV) (x : SlV) : allT (Xs ++ [x]) = allT Xs ++ x.ts := by simp [allT]

theorem allC_take (Xs : List SlV) (k : Nat) : (allC (Xs.take k)).length ≤ (allC Xs).length := by
  have h : allC (Xs.take k) ++ allC (Xs.drop k) = allC Xs := by unfold allC; rw [← List.flatMap_append, List.take_append_drop]
  have h2 := congrArg List.length h
  rw [List.length_append] at h2
  omega

/-- What a slice of values is to be. -/
structure SlV.Ok (w0 w : World) (x : SlV) : Prop where
  src : Src w 4 x.A x.es.length x.c (vcells x.es)
  len : x.ts.length = x.es.length
  is : ∀ (j : Nat) (t : VT) (e : VC), x.ts[j]? = some t → x.es[j]? = some e → ValIs w0 t e

/-- Trees of an elder world. -/
theorem GV.base {w0 w w' : World} {es : List VC} {ts : List VT} {n c : Nat} {A : Option Addr} (h : GV w w' es ts n A c) (hc : Chg NoS w0 w) (hi : ∀ (j : Nat) (t : VT) (e : VC), ts[j]? = some t → es[j]? = some e → ValIs w0 t e) : GV w0 w' es ts n A c :=
  ⟨h.own, hc.trans h.chg (fun _ _ e => e), fun a ha => Nat.le_trans hc.size (h.new a ha), h.len, h.tlen, hi⟩

end Go.Proofs.YtcehpobjnbgpdaaGreatDoor

/- The program's walk over a value, with a function value that writes into boxes of its own. -/
namespace Go.Proofs.YtcehpobjnbgpdaaGreatDoor
open Go.RowKit
set_option linter.unusedVariables false
set_option linter.unusedSimpArgs false

mutual
/-- What a walk makes of a state: a step tells, of a value at a depth, the next state, and whether to go into it. -/
def walkT {σ : Type} (step : VT → Nat → σ → σ × Bool) : VT → Nat → σ → σ
  | .mk k n s l, d, st => if (step (.mk k n s l) d st).2 then walkL step l (d + 1) (step (.mk k n s l) d st).1 else (step (.mk k n s l) d st).1
def walkL {σ : Type} (step : VT → Nat → σ → σ × Bool) : List VT → Nat → σ → σ
  | [], _, st => st
  | t :: l, d, st => walkL step l d (walkT step t d st)
end

theorem walkT_on {σ : Type} {step : VT → Nat → σ → σ × Bool} {k n : Int} {s : ByteArray} {l : List VT} {d : Nat} {st : σ} (h : (step (.mk k n s l) d st).2 = true) : walkT step (.mk k n s l) d st = walkL step l (d + 1) (step (.mk k n s l) d st).1 := by rw [walkT, if_pos h]

theorem walkT_no {σ : Type} {step : VT → Nat → σ → σ × Bool} {k n : Int} {s : ByteArray} {l : List VT} {d : Nat} {st : σ} (h : (step (.mk k n s l) d st).2 = false) : walkT step (.mk k n s l) d st = (step (.mk k n s l) d st).1 := by rw [walkT, if_neg (by rw [h]; decide)]

theorem walkL_cons {σ : Type} (step : VT → Nat → σ → σ × Bool) (t : VT) (l : List VT) (d : Nat) (st : σ) : walkL step (t :: l) d st = walkL step l d (walkT step t d st) := by rw [walkL]

/-- The function value makes its steps: it keeps J, and writes into the blocks of S alone, which were there. -/
structure SeeOf (w0 : World) (g : Nat) (lb : Array Value) {σ : Type} (S : Nat → Prop) (J : σ → World → Prop) (step : VT → Nat → σ → σ × Bool) : Prop where
  chg : ∀ st W, J st W → Chg NoS w0 W
  keep : ∀ st W W', J st W → Chg NoS W W' → J st W'
  low : ∀ st W, J st W → ∀ i, S i → i < W.heap.size
  see : ∀ (t : VT) (c : VC) (d : Nat) (st : σ) (W : World), ValIs W t c → J st W → d ≤ 2000000000 → Calls Tryz.prog g (#[c.val, .int .i64 (d : Nat)] ++ lb) W fun e w' => e = .returned (.bool (step t d st).2) ∧ J (step t d st).1 w' ∧ Chg S W w'

/-- The cells of an element, in a world that lets them be; its tree, in the elder world. -/
theorem RowIs.at0 {w w' : World} {b off j : Nat} {t : VT} {l : List VT} (h : RowIs w (some ⟨b, off, none⟩) j (t :: l)) (hc : Chg NoS w w') : ∃ (ek en : Int) (es : ByteArray) (eA : Option Addr) (el ec : Nat),
    w'.cell? ⟨b, off + j * 4, none⟩ = some (.int .i64 ek) ∧ w'.cell? ⟨b, off + j * 4 + 1, none⟩ = some (.int .i64 en) ∧ w'.cell? ⟨b, off + j * 4 + 2, none⟩ = some (.string es) ∧ w'.cell? ⟨b, off + j * 4 + 3, none⟩ = some (.slice eA el ec) ∧ ValIs w t ⟨ek, en, es, eA, el, ec⟩ ∧ RowIs w (some ⟨b, off, none⟩) (j + 1) l := by
  obtain ⟨⟨ek, en, es, eA, el, ec⟩, h0, h1, h2, h3, hv, hr⟩ := h.plain
  refine ⟨ek, en, es, eA, el, ec, ?_, ?_, ?_, ?_, hv, hr⟩
  · exact (hc.cell (p := ⟨b, _, none⟩) (by exact cell_lt h0) (fun e => e)).trans h0
  · exact (hc.cell (p := ⟨b, _, none⟩) (by exact cell_lt h1) (fun e => e)).trans h1
  · exact (hc.cell (p := ⟨b, _, none⟩) (by exact cell_lt h2) (fun e => e)).trans h2
  · exact (hc.cell (p := ⟨b, _, none⟩) (by exact cell_lt h3) (fun e => e)).trans h3

theorem Chg.weak {S : Nat → Prop} {w w' : World} (h : Chg NoS w w') : Chg S w w' := (Chg.refl S w).trans h (fun _ _ e => absurd e (fun e => e))

set_option maxHeartbeats 2000000 in
set_option maxRecDepth 100000 in
theorem walk_in {σ : Type} (w0 : World) (g : Nat) (lb : Array Value) (eg : ∀ args w, (callFunc g args).run Tryz.prog w = .ok (.enter g args) w) (S : Nat → Prop) (J : σ → World → Prop) (step : VT → Nat → σ → σ × Bool) (hs : SeeOf w0 g lb S J step) :
    ∀ (N : Nat) (t : VT), sizT t ≤ N → ∀ (c : VC) (d : Nat) (st : σ) (w : World), ValIs w0 t c → J st w → d + N ≤ 2000000000 →
    Calls Tryz.prog 45 #[c.val, .int .i64 (d : Nat), .func (.func g) #[] lb] w fun e w' => e = .returned (.tuple #[]) ∧ J (walkT step t d st) w' ∧ Chg S w w' := by
  intro N
  induction N with
  | zero =>
    intro t ht
    obtain ⟨k, n, s, l⟩ := t
    rw [sizT_mk] at ht
    omega
  | succ N ih =>
    intro t ht c d st w hv hj hd
    have HV := keepf hv
    obtain ⟨tk, tn, ts, l⟩ := t
    obtain ⟨h1, h2, h3, hg, hl, hr⟩ := hv.inv
    obtain ⟨ck, cn, cs, A, len, cap⟩ := c
    simp only [] at h1 h2 h3 hl hr
    subst h1 h2 h3
    rw [sizT_mk] at ht
    have hcap := hg.cap
    have hlm := hg.len
    simp only [] at hcap hlm
    unfold maxLen at hlm
    have HL := keepf hl
    have HR := keepf hr
    have HIH := keepf (fun (t' : VT) (ht' : sizT t' ≤ sizL l) => ih t' (by omega))
    unfold VC.val
    simp only []
    have HB := keepf (Blk.new w 24 #[.int .i64 ck, .int .i64 cn, .string cs, .slice A len cap])
    have hc0 := ((Chg.refl NoS w).alloc (.cells #[.int .i64 ck, .int .i64 cn, .string cs, .slice A len cap] 24))
    have HC0 := keepf (Chg.weak (S := S) hc0)
    have HJ0 := keepf (hs.keep _ _ _ hj hc0)
    have HNS : Hid (¬ S w.heap.size) := fun h => absurd (hs.low _ _ hj _ h) (Nat.lt_irrefl _)
    obtain ⟨W0, hW⟩ : ∃ W0, W0 = w.alloc (.cells #[.int .i64 ck, .int .i64 cn, .string cs, .slice A len cap] 24) := ⟨_, rfl⟩
    obtain ⟨gb, hgg⟩ : ∃ gb, gb = w.heap.size := ⟨_, rfl⟩
    rw [← hW] at HB HC0 HJ0
    rw [← hgg] at HB HNS
    have HX := keepf (hs.see (.mk ck cn cs l) ⟨ck, cn, cs, A, len, cap⟩ d st W0 (HV.out.chg (hs.chg _ _ HJ0.out)) HJ0.out (by omega))
    unfold VC.val at HX
    simp only [] at HX
    obtain ⟨bb, hbb⟩ : ∃ bb, bb = (step (.mk ck cn cs l) d st).2 := ⟨_, rfl⟩
    obtain ⟨s1, hs1⟩ : ∃ s1, s1 = (step (.mk ck cn cs l) d st).1 := ⟨_, rfl⟩
    have p0 := HB.out.cell 0
    have p1 := HB.out.cell 1
    have p2 := HB.out.cell 2
    have p3 := HB.out.cell 3
    simp at p0 p1 p2 p3
    have HS := keepf hs
    rw [← hbb, ← hs1] at HX
    have HBB := keepf hbb
    have HS1 := keepf hs1
    clear hv hg hl hr ih ht hc0 hj hbb hs1 hs
    cases bb with
    | false =>
      have HE := keepf (show walkT step (.mk ck cn cs l) d st = s1 from by rw [walkT_no HBB.out.symm, HS1.out])
      go_enter Tryz.func45, Tryz.ntmps45
      go_upto_region 1 with fail
      rw [← hgg, ← hW]
      clear hgg hW
      go_wp2_with (go_at_fn g; refine HX.out.mono ?_; rintro e w3 ⟨rfl, hj3, hc3⟩; have HJ3 := keepf hj3; have HC3 := keepf (HC0.out.trans hc3 (fun _ _ e => e)); clear hj3 hc3)
      (try simp only [Exit.inBlock, Exit.then])
      refine bodyPost_ret (results_none rfl _ _ _) rfl ?_
      exact ⟨rfl, by rw [HE.out]; exact HJ3.out, HC3.out⟩
    | true =>
      have HE := keepf (show walkT step (.mk ck cn cs l) d st = walkL step l (d + 1) s1 from by rw [walkT_on HBB.out.symm, HS1.out])
      go_enter Tryz.func45, Tryz.ntmps45
      go_upto_region 1 with fail
      rw [← hgg, ← hW]
      clear hgg hW
      go_upto_region 2 with (go_at_fn g; refine HX.out.mono ?_; rintro e w3 ⟨rfl, hj3, hc3⟩; have HJ3 := keepf hj3; have HB3 := keepf (HB.out.chg hc3 HNS.out); have HC3 := keepf (HC0.out.trans hc3 (fun _ _ e => e)); clear hj3 hc3)
      clear p0 p1 p2 p3
      have q3 := HB3.out.cell 3
      simp at q3
      go_upto_region 3 with fail
      clear q3
      go_loopw [16] (fun vk wr => ∃ (k : Nat) (s2 : σ), k ≤ len ∧ vk = .int .i64 (k : Nat) ∧ Hid (J s2 wr) ∧ Hid (Chg S w wr) ∧ Hid (RowIs w0 A k (l.drop k)) ∧ Hid (walkL step l (d + 1) s1 = walkL step (l.drop k) (d + 1) s2)) (fun vk _ => len - (intOf vk).toNat)
      case atStart => exact ⟨0, s1, by omega, rfl, HJ3, HC3, by rw [List.drop_zero]; exact HR.out, keepf (by rw [List.drop_zero])⟩
      case round =>
        obtain ⟨k, s2, hk, rfl, HJW, HCW, HRW, HFW⟩ := hrel
        by_cases h1 : k < len
        · obtain ⟨t', ht', hdd⟩ := drop_vt (l := l) (k := k) (by rw [HL.out]; exact h1)
          obtain ⟨b, off, rfl⟩ : ∃ b off, A = some ⟨b, off, none⟩ := by
            have h := HR.out
            cases hll : l with
            | nil => rw [hll] at ht'; simp at ht'
            | cons t0 l0 => rw [hll] at h; exact h.start
          have hrw := HRW.out
          rw [hdd] at hrw
          obtain ⟨ek, en, es, eA, el, ec, c0, c1, c2, c3, hv', hr'⟩ := hrw.at0 (HS.out.chg _ _ HJW.out)
          have HX2 := keepf (fun (W : World) (h : Chg NoS wr W) => HIH.out t' (sizL_at ht') ⟨ek, en, es, eA, el, ec⟩ (d + 1) s2 W hv' (HS.out.keep _ _ _ HJW.out h) (by omega))
          unfold VC.val at HX2
          simp only [] at HX2
          have HRN := keepf hr'
          obtain ⟨s4, hs4⟩ : ∃ s4, s4 = walkT step t' (d + 1) s2 := ⟨_, rfl⟩
          have HFN := keepf (show walkL step l (d + 1) s1 = walkL step (l.drop (k + 1)) (d + 1) s4 from by rw [HFW.out, hdd, walkL_cons, hs4])
          rw [← hs4] at HX2
          have i1 : (k : Int) < len := by omega
          have hdi : ((d + 1 : Nat) : Int) = (d : Int) + 1 := by omega
          rw [hdi] at HX2
          clear hrw hv' hr' hdd ht' hs4 hdi
          go_wp2_with (go_at_call 45; refine (HX2.out _ ((Chg.refl NoS wr).alloc _)).mono ?_; rintro e w4 ⟨rfl, hj4, hc4⟩; have HJ4 := keepf hj4; have HC4 := keepf ((HCW.out.alloc _).trans hc4 (fun _ _ e => e)); clear hj4 hc4)
          go_roundw
          case rel => exact ⟨k + 1, s4, by omega, by go_num, HJ4, HC4, HRN, HFN⟩
          case measure => simp [intOf]; omega
        · obtain rfl : k = len := by omega
          have HFE := keepf (show walkL step l (d + 1) s1 = s2 from by rw [HFW.out, List.drop_of_length_le (by rw [HL.out]; exact Nat.le_refl _), walkL])
          go_wp2_with fail
          go_end0
          exact ⟨rfl, by rw [HE.out, HFE.out]; exact HJW.out, HCW.out⟩

theorem walk_any {σ : Type} (w0 : World) (g : Nat) (lb : Array Value) (eg : ∀ args w, (callFunc g args).run Tryz.prog w = .ok (.enter g args) w) (S : Nat → Prop) (J : σ → World → Prop) (step : VT → Nat → σ → σ × Bool) (hs : SeeOf w0 g lb S J step)
    (t : VT) (c : VC) (d : Nat) (st : σ) (w : World) (hv : ValIs w0 t c) (hj : J st w) (hd : d + sizT t ≤ 2000000000) :
    Calls Tryz.prog 45 #[c.val, .int .i64 (d : Nat), .func (.func g) #[] lb] w fun e w' => e = .returned (.tuple #[]) ∧ J (walkT step t d st) w' ∧ Chg S w w' :=
  walk_in w0 g lb eg S J step hs _ t (Nat.le_refl _) c d st w hv hj hd

end Go.Proofs.YtcehpobjnbgpdaaGreatDoor

/- The program's find (with a function value), and place. -/
namespace Go.Proofs.YtcehpobjnbgpdaaGreatDoor
open Go.RowKit
set_option linter.unusedVariables false
set_option linter.unusedSimpArgs false

/-- Where the first name stands, in a name's place, whose text is one that is meant; the row's end, if none is. -/
def posL (p : ByteArray → Bool) : List VT → Nat
  | [] => 0
  | [t] => if t.kind = 5 ∧ p t.str = true then 0 else 1
  | t :: _ :: l => if t.kind = 5 ∧ p t.str = true then 0 else posL p l + 2

theorem posL_hit {p : ByteArray → Bool} {t : VT} {l : List VT} (h : t.kind = 5 ∧ p t.str = true) : posL p (t :: l) = 0 := by
  cases l with
  | nil => rw [posL, if_pos h]
  | cons u l => rw [posL, if_pos h]

theorem posL_one {p : ByteArray → Bool} {t : VT} (h : ¬ (t.kind = 5 ∧ p t.str = true)) : posL p [t] = 1 := by rw [posL, if_neg h]

theorem posL_two {p : ByteArray → Bool} {t u : VT} {l : List VT} (h : ¬ (t.kind = 5 ∧ p t.str = true)) : posL p (t :: u :: l) = posL p l + 2 := by rw [posL, if_neg h]

theorem posL_le (p : ByteArray → Bool) : ∀ l : List VT, posL p l ≤ l.length
  | [] => Nat.le_refl _
  | [t] => by rw [posL]; split <;> simp
  | t :: u :: l => by
    have := posL_le p l
    rw [posL]
    split
    · simp
    · simp only [List.length_cons]; omega

def pEq (key s : ByteArray) : Bool := s.toList == key.toList

def pGt (key s : ByteArray) : Bool := Op.bytesLess key.toList s.toList

theorem pEq_iff {key : ByteArray} {t : VT} : (t.kind = 5 ∧ pEq key t.str = true) ↔ hitT key t := by
  unfold pEq hitT
  constructor
  · rintro ⟨h1, h2⟩
    exact ⟨h1, toList_inj (by simpa using h2)⟩
  · rintro ⟨h1, h2⟩
    exact ⟨h1, by rw [h2]; simp⟩

theorem pos_find (key : ByteArray) : ∀ l : List VT, (∃ j, findL key l = some j ∧ posL (pEq key) l = 2 * j ∧ 2 * j < l.length) ∨ (findL key l = none ∧ posL (pEq key) l = l.length)
  | [] => .inr ⟨findL_nil key, rfl⟩
  | [t] => by
    by_cases h : hitT key t
    · exact .inl ⟨0, findL_hit h, posL_hit (pEq_iff.2 h), by simp⟩
    · exact .inr ⟨by rw [findL_no h]; rfl, posL_one (fun e => h (pEq_iff.1 e))⟩
  | t :: u :: l => by
    by_cases h : hitT key t
    · exact .inl ⟨0, findL_hit h, posL_hit (pEq_iff.2 h), by simp⟩
    · have h2 := posL_two (l := l) (u := u) (fun e => h (pEq_iff.1 e))
      have h3 := findL_no (l := u :: l) h
      rw [List.drop_succ_cons, List.drop_zero] at h3
      rcases pos_find key l with ⟨j, e1, e2, e3⟩ | ⟨e1, e2⟩
      · exact .inl ⟨j + 1, by rw [h3, e1]; rfl, by rw [h2, e2]; omega, by simp only [List.length_cons]; omega⟩
      · exact .inr ⟨by rw [h3, e1]; rfl, by rw [h2, e2]; simp only [List.length_cons]⟩

theorem pGt_iff {key : ByteArray} {t : VT} : (t.kind = 5 ∧ pGt key t.str = true) ↔ gtT key t := Iff.rfl

theorem ins_pos (key : ByteArray) (x : VT) : ∀ l : List VT, insL key x l = l.take (posL (pGt key) l) ++ nmT key :: x :: l.drop (posL (pGt key) l)
  | [] => by rw [insL, posL]; rfl
  | [t] => by
    by_cases h : gtT key t
    · rw [insL, if_pos h, posL_hit (pGt_iff.2 h)]; rfl
    · rw [insL, if_neg h, posL_one (fun e => h (pGt_iff.1 e))]; rfl
  | t :: u :: l => by
    by_cases h : gtT key t
    · rw [ins_gt h, posL_hit (pGt_iff.2 h)]; rfl
    · rw [ins_le h, posL_two (fun e => h (pGt_iff.1 e)), ins_pos key x l]
      rfl

theorem posL_drop {p : ByteArray → Bool} {l : List VT} {q : Nat} {t : VT} (hd : l.drop q = t :: l.drop (q + 1)) (h : ¬ (t.kind = 5 ∧ p t.str = true)) (he : posL p l = q + posL p (l.drop q)) (hq : q < l.length) :
    (posL p l = (q + 2) + posL p (l.drop (q + 2)) ∧ q + 2 ≤ l.length) ∨ (q + 2 = l.length + 1 ∧ posL p l = l.length) := by
  by_cases h1 : q + 1 < l.length
  · have h2 : l.drop (q + 1) = l[q + 1] :: l.drop (q + 2) := List.drop_eq_getElem_cons h1
    rw [he, hd, h2, posL_two h]
    exact .inl ⟨by omega, by omega⟩
  · have h2 : l.drop (q + 1) = [] := List.drop_of_length_le (by omega)
    rw [he, hd, h2, posL_one h]
    exact .inr ⟨by omega, by omega⟩

/-- What place tells. -/
def PlaceTo (w : World) (k : Int) (l : List VT) (key : ByteArray) (e : Ending) (w' : World) : Prop :=
  ∃ (q : Nat) (b : Bool), e = .returned (.tuple #[.int .i64 (q : Nat), .bool b]) ∧ Chg NoS w w' ∧ ((b = false ∧ (k ≠ 7 ∨ k = 7 ∧ findL key l = none)) ∨ (b = true ∧ k = 7 ∧ ∃ j, findL key l = some j ∧ q = 2 * j ∧ q < l.length))

end Go.Proofs.YtcehpobjnbgpdaaGreatDoor

