/- A value with another one put into it: plain mathematics (it is got, it is dropped, and it may be). -/
import Derived.Test.YtjbjfoingpnlmaaRVt4
import Derived.Test.YtjbjfoingpnlmaaRVt7
import Derived.Test.YtjbjfoingpnlmaaValO
namespace Go.Proofs.Ytjbjfoingpnlmaa
set_option linter.unusedVariables false
set_option linter.unusedSimpArgs false

/-- A name. -/
def nmT (key : ByteArray) : VT := .mk 5 0 key []
/-- A name whose text is greater. -/
def gtT (key : ByteArray) (t : VT) : Prop := t.kind = 5 ∧ Op.bytesLess key.toList t.str.toList = true
open Classical in
/-- A name and its value, put in ahead of the first name whose text is greater, or at the end. -/
noncomputable def insL (key : ByteArray) (x : VT) : List VT → List VT
  | [] => [nmT key, x]
  | [t] => if gtT key t then [nmT key, x, t] else [t, nmT key, x]
  | t :: u :: l => if gtT key t then nmT key :: x :: t :: u :: l else t :: u :: insL key x l
def replL (j : Nat) (x : VT) (l : List VT) : List VT := l.take (2 * j + 1) ++ x :: l.drop (2 * j + 2)
noncomputable def putL (key : ByteArray) (x : VT) (l : List VT) : List VT := match findL key l with
  | some j => replL j x l
  | none => insL key x l
noncomputable def putT : VT → ByteArray → VT → VT
  | .mk k n s l, key, x => if k = 7 then .mk k n s (putL key x l) else .mk k n s l
theorem two_ind {P : List VT → Prop} (h0 : P []) (h2 : ∀ t u l, l.length % 2 = 0 → P l → P (t :: u :: l)) : ∀ l : List VT, l.length % 2 = 0 → P l
  | [], _ => h0
  | [t], h => by simp at h
  | t :: u :: l, h => h2 t u l (by simp only [List.length_cons] at h; omega) (two_ind h0 h2 l (by simp only [List.length_cons] at h; omega))
theorem ins_gt {key : ByteArray} {x t u : VT} {l : List VT} (h : gtT key t) : insL key x (t :: u :: l) = nmT key :: x :: t :: u :: l := by rw [insL, if_pos h]
theorem ins_le {key : ByteArray} {x t u : VT} {l : List VT} (h : ¬ gtT key t) : insL key x (t :: u :: l) = t :: u :: insL key x l := by rw [insL, if_neg h]
theorem repl_zero (x t u : VT) (l : List VT) : replL 0 x (t :: u :: l) = t :: x :: l := rfl
theorem repl_succ (j : Nat) (x t u : VT) (l : List VT) : replL (j + 1) x (t :: u :: l) = t :: u :: replL j x l := by
  unfold replL
  rw [show 2 * (j + 1) + 1 = (2 * j + 1) + 1 + 1 by omega, show 2 * (j + 1) + 2 = (2 * j + 2) + 1 + 1 by omega]
  rfl
theorem find_none {key : ByteArray} {t u : VT} {l : List VT} (h : findL key (t :: u :: l) = none) : ¬ hitT key t ∧ findL key l = none := by
  by_cases ht : hitT key t
  · rw [findL_hit ht] at h; cases h
  · rw [findL_no ht, List.drop_succ_cons, List.drop_zero] at h
    exact ⟨ht, by cases hf : findL key l with | none => rfl | some i => rw [hf] at h; cases h⟩
theorem find_two {key : ByteArray} {t u : VT} {l : List VT} (h : ¬ hitT key t) : findL key (t :: u :: l) = (findL key l).map (· + 1) := by
  rw [findL_no h, List.drop_succ_cons, List.drop_zero]
theorem hit_nm (key : ByteArray) : hitT key (nmT key) := ⟨rfl, rfl⟩
/-- What was put in where there was nothing. -/
theorem ins_find {key : ByteArray} {x : VT} : ∀ l : List VT, l.length % 2 = 0 → findL key l = none →
    ∃ j, findL key (insL key x l) = some j ∧ (insL key x l)[2 * j + 1]? = some x ∧ (insL key x l).take (2 * j) ++ (insL key x l).drop (2 * j + 2) = l := by
  refine two_ind (fun _ => ⟨0, findL_hit (hit_nm key), rfl, rfl⟩) (fun t u l hl ih h => ?_)
  obtain ⟨ht, hf⟩ := find_none h
  by_cases hg : gtT key t
  · rw [ins_gt hg]
    exact ⟨0, findL_hit (hit_nm key), rfl, rfl⟩
  · rw [ins_le hg]
    obtain ⟨j, h1, h2, h3⟩ := ih hf
    refine ⟨j + 1, by rw [find_two ht, h1]; rfl, ?_, ?_⟩
    · rw [show 2 * (j + 1) + 1 = (2 * j + 1) + 1 + 1 by omega]; exact h2
    · rw [show 2 * (j + 1) = (2 * j) + 1 + 1 by omega, show (2 * j) + 1 + 1 + 2 = (2 * j + 2) + 1 + 1 by omega]
      show t :: u :: ((insL key x l).take (2 * j) ++ (insL key x l).drop (2 * j + 2)) = _
      rw [h3]
theorem repl_find {key : ByteArray} {x : VT} : ∀ l : List VT, l.length % 2 = 0 → ∀ j, findL key l = some j →
    findL key (replL j x l) = some j ∧ (replL j x l)[2 * j + 1]? = some x ∧ (replL j x l).take (2 * j) ++ (replL j x l).drop (2 * j + 2) = l.take (2 * j) ++ l.drop (2 * j + 2) := by
  refine two_ind (fun j h => by rw [findL_nil] at h; cases h) (fun t u l hl ih j h => ?_)
  by_cases ht : hitT key t
  · rw [findL_hit ht] at h
    cases h
    rw [repl_zero]
    exact ⟨findL_hit ht, rfl, rfl⟩
  · rw [find_two ht] at h
    cases hf : findL key l with
    | none => rw [hf] at h; cases h
    | some i =>
      rw [hf] at h
      simp only [Option.map_some, Option.some.injEq] at h
      subst h
      obtain ⟨h1, h2, h3⟩ := ih i hf
      rw [repl_succ]
      refine ⟨by rw [find_two ht, h1]; rfl, ?_, ?_⟩
      · rw [show 2 * (i + 1) + 1 = (2 * i + 1) + 1 + 1 by omega]; exact h2
      · rw [show 2 * (i + 1) = (2 * i) + 1 + 1 by omega, show (2 * i) + 1 + 1 + 2 = (2 * i + 2) + 1 + 1 by omega]
        show t :: u :: ((replL i x l).take (2 * i) ++ (replL i x l).drop (2 * i + 2)) = t :: u :: (l.take (2 * i) ++ l.drop (2 * i + 2))
        rw [h3]
/-- What was put in is found, and dropped again. -/
theorem put_find {key : ByteArray} {x : VT} {l : List VT} (h : l.length % 2 = 0) : ∃ j, findL key (putL key x l) = some j ∧ (putL key x l)[2 * j + 1]? = some x ∧
    (putL key x l).take (2 * j) ++ (putL key x l).drop (2 * j + 2) = match findL key l with | some i => l.take (2 * i) ++ l.drop (2 * i + 2) | none => l := by
  unfold putL
  cases hf : findL key l with
  | none => exact ins_find l h hf
  | some j => exact ⟨j, repl_find l h j hf⟩
theorem put_get {key : ByteArray} {x : VT} {l : List VT} (h : l.length % 2 = 0) : getT 7 (putL key x l) key = (x, true) := by
  obtain ⟨j, h1, h2, _⟩ := put_find (key := key) (x := x) h
  unfold getT
  rw [if_pos rfl, h1]
  simp only [h2, Option.getD_some]
theorem drop_some {n : Int} {s key : ByteArray} {l : List VT} {j : Nat} (h : findL key l = some j) : dropT (.mk 7 n s l) key = .mk 7 n s (l.take (2 * j) ++ l.drop (2 * j + 2)) :=
  drop_at (by unfold findI; rw [if_pos rfl, h])
theorem drop_none {n : Int} {s key : ByteArray} {l : List VT} (h : findL key l = none) : dropT (.mk 7 n s l) key = .mk 7 n s l :=
  drop_no (by unfold findI; rw [if_pos rfl, h]; decide)
/-- Without what was put in it is as it is without what there was. -/
theorem put_drop {n : Int} {s key : ByteArray} {x : VT} {l : List VT} (h : l.length % 2 = 0) : dropT (.mk 7 n s (putL key x l)) key = dropT (.mk 7 n s l) key := by
  obtain ⟨j, h1, _, h3⟩ := put_find (key := key) (x := x) h
  rw [drop_some h1, h3]
  cases hf : findL key l with
  | none => rw [drop_none hf]
  | some i => rw [drop_some hf]
/-- A dictionary's names and values: the names rise, from above lo on. -/
def okD : Option ByteArray → List VT → Prop
  | _, [] => True
  | _, [_] => False
  | lo, t :: _ :: l => t.kind = 5 ∧ (∀ s, lo = some s → Op.bytesLess s.toList t.str.toList = true) ∧ okD (some t.str) l
theorem okD_even : ∀ {l : List VT} {lo : Option ByteArray}, okD lo l → l.length % 2 = 0
  | [], _, _ => rfl
  | [_], _, h => h.elim
  | t :: u :: l, _, h => by have := okD_even h.2.2; simp only [List.length_cons]; omega
theorem less_tr {a b c : ByteArray} (h : Op.bytesLess a.toList b.toList = true) (k : Op.bytesLess b.toList c.toList = true) : Op.bytesLess a.toList c.toList = true := by
  rw [Go.Proofs.bytesLess_eq, decide_eq_true_iff] at h k ⊢
  exact List.lt_trans h k
theorem less_self (a : ByteArray) : Op.bytesLess a.toList a.toList = false := bytesLess_self _
theorem less_tot {a b : ByteArray} (h : Op.bytesLess a.toList b.toList ≠ true) (h2 : a ≠ b) : Op.bytesLess b.toList a.toList = true := by
  rw [Ne, Go.Proofs.bytesLess_eq, decide_eq_true_iff] at h
  rw [Go.Proofs.bytesLess_eq, decide_eq_true_iff]
  rcases Classical.em (b.toList < a.toList) with h3 | h3
  · exact h3
  · exact absurd (toList_inj (List.le_antisymm (List.not_lt.1 h3) (List.not_lt.1 h))) h2
/-- No name above one that is no less. -/
theorem okD_none {key s : ByteArray} (hk : key = s ∨ Op.bytesLess key.toList s.toList = true) : ∀ {l : List VT}, okD (some s) l → findL key l = none := by
  intro l
  induction h : l.length using Nat.strongRecOn generalizing l s with
  | _ N ih =>
    intro hd
    match l, hd with
    | [], _ => exact findL_nil key
    | t :: u :: l', hd =>
      have h1 := hd.2.1 s rfl
      have hlt : Op.bytesLess key.toList t.str.toList = true := by
        rcases hk with rfl | hk
        · exact h1
        · exact less_tr hk h1
      have hno : ¬ hitT key t := fun e => by
        rw [e.2, less_self] at hlt
        cases hlt
      rw [find_two hno, ih l'.length (by rw [← h]; simp only [List.length_cons]; omega) (.inr hlt) rfl hd.2.2]
      rfl
theorem okD_drop {key : ByteArray} : ∀ {l : List VT} {lo : Option ByteArray} {j : Nat}, okD lo l → findL key l = some j → findL key (l.take (2 * j) ++ l.drop (2 * j + 2)) = none := by
  intro l
  induction h : l.length using Nat.strongRecOn generalizing l with
  | _ N ih =>
    intro lo j hd hf
    match l, hd with
    | [], _ => rw [findL_nil] at hf; cases hf
    | t :: u :: l', hd =>
      by_cases ht : hitT key t
      · rw [findL_hit ht] at hf
        cases hf
        exact okD_none (.inl ht.2.symm) hd.2.2
      · rw [find_two ht] at hf
        cases hf2 : findL key l' with
        | none => rw [hf2] at hf; cases hf
        | some i =>
          rw [hf2] at hf
          simp only [Option.map_some, Option.some.injEq] at hf
          subst hf
          have := ih l'.length (by rw [← h]; simp only [List.length_cons]; omega) rfl hd.2.2 hf2
          rw [show 2 * (i + 1) = (2 * i) + 1 + 1 by omega, show (2 * i) + 1 + 1 + 2 = (2 * i + 2) + 1 + 1 by omega]
          show findL key (t :: u :: (l'.take (2 * i) ++ l'.drop (2 * i + 2))) = none
          rw [find_two ht, this]
          rfl
theorem okD_ins {key : ByteArray} {x : VT} : ∀ {l : List VT} {lo : Option ByteArray}, okD lo l → (∀ s, lo = some s → Op.bytesLess s.toList key.toList = true) → findL key l = none → okD lo (insL key x l) := by
  intro l
  induction h : l.length using Nat.strongRecOn generalizing l with
  | _ N ih =>
    intro lo hd hlo hf
    match l, hd with
    | [], _ => exact ⟨rfl, hlo, trivial⟩
    | t :: u :: l', hd =>
      obtain ⟨ht, hf2⟩ := find_none hf
      by_cases hg : gtT key t
      · rw [ins_gt hg]
        exact ⟨rfl, hlo, hd.1, fun s hs => by cases hs; exact hg.2, hd.2.2⟩
      · rw [ins_le hg]
        refine ⟨hd.1, hd.2.1, ih l'.length (by rw [← h]; simp only [List.length_cons]; omega) rfl hd.2.2 (fun s hs => ?_) hf2⟩
        cases hs
        exact less_tot (fun e => hg ⟨hd.1, e⟩) (fun e => ht ⟨hd.1, e.symm⟩)
theorem okD_repl {x : VT} : ∀ {l : List VT} {lo : Option ByteArray} (j : Nat), okD lo l → 2 * j < l.length → okD lo (replL j x l) := by
  intro l
  induction h : l.length using Nat.strongRecOn generalizing l with
  | _ N ih =>
    intro lo j hd hj
    match l, hd with
    | [], _ => exact absurd hj (by rw [← h]; exact Nat.not_lt_zero _)
    | t :: u :: l', hd =>
      cases j with
      | zero => rw [repl_zero]; exact ⟨hd.1, hd.2.1, hd.2.2⟩
      | succ j =>
        rw [repl_succ]
        simp only [List.length_cons] at hj h
        exact ⟨hd.1, hd.2.1, ih l'.length (by omega) rfl j hd.2.2 (by omega)⟩
theorem okD_put {key : ByteArray} {x : VT} {l : List VT} (h : okD none l) : okD none (putL key x l) := by
  unfold putL
  cases hf : findL key l with
  | none => exact okD_ins h (fun s hs => by cases hs) hf
  | some j => exact okD_repl j h (findL_lt key _ l (Nat.le_refl _) j hf)
/-- A dictionary that may be by itself. -/
theorem dict_okD : ∀ {l : List VT}, l.length % 2 = 0 → namesO l → riseO l → okD none l := by
  have key : ∀ (N : Nat) (l : List VT) (lo : Option ByteArray), l.length ≤ N → l.length % 2 = 0 → namesO l → riseO l → (∀ s t, lo = some s → l[0]? = some t → Op.bytesLess s.toList t.str.toList = true) → okD lo l := by
    intro N
    induction N using Nat.strongRecOn with
    | _ N ih =>
      intro l lo hl he hn hr hlo
      match l, he with
      | [], _ => trivial
      | t :: u :: l', he =>
        simp only [List.length_cons] at hl he
        refine ⟨hn 0 t rfl, fun s hs => hlo s t hs rfl, ih (N - 1) (by omega) l' _ (by omega) (by omega) (fun j v hv => hn (j + 1) v (by rw [show 2 * (j + 1) = 2 * j + 1 + 1 by omega]; exact hv)) (fun j a b ha hb => hr (j + 1) a b (by rw [show 2 * (j + 1) = 2 * j + 1 + 1 by omega]; exact ha) (by rw [show 2 * (j + 1) + 2 = 2 * j + 2 + 1 + 1 by omega]; exact hb)) (fun s v hs hv => ?_)⟩
        cases hs
        exact hr 0 t v rfl hv
  intro l he hn hr
  exact key _ l none (Nat.le_refl _) he hn hr (fun s t h => by cases h)
theorem okD_names : ∀ {l : List VT} {lo : Option ByteArray}, okD lo l → namesO l := by
  intro l
  induction h : l.length using Nat.strongRecOn generalizing l with
  | _ N ih =>
    intro lo hd j t ht
    match l, hd with
    | [], _ => simp at ht
    | a :: u :: l', hd =>
      cases j with
      | zero => simp at ht; subst ht; exact hd.1
      | succ j =>
        rw [show 2 * (j + 1) = 2 * j + 1 + 1 by omega] at ht
        exact ih l'.length (by rw [← h]; simp only [List.length_cons]; omega) rfl hd.2.2 j t (by simpa using ht)
theorem okD_rise : ∀ {l : List VT} {lo : Option ByteArray}, okD lo l → riseO l := by
  intro l
  induction h : l.length using Nat.strongRecOn generalizing l with
  | _ N ih =>
    intro lo hd j t v ht hv
    match l, hd with
    | [], _ => simp at ht
    | a :: u :: l', hd =>
      cases j with
      | zero =>
        simp at ht
        subst ht
        match l', hd.2.2, hv with
        | b :: u' :: l'', hd2, hv =>
          simp at hv
          subst hv
          exact hd2.2.1 _ rfl
      | succ j =>
        rw [show 2 * (j + 1) = 2 * j + 1 + 1 by omega] at ht
        rw [show 2 * (j + 1) + 2 = 2 * j + 2 + 1 + 1 by omega] at hv
        exact ih l'.length (by rw [← h]; simp only [List.length_cons]; omega) rfl hd.2.2 j t v (by simpa using ht) (by simpa using hv)
theorem firstL_zero {l : List VT} : firstL l = 0 ↔ ∀ t ∈ l, firstT t = 0 := by
  induction l with
  | nil => exact ⟨fun _ t h => (by cases h), fun _ => by rw [firstL]⟩
  | cons t l ih =>
    rw [firstL_cons]
    by_cases h : firstT t = 0
    · rw [if_neg (fun e => e h), ih]
      exact ⟨fun k u hu => by rcases List.mem_cons.1 hu with rfl | hu; exact h; exact k u hu, fun k u hu => k u (List.mem_cons_of_mem _ hu)⟩
    · rw [if_pos h]
      exact ⟨fun e => absurd e h, fun k => absurd (k t (List.mem_cons_self ..)) h⟩
theorem put_mem {key : ByteArray} {x : VT} {l : List VT} : ∀ t ∈ putL key x l, t = nmT key ∨ t = x ∨ t ∈ l := by
  have hi : ∀ (N : Nat) (l : List VT), l.length ≤ N → ∀ t ∈ insL key x l, t = nmT key ∨ t = x ∨ t ∈ l := by
    intro N
    induction N using Nat.strongRecOn with
    | _ N ih =>
      intro l hl t ht
      match l with
      | [] => rw [insL] at ht; simp at ht; rcases ht with h | h; exact .inl h; exact .inr (.inl h)
      | [a] =>
        rw [insL] at ht
        split at ht
        · simp at ht; rcases ht with h | h | h; exact .inl h; exact .inr (.inl h); exact .inr (.inr (by simp [h]))
        · simp at ht; rcases ht with h | h | h; exact .inr (.inr (by simp [h])); exact .inl h; exact .inr (.inl h)
      | a :: u :: l' =>
        simp only [List.length_cons] at hl
        by_cases hg : gtT key a
        · rw [ins_gt hg] at ht
          rcases List.mem_cons.1 ht with h | ht
          · exact .inl h
          rcases List.mem_cons.1 ht with h | ht
          · exact .inr (.inl h)
          · exact .inr (.inr ht)
        · rw [ins_le hg] at ht
          rcases List.mem_cons.1 ht with h | ht
          · exact .inr (.inr (by rw [h]; exact List.mem_cons_self ..))
          rcases List.mem_cons.1 ht with h | ht
          · exact .inr (.inr (by rw [h]; exact List.mem_cons_of_mem _ (List.mem_cons_self ..)))
          · rcases ih (N - 1) (by omega) l' (by omega) t ht with h | h | h
            · exact .inl h
            · exact .inr (.inl h)
            · exact .inr (.inr (List.mem_cons_of_mem _ (List.mem_cons_of_mem _ h)))
  intro t ht
  unfold putL at ht
  split at ht
  · unfold replL at ht
    rcases List.mem_append.1 ht with h | h
    · exact .inr (.inr (List.mem_of_mem_take h))
    · rcases List.mem_cons.1 h with h | h
      · exact .inr (.inl h)
      · exact .inr (.inr (List.mem_of_mem_drop h))
  · exact hi _ l (Nat.le_refl _) t ht
theorem depthL_iff : ∀ (l : List VT) (a N : Nat), depthL a l ≤ N ↔ a ≤ N ∧ ∀ t ∈ l, depthT t + 1 ≤ N := by
  intro l
  induction l with
  | nil => intro a N; rw [depthL]; exact ⟨fun h => ⟨h, fun t h => by cases h⟩, fun h => h.1⟩
  | cons t l ih =>
    intro a N
    rw [depthL_cons, ih]
    constructor
    · rintro ⟨h1, h2⟩
      refine ⟨?_, fun u hu => ?_⟩
      · split at h1 <;> omega
      · rcases List.mem_cons.1 hu with rfl | hu
        · split at h1 <;> omega
        · exact h2 u hu
    · rintro ⟨h1, h2⟩
      refine ⟨?_, fun u hu => h2 u (List.mem_cons_of_mem _ hu)⟩
      have := h2 t (List.mem_cons_self ..)
      split <;> omega
theorem depth_dict (n : Int) (s : ByteArray) (l : List VT) : depthT (.mk 7 n s l) = depthL 1 l := by rw [depthT, if_pos (.inr rfl)]
theorem depth_nm (key : ByteArray) : depthT (nmT key) = 1 := by rw [nmT, depthT, if_neg (by decide)]
/-- A value that may be, put into a dictionary that may be, of a name that may be. -/
theorem put_check {n : Int} {s key : ByteArray} {x : VT} {l : List VT} (hv : checkT (.mk 7 n s l) = 0) (hx : checkT x = 0) (hk : textO key) :
    okD none l ∧ checkT (.mk 7 n s (putL key x l)) = if 64 ≤ depthT x then 15 else 0 := by
  have hv1 : depthT (.mk 7 n s l) ≤ 64 ∧ firstT (.mk 7 n s l) = 0 := by
    unfold checkT at hv
    split at hv
    · cases hv
    · exact ⟨by omega, hv⟩
  have hx1 : depthT x ≤ 64 ∧ firstT x = 0 := by
    unfold checkT at hx
    split at hx
    · cases hx
    · exact ⟨by omega, hx⟩
  obtain ⟨hd, hf⟩ := hv1
  rw [firstT_mk, own_7] at hf
  have ho : dictO n s.size l = 0 := by
    split at hf
    · next h => exact absurd hf h
    · next h => exact Decidable.not_not.1 h
  rw [if_neg (fun e => e ho), if_pos (.inr rfl), firstL_zero] at hf
  have hparts : n = 0 ∧ s.size = 0 ∧ l.length % 2 = 0 ∧ namesO l ∧ riseO l := by
    unfold dictO at ho
    split at ho
    · cases ho
    · next h =>
      split at ho
      · next h2 => exact ⟨Classical.byContradiction fun e => h (.inl e), Classical.byContradiction fun e => h (.inr (.inl e)), Classical.byContradiction fun e => h (.inr (.inr (.inl e))), Classical.byContradiction fun e => h (.inr (.inr (.inr e))), h2⟩
      · cases ho
  obtain ⟨hn, hs, he, hna, hri⟩ := hparts
  have hok := dict_okD he hna hri
  refine ⟨hok, ?_⟩
  have hok2 := okD_put (key := key) (x := x) hok
  have hxm : x ∈ putL key x l := by
    obtain ⟨j, _, h2, _⟩ := put_find (key := key) (x := x) he
    exact List.mem_of_getElem? h2
  have hnm : firstT (nmT key) = 0 := by
    have ho5 : ownO 5 0 key [] = 0 := by rw [own_5, if_neg (fun e => e hk), if_pos ⟨rfl, rfl⟩]
    rw [nmT, firstT_mk, if_neg (fun e => e ho5), if_neg (by decide)]
  have hfirst : firstT (.mk 7 n s (putL key x l)) = 0 := by
    have ho2 : dictO n s.size (putL key x l) = 0 := by rw [hn, hs]; exact dict_ok (okD_even hok2) (okD_names hok2) (okD_rise hok2)
    rw [firstT_mk, own_7, if_neg (fun e => e ho2), if_pos (.inr rfl), firstL_zero]
    intro t ht
    rcases put_mem t ht with rfl | rfl | h
    · exact hnm
    · exact hx1.2
    · exact hf t h
  have hdep : depthT (.mk 7 n s (putL key x l)) ≤ 64 ↔ ¬ 64 ≤ depthT x := by
    rw [depth_dict, depthL_iff]
    rw [depth_dict, depthL_iff] at hd
    constructor
    · rintro ⟨_, h⟩
      have := h x hxm
      omega
    · intro h
      refine ⟨by omega, fun t ht => ?_⟩
      rcases put_mem t ht with rfl | rfl | h2
      · rw [depth_nm]; omega
      · omega
      · exact hd.2 t h2
  unfold checkT
  by_cases h : 64 ≤ depthT x
  · rw [if_pos (by have := fun e => (hdep.1 e) h; omega), if_pos h]
  · rw [if_neg (by have := hdep.2 h; omega), if_neg h, hfirst]
end Go.Proofs.Ytjbjfoingpnlmaa
