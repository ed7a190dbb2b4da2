/- Merged by program: VPutM VCat VWk VFnd RVt10 VCa2 VSeq. -/
import Derived.Test.YtaababegolfjeaaG03
import Derived.Test.YtaababegolfjeaaG04
import Derived.Lib.AppendZeros
import Derived.Shelf.Abstract
import Derived.Deep.CutRange
import Derived.Deep.Cut
import Derived.RangeFuncWrites
import Derived.RangeFuncNested
import Derived.RangeFuncCalls
import Derived.RangeFuncLeaves
import Derived.RangeFuncBox
import Derived.CallsIn
import Derived.Shelf.RegionOpen
import Derived.Sort.QuietIn
import Derived.OwnWalkIn
import Derived.TacticsInMore
import Derived.LoopNIn
import Derived.LoopIn
/- A value with another one put into it: plain mathematics (it is got, it is dropped, and it may be). -/
namespace Go.Proofs.Ytaababegolfjeaa
set_option linter.unusedVariables false
set_option linter.unusedSimpArgs false

/-- A name. -/
def nmT (key : ByteArray) : VT := .mk 5 0 key []

/-- A name whose text is greater. -/
def gtT (key : ByteArray) (t : VT) : Prop := t.kind = 5 ∧ Op.bytesLess key.toList t.str.toList = true

open Classical in

/-- A name and its value, put in ahead of the first name whose text is greater, or at the end. -/
noncomputable def insL (key : ByteArray) (x : VT) : List VT → List VT
  | [] => [nmT key, x]
  | [t] => if gtT key t then [nmT key, x, t] else [t, nmT key, x]
  | t :: u :: l => if gtT key t then nmT key :: x :: t :: u :: l else t :: u :: insL key x l

def replL (j : Nat) (x : VT) (l : List VT) : List VT := l.take (2 * j + 1) ++ x :: l.drop (2 * j + 2)

noncomputable def putL (key : ByteArray) (x : VT) (l : List VT) : List VT := match findL key l with
  | some j => replL j x l
  | none => insL key x l

noncomputable def putT : VT → ByteArray → VT → VT
  | .mk k n s l, key, x => if k = 7 then .mk k n s (putL key x l) else .mk k n s l

theorem two_ind {P : List VT → Prop} (h0 : P []) (h2 : ∀ t u l, l.length % 2 = 0 → P l → P (t :: u :: l)) : ∀ l : List VT, l.length % 2 = 0 → P l
  | [], _ => h0
  | [t], h => by simp at h
  | t :: u :: l, h => h2 t u l (by simp only [List.length_cons] at h; omega) (two_ind h0 h2 l (by simp only [List.length_cons] at h; omega))

theorem ins_gt {key : ByteArray} {x t u : VT} {l : List VT} (h : gtT key t) : insL key x (t :: u :: l) = nmT key :: x :: t :: u :: l := by rw [insL, if_pos h]

theorem ins_le {key : ByteArray} {x t u : VT} {l : List VT} (h : ¬ gtT key t) : insL key x (t :: u :: l) = t :: u :: insL key x l := by rw [insL, if_neg h]

theorem repl_zero (x t u : VT) (l : List VT) : replL 0 x (t :: u :: l) = t :: x :: l := rfl

theorem repl_succ (j : Nat) (x t u : VT) (l : List VT) : replL (j + 1) x (t :: u :: l) = t :: u :: replL j x l := by
  unfold replL
  rw [show 2 * (j + 1) + 1 = (2 * j + 1) + 1 + 1 by omega, show 2 * (j + 1) + 2 = (2 * j + 2) + 1 + 1 by omega]
  rfl

theorem find_none {key : ByteArray} {t u : VT} {l : List VT} (h : findL key (t :: u :: l) = none) : ¬ hitT key t ∧ findL key l = none := by
  by_cases ht : hitT key t
  · rw [findL_hit ht] at h; cases h
  · rw [findL_no ht, List.drop_succ_cons, List.drop_zero] at h
    exact ⟨ht, by cases hf : findL key l with | none => rfl | some i => rw [hf] at h; cases h⟩

theorem find_two {key : ByteArray} {t u : VT} {l : List VT} (h : ¬ hitT key t) : findL key (t :: u :: l) = (findL key l).map (· + 1) := by
  rw [findL_no h, List.drop_succ_cons, List.drop_zero]

theorem hit_nm (key : ByteArray) : hitT key (nmT key) := ⟨rfl, rfl⟩

/-- What was put in where there was nothing. -/
theorem ins_find {key : ByteArray} {x : VT} : ∀ l : List VT, l.length % 2 = 0 → findL key l = none →
    ∃ j, findL key (insL key x l) = some j ∧ (insL key x l)[2 * j + 1]? = some x ∧ (insL key x l).take (2 * j) ++ (insL key x l).drop (2 * j + 2) = l := by
  refine two_ind (fun _ => ⟨0, findL_hit (hit_nm key), rfl, rfl⟩) (fun t u l hl ih h => ?_)
  obtain ⟨ht, hf⟩ := find_none h
  by_cases hg : gtT key t
  · rw [ins_gt hg]
    exact ⟨0, findL_hit (hit_nm key), rfl, rfl⟩
  · rw [ins_le hg]
    obtain ⟨j, h1, h2, h3⟩ := ih hf
    refine ⟨j + 1, by rw [find_two ht, h1]; rfl, ?_, ?_⟩
    · rw [show 2 * (j + 1) + 1 = (2 * j + 1) + 1 + 1 by omega]; exact h2
    · rw [show 2 * (j + 1) = (2 * j) + 1 + 1 by omega, show (2 * j) + 1 + 1 + 2 = (2 * j + 2) + 1 + 1 by omega]
      show t :: u :: ((insL key x l).take (2 * j) ++ (insL key x l).drop (2 * j + 2)) = _
      rw [h3]

theorem repl_find {key : ByteArray} {x : VT} : ∀ l : List VT, l.length % 2 = 0 → ∀ j, findL key l = some j →
    findL key (replL j x l) = some j ∧ (replL j x l)[2 * j + 1]? = some x ∧ (replL j x l).take (2 * j) ++ (replL j x l).drop (2 * j + 2) = l.take (2 * j) ++ l.drop (2 * j + 2) := by
  refine two_ind (fun j h => by rw [findL_nil] at h; cases h) (fun t u l hl ih j h => ?_)
  by_cases ht : hitT key t
  · rw [findL_hit ht] at h
    cases h
    rw [repl_zero]
    exact ⟨findL_hit ht, rfl, rfl⟩
  · rw [find_two ht] at h
    cases hf : findL key l with
    | none => rw [hf] at h; cases h
    | some i =>
      rw [hf] at h
      simp only [Option.map_some, Option.some.injEq] at h
      subst h
      obtain ⟨h1, h2, h3⟩ := ih i hf
      rw [repl_succ]
      refine ⟨by rw [find_two ht, h1]; rfl, ?_, ?_⟩
      · rw [show 2 * (i + 1) + 1 = (2 * i + 1) + 1 + 1 by omega]; exact h2
      · rw [show 2 * (i + 1) = (2 * i) + 1 + 1 by omega, show (2 * i) + 1 + 1 + 2 = (2 * i + 2) + 1 + 1 by omega]
        show t :: u :: ((replL i x l).take (2 * i) ++ (replL i x l).drop (2 * i + 2)) = t :: u :: (l.take (2 * i) ++ l.drop (2 * i + 2))
        rw [h3]

/-- What was put in is found, and dropped again. -/
theorem put_find {key : ByteArray} {x : VT} {l : List VT} (h : l.length % 2 = 0) : ∃ j, findL key (putL key x l) = some j ∧ (putL key x l)[2 * j + 1]? = some x ∧
    (putL key x l).take (2 * j) ++ (putL key x l).drop (2 * j + 2) = match findL key l with | some i => l.take (2 * i) ++ l.drop (2 * i + 2) | none => l := by
  unfold putL
  cases hf : findL key l with
  | none => exact ins_find l h hf
  | some j => exact ⟨j, repl_find l h j hf⟩

theorem put_get {key : ByteArray} {x : VT} {l : List VT} (h : l.length % 2 = 0) : getT 7 (putL key x l) key = (x, true) := by
  obtain ⟨j, h1, h2, _⟩ := put_find (key := key) (x := x) h
  unfold getT
  rw [if_pos rfl, h1]
  simp only [h2, Option.getD_some]

theorem drop_some {n : Int} {s key : ByteArray} {l : List VT} {j : Nat} (h : findL key l = some j) : dropT (.mk 7 n s l) key = .mk 7 n s (l.take (2 * j) ++ l.drop (2 * j + 2)) :=
  drop_hit (by unfold findI; rw [if_pos rfl, h])

theorem drop_none {n : Int} {s key : ByteArray} {l : List VT} (h : findL key l = none) : dropT (.mk 7 n s l) key = .mk 7 n s l :=
  drop_no (by unfold findI; rw [if_pos rfl, h]; decide)

/-- Without what was put in it is as it is without what there was. -/
theorem put_drop {n : Int} {s key : ByteArray} {x : VT} {l : List VT} (h : l.length % 2 = 0) : dropT (.mk 7 n s (putL key x l)) key = dropT (.mk 7 n s l) key := by
  obtain ⟨j, h1, _, h3⟩ := put_find (key := key) (x := x) h
  rw [drop_some h1, h3]
  cases hf : findL key l with
  | none => rw [drop_none hf]
  | some i => rw [drop_some hf]

/-- A dictionary's names and values: the names rise, from above lo on. -/
def okD : Option ByteArray → List VT → Prop
  | _, [] => True
  | _, [_] => False
  | lo, t :: _ :: l => t.kind = 5 ∧ (∀ s, lo = some s → Op.bytesLess s.toList t.str.toList = true) ∧ okD (some t.str) l

theorem okD_even : ∀ {l : List VT} {lo : Option ByteArray}, okD lo l → l.length % 2 = 0
  | [], _, _ => rfl
  | [_], _, h => h.elim
  | t :: u :: l, _, h => by have := okD_even h.2.2; simp only [List.length_cons]; omega

theorem less_tr {a b c : ByteArray} (h : Op.bytesLess a.toList b.toList = true) (k : Op.bytesLess b.toList c.toList = true) : Op.bytesLess a.toList c.toList = true := by
  rw [Go.Proofs.bytesLess_eq, decide_eq_true_iff] at h k ⊢
  exact List.lt_trans h k

theorem less_self (a : ByteArray) : Op.bytesLess a.toList a.toList = false := bytesLess_self _

theorem less_tot {a b : ByteArray} (h : Op.bytesLess a.toList b.toList ≠ true) (h2 : a ≠ b) : Op.bytesLess b.toList a.toList = true := by
  rw [Ne, Go.Proofs.bytesLess_eq, decide_eq_true_iff] at h
  rw [Go.Proofs.bytesLess_eq, decide_eq_true_iff]
  rcases Classical.em (b.toList < a.toList) with h3 | h3
  · exact h3
  · exact absurd (toList_inj (List.le_antisymm (List.not_lt.1 h3) (List.not_lt.1 h))) h2

/-- No name above one that is no less. -/
theorem okD_none {key s : ByteArray} (hk : key = s ∨ Op.bytesLess key.toList s.toList = true) : ∀ {l : List VT}, okD (some s) l → findL key l = none := by
  intro l
  induction h : l.length using Nat.strongRecOn generalizing l s with
  | _ N ih =>
    intro hd
    match l, hd with
    | [], _ => exact findL_nil key
    | t :: u :: l', hd =>
      have h1 := hd.2.1 s rfl
      have hlt : Op.bytesLess key.toList t.str.toList = true := by
        rcases hk with rfl | hk
        · exact h1
        · exact less_tr hk h1
      have hno : ¬ hitT key t := fun e => by
        rw [e.2, less_self] at hlt
        cases hlt
      rw [find_two hno, ih l'.length (by rw [← h]; simp only [List.length_cons]; omega) (.inr hlt) rfl hd.2.2]
      rfl

theorem okD_drop {key : ByteArray} : ∀ {l : List VT} {lo : Option ByteArray} {j : Nat}, okD lo l → findL key l = some j → findL key (l.take (2 * j) ++ l.drop (2 * j + 2)) = none := by
  intro l
  induction h : l.length using Nat.strongRecOn generalizing l with
  | _ N ih =>
    intro lo j hd hf
    match l, hd with
    | [], _ => rw [findL_nil] at hf; cases hf
    | t :: u :: l', hd =>
      by_cases ht : hitT key t
      · rw [findL_hit ht] at hf
        cases hf
        exact okD_none (.inl ht.2.symm) hd.2.2
      · rw [find_two ht] at hf
        cases hf2 : findL key l' with
        | none => rw [hf2] at hf; cases hf
        | some i =>
          rw [hf2] at hf
          simp only [Option.map_some, Option.some.injEq] at hf
          subst hf
          have := ih l'.length (by rw [← h]; simp only [List.length_cons]; omega) rfl hd.2.2 hf2
          rw [show 2 * (i + 1) = (2 * i) + 1 + 1 by omega, show (2 * i) + 1 + 1 + 2 = (2 * i + 2) + 1 + 1 by omega]
          show findL key (t :: u :: (l'.take (2 * i) ++ l'.drop (2 * i + 2))) = none
          rw [find_two ht, this]
          rfl

theorem okD_ins {key : ByteArray} {x : VT} : ∀ {l : List VT} {lo : Option ByteArray}, okD lo l → (∀ s, lo = some s → Op.bytesLess s.toList key.toList = true) → findL key l = none → okD lo (insL key x l) := by
  intro l
  induction h : l.length using Nat.strongRecOn generalizing l with
  | _ N ih =>
    intro lo hd hlo hf
    match l, hd with
    | [], _ => exact ⟨rfl, hlo, trivial⟩
    | t :: u :: l', hd =>
      obtain ⟨ht, hf2⟩ := find_none hf
      by_cases hg : gtT key t
      · rw [ins_gt hg]
        exact ⟨rfl, hlo, hd.1, fun s hs => by cases hs; exact hg.2, hd.2.2⟩
      · rw [ins_le hg]
        refine ⟨hd.1, hd.2.1, ih l'.length (by rw [← h]; simp only [List.length_cons]; omega) rfl hd.2.2 (fun s hs => ?_) hf2⟩
        cases hs
        exact less_tot (fun e => hg ⟨hd.1, e⟩) (fun e => ht ⟨hd.1, e.symm⟩)

theorem okD_repl {x : VT} : ∀ {l : List VT} {lo : Option ByteArray} (j : Nat), okD lo l → 2 * j < l.length → okD lo (replL j x l) := by
  intro l
  induction h : l.length using Nat.strongRecOn generalizing l with
  | _ N ih =>
    intro lo j hd hj
    match l, hd with
    | [], _ => exact absurd hj (by rw [← h]; exact Nat.not_lt_zero _)
    | t :: u :: l', hd =>
      cases j with
      | zero => rw [repl_zero]; exact ⟨hd.1, hd.2.1, hd.2.2⟩
      | succ j =>
        rw [repl_succ]
        simp only [List.length_cons] at hj h
        exact ⟨hd.1, hd.2.1, ih l'.length (by omega) rfl j hd.2.2 (by omega)⟩

theorem okD_put {key : ByteArray} {x : VT} {l : List VT} (h : okD none l) : okD none (putL key x l) := by
  unfold putL
  cases hf : findL key l with
  | none => exact okD_ins h (fun s hs => by cases hs) hf
  | some j => exact okD_repl j h (findL_lt key _ l (Nat.le_refl _) j hf)

/-- A dictionary that may be by itself. -/
theorem dict_okD : ∀ {l : List VT}, l.length % 2 = 0 → namesO l → riseO l → okD none l := by
  have key : ∀ (N : Nat) (l : List VT) (lo : Option ByteArray), l.length ≤ N → l.length % 2 = 0 → namesO l → riseO l → (∀ s t, lo = some s → l[0]? = some t → Op.bytesLess s.toList t.str.toList = true) → okD lo l := by
    intro N
    induction N using Nat.strongRecOn with
    | _ N ih =>
      intro l lo hl he hn hr hlo
      match l, he with
      | [], _ => trivial
      | t :: u :: l', he =>
        simp only [List.length_cons] at hl he
        refine ⟨hn 0 t rfl, fun s hs => hlo s t hs rfl, ih (N - 1) (by omega) l' _ (by omega) (by omega) (fun j v hv => hn (j + 1) v (by rw [show 2 * (j + 1) = 2 * j + 1 + 1 by omega]; exact hv)) (fun j a b ha hb => hr (j + 1) a b (by rw [show 2 * (j + 1) = 2 * j + 1 + 1 by omega]; exact ha) (by rw [show 2 * (j + 1) + 2 = 2 * j + 2 + 1 + 1 by omega]; exact hb)) (fun s v hs hv => ?_)⟩
        cases hs
        exact hr 0 t v rfl hv
  intro l he hn hr
  exact key _ l none (Nat.le_refl _) he hn hr (fun s t h => by cases h)

theorem okD_names : ∀ {l : List VT} {lo : Option ByteArray}, okD lo l → namesO l := by
  intro l
  induction h : l.length using Nat.strongRecOn generalizing l with
  | _ N ih =>
    intro lo hd j t ht
    match l, hd with
    | [], _ => simp at ht
    | a :: u :: l', hd =>
      cases j with
      | zero => simp at ht; subst ht; exact hd.1
      | succ j =>
        rw [show 2 * (j + 1) = 2 * j + 1 + 1 by omega] at ht
        exact ih l'.length (by rw [← h]; simp only [List.length_cons]; omega) rfl hd.2.2 j t (by simpa using ht)

theorem okD_rise : ∀ {l : List VT} {lo : Option ByteArray}, okD lo l → riseO l := by
  intro l
  induction h : l.length using Nat.strongRecOn generalizing l with
  | _ N ih =>
    intro lo hd j t v ht hv
    match l, hd with
    | [], _ => simp at ht
    | a :: u :: l', hd =>
      cases j with
      | zero =>
        simp at ht
        subst ht
        match l', hd.2.2, hv with
        | b :: u' :: l'', hd2, hv =>
          simp at hv
          subst hv
          exact hd2.2.1 _ rfl
      | succ j =>
        rw [show 2 * (j + 1) = 2 * j + 1 + 1 by omega] at ht
        rw [show 2 * (j + 1) + 2 = 2 * j + 2 + 1 + 1 by omega] at hv
        exact ih l'.length (by rw [← h]; simp only [List.length_cons]; omega) rfl hd.2.2 j t v (by simpa using ht) (by simpa using hv)

theorem firstL_zero {l : List VT} : firstL l = 0 ↔ ∀ t ∈ l, firstT t = 0 := by
  induction l with
  | nil => exact ⟨fun _ t h => (by cases h), fun _ => by rw [firstL]⟩
  | cons t l ih =>
    rw [firstL_cons]
    by_cases h : firstT t = 0
    · rw [if_neg (fun e => e h), ih]
      exact ⟨fun k u hu => by rcases List.mem_cons.1 hu with rfl | hu; exact h; exact k u hu, fun k u hu => k u (List.mem_cons_of_mem _ hu)⟩
    · rw [if_pos h]
      exact ⟨fun e => absurd e h, fun k => absurd (k t (List.mem_cons_self ..)) h⟩

theorem put_mem {key : ByteArray} {x : VT} {l : List VT} : ∀ t ∈ putL key x l, t = nmT key ∨ t = x ∨ t ∈ l := by
  have hi : ∀ (N : Nat) (l : List VT), l.length ≤ N → ∀ t ∈ insL key x l, t = nmT key ∨ t = x ∨ t ∈ l := by
    intro N
    induction N using Nat.strongRecOn with
    | _ N ih =>
      intro l hl t ht
      match l with
      | [] => rw [insL] at ht; simp at ht; rcases ht with h | h; exact .inl h; exact .inr (.inl h)
      | [a] =>
        rw [insL] at ht
        split at ht
        · simp at ht; rcases ht with h | h | h; exact .inl h; exact .inr (.inl h); exact .inr (.inr (by simp [h]))
        · simp at ht; rcases ht with h | h | h; exact .inr (.inr (by simp [h])); exact .inl h; exact .inr (.inl h)
      | a :: u :: l' =>
        simp only [List.length_cons] at hl
        by_cases hg : gtT key a
        · rw [ins_gt hg] at ht
          rcases List.mem_cons.1 ht with h | ht
          · exact .inl h
          rcases List.mem_cons.1 ht with h | ht
          · exact .inr (.inl h)
          · exact .inr (.inr ht)
        · rw [ins_le hg] at ht
          rcases List.mem_cons.1 ht with h | ht
          · exact .inr (.inr (by rw [h]; exact List.mem_cons_self ..))
          rcases List.mem_cons.1 ht with h | ht
          · exact .inr (.inr (by rw [h]; exact List.mem_cons_of_mem _ (List.mem_cons_self ..)))
          · rcases ih (N - 1) (by omega) l' (by omega) t ht with h | h | h
            · exact .inl h
            · exact .inr (.inl h)
            · exact .inr (.inr (List.mem_cons_of_mem _ (List.mem_cons_of_mem _ h)))
  intro t ht
  unfold putL at ht
  split at ht
  · unfold replL at ht
    rcases List.mem_append.1 ht with h | h
    · exact .inr (.inr (List.mem_of_mem_take h))
    · rcases List.mem_cons.1 h with h | h
      · exact .inr (.inl h)
      · exact .inr (.inr (List.mem_of_mem_drop h))
  · exact hi _ l (Nat.le_refl _) t ht

theorem depthL_iff : ∀ (l : List VT) (a N : Nat), depthL a l ≤ N ↔ a ≤ N ∧ ∀ t ∈ l, depthT t + 1 ≤ N := by
  intro l
  induction l with
  | nil => intro a N; rw [depthL]; exact ⟨fun h => ⟨h, fun t h => by cases h⟩, fun h => h.1⟩
  | cons t l ih =>
    intro a N
    rw [depthL_cons, ih]
    constructor
    · rintro ⟨h1, h2⟩
      refine ⟨?_, fun u hu => ?_⟩
      · split at h1 <;> omega
      · rcases List.mem_cons.1 hu with rfl | hu
        · split at h1 <;> omega
        · exact h2 u hu
    · rintro ⟨h1, h2⟩
      refine ⟨?_, fun u hu => h2 u (List.mem_cons_of_mem _ hu)⟩
      have := h2 t (List.mem_cons_self ..)
      split <;> omega

theorem depth_dict (n : Int) (s : ByteArray) (l : List VT) : depthT (.mk 7 n s l) = depthL 1 l := by rw [depthT, if_pos (.inr rfl)]

theorem depth_nm (key : ByteArray) : depthT (nmT key) = 1 := by rw [nmT, depthT, if_neg (by decide)]

/-- A value that may be, put into a dictionary that may be, of a name that may be. -/
theorem put_check {n : Int} {s key : ByteArray} {x : VT} {l : List VT} (hv : checkT (.mk 7 n s l) = 0) (hx : checkT x = 0) (hk : textO key) :
    okD none l ∧ checkT (.mk 7 n s (putL key x l)) = if 64 ≤ depthT x then 15 else 0 := by
  have hv1 : depthT (.mk 7 n s l) ≤ 64 ∧ firstT (.mk 7 n s l) = 0 := by
    unfold checkT at hv
    split at hv
    · cases hv
    · exact ⟨by omega, hv⟩
  have hx1 : depthT x ≤ 64 ∧ firstT x = 0 := by
    unfold checkT at hx
    split at hx
    · cases hx
    · exact ⟨by omega, hx⟩
  obtain ⟨hd, hf⟩ := hv1
  rw [firstT_mk, own_7] at hf
  have ho : dictO n s.size l = 0 := by
    split at hf
    · next h => exact absurd hf h
    · next h => exact Decidable.not_not.1 h
  rw [if_neg (fun e => e ho), if_pos (.inr rfl), firstL_zero] at hf
  have hparts : n = 0 ∧ s.size = 0 ∧ l.length % 2 = 0 ∧ namesO l ∧ riseO l := by
    unfold dictO at ho
    split at ho
    · cases ho
    · next h =>
      split at ho
      · next h2 => exact ⟨Classical.byContradiction fun e => h (.inl e), Classical.byContradiction fun e => h (.inr (.inl e)), Classical.byContradiction fun e => h (.inr (.inr (.inl e))), Classical.byContradiction fun e => h (.inr (.inr (.inr e))), h2⟩
      · cases ho
  obtain ⟨hn, hs, he, hna, hri⟩ := hparts
  have hok := dict_okD he hna hri
  refine ⟨hok, ?_⟩
  have hok2 := okD_put (key := key) (x := x) hok
  have hxm : x ∈ putL key x l := by
    obtain ⟨j, _, h2, _⟩ := put_find (key := key) (x := x) he
    exact List.mem_of_getElem? h2
  have hnm : firstT (nmT key) = 0 := by
    have ho5 : ownO 5 0 key [] = 0 := by rw [own_5, if_neg (fun e => e hk), if_pos ⟨rfl, rfl⟩]
    rw [nmT, firstT_mk, if_neg (fun e => e ho5), if_neg (by decide)]
  have hfirst : firstT (.mk 7 n s (putL key x l)) = 0 := by
    have ho2 : dictO n s.size (putL key x l) = 0 := by rw [hn, hs]; exact dict_ok (okD_even hok2) (okD_names hok2) (okD_rise hok2)
    rw [firstT_mk, own_7, if_neg (fun e => e ho2), if_pos (.inr rfl), firstL_zero]
    intro t ht
    rcases put_mem t ht with rfl | rfl | h
    · exact hnm
    · exact hx1.2
    · exact hf t h
  have hdep : depthT (.mk 7 n s (putL key x l)) ≤ 64 ↔ ¬ 64 ≤ depthT x := by
    rw [depth_dict, depthL_iff]
    rw [depth_dict, depthL_iff] at hd
    constructor
    · rintro ⟨_, h⟩
      have := h x hxm
      omega
    · intro h
      refine ⟨by omega, fun t ht => ?_⟩
      rcases put_mem t ht with rfl | rfl | h2
      · rw [depth_nm]; omega
      · omega
      · exact hd.2 t h2
  unfold checkT
  by_cases h : 64 ≤ depthT x
  · rw [if_pos (by have := fun e => (hdep.1 e) h; omega), if_pos h]
  · rw [if_neg (by have := hdep.2 h; omega), if_neg h, hfirst]

end Go.Proofs.Ytaababegolfjeaa

/- Rows of values: Grow and Concat of the library at them; and 'behind'. -/
namespace Go.Proofs.Ytaababegolfjeaa
open Go.RowKit
set_option linter.unusedVariables false
set_option linter.unusedSimpArgs false

theorem take_moreV {α : Type} (L : List α) (k : Nat) (x : α) (h : L[k]? = some x) : L.take (k + 1) = L.take k ++ [x] := by
  rw [List.take_add_one, h]
  rfl

/-- A slice of values: where it lies, its capacity, its cells and its trees. -/
structure SlV where
  A : Option Addr
  c : Nat
  es : List VC
  ts : List VT

def SlV.val (x : SlV) : Value := .slice x.A x.es.length x.c

def allC (Xs : List SlV) : List VC := Xs.flatMap SlV.es

def allT (Xs : List SlV) : List VT := Xs.flatMap SlV.ts

theorem allC_snoc (Xs : List SlV) (x : SlV) : allC (Xs ++ [x]) = allC Xs ++ x.es := by simp [allC]

theorem allT_snoc (Xs : List SlV) (x : SlV) : allT (Xs ++ [x]) = allT Xs ++ x.ts := by simp [allT]

theorem allC_take (Xs : List SlV) (k : Nat) : (allC (Xs.take k)).length ≤ (allC Xs).length := by
  have h : allC (Xs.take k) ++ allC (Xs.drop k) = allC Xs := by unfold allC; rw [← List.flatMap_append, List.take_append_drop]
  have h2 := congrArg List.length h
  rw [List.length_append] at h2
  omega

/-- What a slice of values is to be. -/
structure SlV.Ok (w0 w : World) (x : SlV) : Prop where
  src : Src w 4 x.A x.es.length x.c (vcells x.es)
  len : x.ts.length = x.es.length
  is : ∀ (j : Nat) (t : VT) (e : VC), x.ts[j]? = some t → x.es[j]? = some e → ValIs w0 t e

/-- Trees of an elder world. -/
theorem GV.base {w0 w w' : World} {es : List VC} {ts : List VT} {n c : Nat} {A : Option Addr} (h : GV w w' es ts n A c) (hc : Chg NoS w0 w) (hi : ∀ (j : Nat) (t : VT) (e : VC), ts[j]? = some t → es[j]? = some e → ValIs w0 t e) : GV w0 w' es ts n A c :=
  ⟨h.own, hc.trans h.chg (fun _ _ e => e), fun a ha => Nat.le_trans hc.size (h.new a ha), h.len, h.tlen, hi⟩

end Go.Proofs.Ytaababegolfjeaa

/- The program's walk over a value, with a function value that writes into boxes of its own. -/
namespace Go.Proofs.Ytaababegolfjeaa
open Go.RowKit
set_option linter.unusedVariables false
set_option linter.unusedSimpArgs false

mutual
/-- What a walk makes of a state: a step tells, of a value at a depth, the next state, and whether to go into it. -/
def walkT {σ : Type} (step : VT → Nat → σ → σ × Bool) : VT → Nat → σ → σ
  | .mk k n s l, d, st => if (step (.mk k n s l) d st).2 then walkL step l (d + 1) (step (.mk k n s l) d st).1 else (step (.mk k n s l) d st).1
def walkL {σ : Type} (step : VT → Nat → σ → σ × Bool) : List VT → Nat → σ → σ
  | [], _, st => st
  | t :: l, d, st => walkL step l d (walkT step t d st)
end

theorem walkT_on {σ : Type} {step : VT → Nat → σ → σ × Bool} {k n : Int} {s : ByteArray} {l : List VT} {d : Nat} {st : σ} (h : (step (.mk k n s l) d st).2 = true) : walkT step (.mk k n s l) d st = walkL step l (d + 1) (step (.mk k n s l) d st).1 := by rw [walkT, if_pos h]

theorem walkT_no {σ : Type} {step : VT → Nat → σ → σ × Bool} {k n : Int} {s : ByteArray} {l : List VT} {d : Nat} {st : σ} (h : (step (.mk k n s l) d st).2 = false) : walkT step (.mk k n s l) d st = (step (.mk k n s l) d st).1 := by rw [walkT, if_neg (by rw [h]; decide)]

theorem walkL_cons {σ : Type} (step : VT → Nat → σ → σ × Bool) (t : VT) (l : List VT) (d : Nat) (st : σ) : walkL step (t :: l) d st = walkL step l d (walkT step t d st) := by rw [walkL]

/-- The function value makes its steps: it keeps J, and writes into the blocks of S alone, which were there. -/
structure SeeOf (w0 : World) (g : Nat) (lb : Array Value) {σ : Type} (S : Nat → Prop) (J : σ → World → Prop) (step : VT → Nat → σ → σ × Bool) : Prop where
  chg : ∀ st W, J st W → Chg NoS w0 W
  keep : ∀ st W W', J st W → Chg NoS W W' → J st W'
  low : ∀ st W, J st W → ∀ i, S i → i < W.heap.size
  see : ∀ (t : VT) (c : VC) (d : Nat) (st : σ) (W : World), ValIs W t c → J st W → d ≤ 2000000000 → Calls Try.prog g (#[c.val, .int .i64 (d : Nat)] ++ lb) W fun e w' => e = .returned (.bool (step t d st).2) ∧ J (step t d st).1 w' ∧ Chg S W w'

/-- The cells of an element, in a world that lets them be; its tree, in the elder world. -/
theorem RowIs.at0 {w w' : World} {b off j : Nat} {t : VT} {l : List VT} (h : RowIs w (some ⟨b, off, none⟩) j (t :: l)) (hc : Chg NoS w w') : ∃ (ek en : Int) (es : ByteArray) (eA : Option Addr) (el ec : Nat),
    w'.cell? ⟨b, off + j * 4, none⟩ = some (.int .i64 ek) ∧ w'.cell? ⟨b, off + j * 4 + 1, none⟩ = some (.int .i64 en) ∧ w'.cell? ⟨b, off + j * 4 + 2, none⟩ = some (.string es) ∧ w'.cell? ⟨b, off + j * 4 + 3, none⟩ = some (.slice eA el ec) ∧ ValIs w t ⟨ek, en, es, eA, el, ec⟩ ∧ RowIs w (some ⟨b, off, none⟩) (j + 1) l := by
  obtain ⟨⟨ek, en, es, eA, el, ec⟩, h0, h1, h2, h3, hv, hr⟩ := h.plain
  refine ⟨ek, en, es, eA, el, ec, ?_, ?_, ?_, ?_, hv, hr⟩
  · exact (hc.cell (p := ⟨b, _, none⟩) (by exact cell_lt h0) (fun e => e)).trans h0
  · exact (hc.cell (p := ⟨b, _, none⟩) (by exact cell_lt h1) (fun e => e)).trans h1
  · exact (hc.cell (p := ⟨b, _, none⟩) (by exact cell_lt h2) (fun e => e)).trans h2
  · exact (hc.cell (p := ⟨b, _, none⟩) (by exact cell_lt h3) (fun e => e)).trans h3

theorem Chg.weak {S : Nat → Prop} {w w' : World} (h : Chg NoS w w') : Chg S w w' := (Chg.refl S w).trans h (fun _ _ e => absurd e (fun e => e))

end Go.Proofs.Ytaababegolfjeaa

/- The program's find (with a function value), and place. -/
namespace Go.Proofs.Ytaababegolfjeaa
open Go.RowKit
set_option linter.unusedVariables false
set_option linter.unusedSimpArgs false

/-- Where the first name stands, in a name's place, whose text is one that is meant; the row's end, if none is. -/
def posL (p : ByteArray → Bool) : List VT → Nat
  | [] => 0
  | [t] => if t.kind = 5 ∧ p t.str = true then 0 else 1
  | t :: _ :: l => if t.kind = 5 ∧ p t.str = true then 0 else posL p l + 2

theorem posL_hit {p : ByteArray → Bool} {t : VT} {l : List VT} (h : t.kind = 5 ∧ p t.str = true) : posL p (t :: l) = 0 := by
  cases l with
  | nil => rw [posL, if_pos h]
  | cons u l => rw [posL, if_pos h]

theorem posL_one {p : ByteArray → Bool} {t : VT} (h : ¬ (t.kind = 5 ∧ p t.str = true)) : posL p [t] = 1 := by rw [posL, if_neg h]

theorem posL_two {p : ByteArray → Bool} {t u : VT} {l : List VT} (h : ¬ (t.kind = 5 ∧ p t.str = true)) : posL p (t :: u :: l) = posL p l + 2 := by rw [posL, if_neg h]

theorem posL_le (p : ByteArray → Bool) : ∀ l : List VT, posL p l ≤ l.length
  | [] => Nat.le_refl _
  | [t] => by rw [posL]; split <;> simp
  | t :: u :: l => by
    have := posL_le p l
    rw [posL]
    split
    · simp
    · simp only [List.length_cons]; omega

def pEq (key s : ByteArray) : Bool := s.toList == key.toList

def pGt (key s : ByteArray) : Bool := Op.bytesLess key.toList s.toList

theorem pEq_iff {key : ByteArray} {t : VT} : (t.kind = 5 ∧ pEq key t.str = true) ↔ hitT key t := by
  unfold pEq hitT
  constructor
  · rintro ⟨h1, h2⟩
    exact ⟨h1, toList_inj (by simpa using h2)⟩
  · rintro ⟨h1, h2⟩
    exact ⟨h1, by rw [h2]; simp⟩

theorem pos_find (key : ByteArray) : ∀ l : List VT, (∃ j, findL key l = some j ∧ posL (pEq key) l = 2 * j ∧ 2 * j < l.length) ∨ (findL key l = none ∧ posL (pEq key) l = l.length)
  | [] => .inr ⟨findL_nil key, rfl⟩
  | [t] => by
    by_cases h : hitT key t
    · exact .inl ⟨0, findL_hit h, posL_hit (pEq_iff.2 h), by simp⟩
    · exact .inr ⟨by rw [findL_no h]; rfl, posL_one (fun e => h (pEq_iff.1 e))⟩
  | t :: u :: l => by
    by_cases h : hitT key t
    · exact .inl ⟨0, findL_hit h, posL_hit (pEq_iff.2 h), by simp⟩
    · have h2 := posL_two (l := l) (u := u) (fun e => h (pEq_iff.1 e))
      have h3 := findL_no (l := u :: l) h
      rw [List.drop_succ_cons, List.drop_zero] at h3
      rcases pos_find key l with ⟨j, e1, e2, e3⟩ | ⟨e1, e2⟩
      · exact .inl ⟨j + 1, by rw [h3, e1]; rfl, by rw [h2, e2]; omega, by simp only [List.length_cons]; omega⟩
      · exact .inr ⟨by rw [h3, e1]; rfl, by rw [h2, e2]; simp only [List.length_cons]⟩

theorem pGt_iff {key : ByteArray} {t : VT} : (t.kind = 5 ∧ pGt key t.str = true) ↔ gtT key t := Iff.rfl

theorem ins_pos (key : ByteArray) (x : VT) : ∀ l : List VT, insL key x l = l.take (posL (pGt key) l) ++ nmT key :: x :: l.drop (posL (pGt key) l)
  | [] => by rw [insL, posL]; rfl
  | [t] => by
    by_cases h : gtT key t
    · rw [insL, if_pos h, posL_hit (pGt_iff.2 h)]; rfl
    · rw [insL, if_neg h, posL_one (fun e => h (pGt_iff.1 e))]; rfl
  | t :: u :: l => by
    by_cases h : gtT key t
    · rw [ins_gt h, posL_hit (pGt_iff.2 h)]; rfl
    · rw [ins_le h, posL_two (fun e => h (pGt_iff.1 e)), ins_pos key x l]
      rfl

theorem posL_drop {p : ByteArray → Bool} {l : List VT} {q : Nat} {t : VT} (hd : l.drop q = t :: l.drop (q + 1)) (h : ¬ (t.kind = 5 ∧ p t.str = true)) (he : posL p l = q + posL p (l.drop q)) (hq : q < l.length) :
    (posL p l = (q + 2) + posL p (l.drop (q + 2)) ∧ q + 2 ≤ l.length) ∨ (q + 2 = l.length + 1 ∧ posL p l = l.length) := by
  by_cases h1 : q + 1 < l.length
  · have h2 : l.drop (q + 1) = l[q + 1] :: l.drop (q + 2) := List.drop_eq_getElem_cons h1
    rw [he, hd, h2, posL_two h]
    exact .inl ⟨by omega, by omega⟩
  · have h2 : l.drop (q + 1) = [] := List.drop_of_length_le (by omega)
    rw [he, hd, h2, posL_one h]
    exact .inr ⟨by omega, by omega⟩

/-- What place tells. -/
def PlaceTo (w : World) (k : Int) (l : List VT) (key : ByteArray) (e : Ending) (w' : World) : Prop :=
  ∃ (q : Nat) (b : Bool), e = .returned (.tuple #[.int .i64 (q : Nat), .bool b]) ∧ Chg NoS w w' ∧ ((b = false ∧ (k ≠ 7 ∨ k = 7 ∧ findL key l = none)) ∨ (b = true ∧ k = 7 ∧ ∃ j, findL key l = some j ∧ q = 2 * j ∧ q < l.length))

end Go.Proofs.Ytaababegolfjeaa

/- The document's own Put (written by mkrvt10.py). -/
namespace Go.Proofs.Ytaababegolfjeaa
open Go.RowKit
set_option linter.unusedVariables false
set_option linter.unusedSimpArgs false

/-- Values that were laid into a new block. -/
theorem src_new (W : World) (T : TypeId) (es : List VC) (cs : Array Value) (hcs : cs = (vcells es).toArray) (n cx : Nat) (hn : es.length = n) : Src (W.alloc (.cells cs T)) 4 (some ⟨W.heap.size, 0, none⟩) n cx (vcells es) := by
  refine ⟨by rw [vcells_len, hn], fun e => (by cases e), fun ad ha j u hj => ?_⟩
  cases ha
  have hadd : (⟨W.heap.size, 0, none⟩ : Addr).add j = ⟨W.heap.size, j, none⟩ := by unfold Addr.add; split <;> simp_all
  rw [hadd, (Blk.new W T cs).cell, hcs]
  simpa using hj

/-- An element of a row: its cells in every later world. -/
theorem el_at {w : World} {b off q : Nat} {l : List VT} {t : VT} (h : RowIs w (some ⟨b, off, none⟩) 0 l) (ht : l[q]? = some t) : ∃ (eA : Option Addr) (el ec : Nat), ValIs w t ⟨t.kind, t.num, t.str, eA, el, ec⟩ ∧
    ∀ W, Chg NoS w W → W.cell? ⟨b, off + q * 4, none⟩ = some (.int .i64 t.kind) ∧ W.cell? ⟨b, off + q * 4 + 1, none⟩ = some (.int .i64 t.num) ∧ W.cell? ⟨b, off + q * 4 + 2, none⟩ = some (.string t.str) ∧ W.cell? ⟨b, off + q * 4 + 3, none⟩ = some (.slice eA el ec) := by
  obtain ⟨eA, el, ec, d0, d1, d2, d3, hv⟩ := h.nth (Chg.refl NoS w) ht
  refine ⟨eA, el, ec, hv, fun W hc => ⟨?_, ?_, ?_, ?_⟩⟩
  · exact (hc.cell (p := ⟨b, _, none⟩) (cell_lt d0) (fun h => h)).trans d0
  · exact (hc.cell (p := ⟨b, _, none⟩) (cell_lt d1) (fun h => h)).trans d1
  · exact (hc.cell (p := ⟨b, _, none⟩) (cell_lt d2) (fun h => h)).trans d2
  · exact (hc.cell (p := ⟨b, _, none⟩) (cell_lt d3) (fun h => h)).trans d3

/-- Three values' blocks of the call's own, and a row that grows. -/
structure PS (w W : World) (g gx go : Nat) (cv cx cz : Array Value) (es : List VC) (ts : List VT) (m : Nat) (A : Option Addr) (c : Nat) : Prop where
  bv : PB w W g cv
  bx : PB w W gx cx
  bo : PB w W go cz
  gv : GV w W es ts m A c
  nv : (Value.slice A m c).ownBlock ≠ some g
  nx : (Value.slice A m c).ownBlock ≠ some gx
  no : (Value.slice A m c).ownBlock ≠ some go

theorem PS.app {w W W' : World} {g gx go : Nat} {cv cx cz : Array Value} {es es' : List VC} {ts ts' : List VT} {m m' c c' : Nat} {A A' : Option Addr} (h : PS w W g gx go cv cx cz es ts m A c) (o : Obj) (hg : GV w W' es' ts' m' A' c')
    (hk : ∀ (g : Nat) (T : TypeId) (cs : Array Value), Blk (W.alloc o) g T cs → (Value.slice A m c).ownBlock ≠ some g → Blk W' g T cs ∧ (Value.slice A' m' c').ownBlock ≠ some g) : PS w W' g gx go cv cx cz es' ts' m' A' c' :=
  ⟨((h.bv.alloc o).kept hk h.nv).1, ((h.bx.alloc o).kept hk h.nx).1, ((h.bo.alloc o).kept hk h.no).1, hg, ((h.bv.alloc o).kept hk h.nv).2, ((h.bx.alloc o).kept hk h.nx).2, ((h.bo.alloc o).kept hk h.no).2⟩

theorem PS.call {w W W' : World} {g gx go : Nat} {cv cx cz : Array Value} {es : List VC} {ts : List VT} {m c : Nat} {A : Option Addr} (h : PS w W g gx go cv cx cz es ts m A c) (hc : Chg NoS W W') : PS w W' g gx go cv cx cz es ts m A c :=
  ⟨h.bv.call hc, h.bx.call hc, h.bo.call hc, h.gv.call hc, h.nv, h.nx, h.no⟩

theorem is_one {w : World} {t : VT} {e : VC} (h : ValIs w t e) : ∀ (j : Nat) (t' : VT) (e' : VC), [t][j]? = some t' → [e][j]? = some e' → ValIs w t' e' := by
  intro j t' e' h1 h2
  cases j with
  | zero => simp at h1 h2; subst h1 h2; exact h
  | succ j => simp at h1

theorem is_two {w : World} {t u : VT} {e f : VC} (h : ValIs w t e) (k : ValIs w u f) : ∀ (j : Nat) (t' : VT) (e' : VC), [t, u][j]? = some t' → [e, f][j]? = some e' → ValIs w t' e' := by
  intro j t' e' h1 h2
  match j with
  | 0 => simp at h1 h2; subst h1 h2; exact h
  | 1 => simp at h1 h2; subst h1 h2; exact k
  | j + 2 => simp at h1

theorem nm_is (w : World) (key : ByteArray) (hk : key.size ≤ maxLen) : ValIs w (nmT key) ⟨5, 0, key, none, 0, 0⟩ := .mk ⟨5, 0, key, none, 0, 0⟩ [] ⟨⟨(by decide : (-9223372036854775808 : Int) ≤ 5), (by decide : (5 : Int) ≤ 9223372036854775807)⟩, ⟨(by decide : (-9223372036854775808 : Int) ≤ 0), (by decide : (0 : Int) ≤ 9223372036854775807)⟩, hk, fun _ => ⟨rfl, rfl⟩, Nat.le_refl _, Nat.zero_le _⟩ rfl (.nil _ _)

theorem put_no {k n : Int} {s key : ByteArray} {x : VT} {l : List VT} (h : k ≠ 7) : putT (.mk k n s l) key x = .mk k n s l := by rw [putT, if_neg h]

theorem put_7 {n : Int} {s key : ByteArray} {x : VT} {l : List VT} : putT (.mk 7 n s l) key x = .mk 7 n s (putL key x l) := by rw [putT, if_pos rfl]

theorem putL_len (key : ByteArray) (x : VT) (l : List VT) : (putL key x l).length ≤ l.length + 2 := by
  have hi : ∀ (N : Nat) (l : List VT), l.length ≤ N → (insL key x l).length ≤ l.length + 2 := by
    intro N
    induction N using Nat.strongRecOn with
    | _ N ih =>
      intro l hl
      match l with
      | [] => rw [insL]; exact Nat.le_refl _
      | [a] => rw [insL]; split <;> exact Nat.le_refl _
      | a :: u :: l' =>
        simp only [List.length_cons] at hl
        by_cases hg : gtT key a
        · rw [ins_gt hg]; simp
        · rw [ins_le hg]
          have := ih (N - 1) (by omega) l' (by omega)
          simp only [List.length_cons]
          omega
  unfold putL
  split
  · unfold replL; simp only [List.length_append, List.length_take, List.length_cons, List.length_drop]; omega
  · exact hi _ l (Nat.le_refl _)

/-- The step of what is left where nothing was found. -/
noncomputable def leftL (key : ByteArray) (x : VT) (done : Bool) (l : List VT) : List VT := if done then l else insL key x l

theorem left_gt {key : ByteArray} {x t : VT} {r : List VT} (h : gtT key t) : leftL key x false (t :: r) = nmT key :: x :: leftL key x true (t :: r) := by
  show insL key x (t :: r) = _
  cases r with
  | nil => rw [insL, if_pos h]; rfl
  | cons u r => rw [ins_gt h]; rfl

theorem left_le {key : ByteArray} {x t : VT} {r : List VT} (h : ¬ gtT key t) : leftL key x false (t :: r) = t :: (r.take 1 ++ leftL key x false (r.drop 1)) := by
  show insL key x (t :: r) = _
  cases r with
  | nil => rw [insL, if_neg h]; rfl
  | cons u r => rw [ins_le h]; rfl

theorem left_done {key : ByteArray} {x t : VT} {r : List VT} : leftL key x true (t :: r) = t :: (r.take 1 ++ leftL key x true (r.drop 1)) := by
  show t :: r = t :: (r.take 1 ++ r.drop 1)
  rw [List.take_append_drop]

end Go.Proofs.Ytaababegolfjeaa

/- Concat of two and of three rows of values; a value's box whose row is another one. -/
namespace Go.Proofs.Ytaababegolfjeaa
open Go.RowKit
set_option linter.unusedVariables false
set_option linter.unusedSimpArgs false

/-- A piece of values that lies in memory; its trees lie in an elder world. -/
structure PcV (w0 W : World) (A : Option Addr) (m c : Nat) (es : List VC) (ts : List VT) : Prop where
  src : Src W 4 A m c (vcells es)
  len : es.length = m
  tlen : ts.length = m
  is : ∀ (j : Nat) (t : VT) (e : VC), ts[j]? = some t → es[j]? = some e → ValIs w0 t e

theorem PcV.ok {w0 W : World} {A : Option Addr} {m c : Nat} {es : List VC} {ts : List VT} (h : PcV w0 W A m c es ts) (hc : Chg NoS w0 W) : SlV.Ok W W ⟨A, c, es, ts⟩ := by
  have h1 := h.len
  subst h1
  exact ⟨h.src, h.tlen, fun j t e a b => (h.is j t e a b).chg hc⟩

/-- What Concat tells. -/
def CatTo (w0 W : World) (N : Nat) (es : List VC) (ts : List VT) (e : Ending) (w' : World) : Prop :=
  ∃ A3 c3, e = .returned (.slice A3 N c3) ∧ GV w0 w' es ts N A3 c3 ∧ Chg NoS W w' ∧ ∀ g, g < W.heap.size → (Value.slice A3 N c3).ownBlock ≠ some g

theorem src_row1 {W : World} {G : Nat} {T : TypeId} {L : List Value} {n : Nat} (hb : Blk W G T L.toArray) (hn : L.length = n) : Src W 1 (some ⟨G, 0, none⟩) n n L := by
  refine ⟨by omega, fun e => (by cases e), fun ad ha j u hj => ?_⟩
  cases ha
  have hadd : (⟨G, 0, none⟩ : Addr).add j = ⟨G, j, none⟩ := by unfold Addr.add; split <;> simp_all
  rw [hadd, hb.cell j]
  simpa using hj

theorem is_app {w0 : World} {es es' : List VC} {ts ts' : List VT} {m : Nat} (h1 : es.length = m) (h2 : ts.length = m) (hi : ∀ (j : Nat) (t : VT) (e : VC), ts[j]? = some t → es[j]? = some e → ValIs w0 t e) (hi' : ∀ (j : Nat) (t : VT) (e : VC), ts'[j]? = some t → es'[j]? = some e → ValIs w0 t e) :
    ∀ (j : Nat) (t : VT) (e : VC), (ts ++ ts')[j]? = some t → (es ++ es')[j]? = some e → ValIs w0 t e := by
  intro j t e ht he
  by_cases hj : j < m
  · rw [List.getElem?_append_left (by omega)] at ht
    rw [List.getElem?_append_left (by omega)] at he
    exact hi j t e ht he
  · rw [List.getElem?_append_right (by omega), h2] at ht
    rw [List.getElem?_append_right (by omega), h1] at he
    exact hi' _ t e ht he

theorem pc_nil {w0 W : World} {A : Option Addr} {c : Nat} (h : A = none → c = 0) : PcV w0 W A 0 c [] [] :=
  ⟨⟨rfl, fun e => ⟨rfl, h e⟩, fun ad ha j u hj => (by simp [vcells] at hj)⟩, rfl, rfl, fun j t e h => (by simp at h)⟩

/-- The pieces of a row that came in. -/
theorem pieces {w : World} {b off : Nat} {l : List VT} (hr : RowIs w (some ⟨b, off, none⟩) 0 l) : ∃ es : List VC, es.length = l.length ∧
    (∀ (W : World) (q cx : Nat), Chg NoS w W → q ≤ l.length → PcV w W (some ⟨b, off, none⟩) q cx (es.take q) (l.take q)) ∧
    (∀ (W : World) (r o m cx : Nat), Chg NoS w W → r + m = l.length → (0 < m → o = off + r * 4) → PcV w W (some ⟨b, o, none⟩) m cx (es.drop r) (l.drop r)) := by
  obtain ⟨es, hes, hec, hei⟩ := hr.list
  refine ⟨es, hes, fun W q cx hc hq => ⟨?_, by rw [List.length_take, hes]; omega, by rw [List.length_take]; omega, fun j t e h1 h2 => ?_⟩, fun W r o m cx hc hr2 ho => ?_⟩
  · have h := src_piece (p := 0) (m := q) (cx := cx) hec hc (by rw [hes]; omega)
    simpa using h
  · rw [List.getElem?_take] at h1 h2
    split at h1
    · next h => rw [if_pos h] at h2; exact hei j t e h1 h2
    · cases h1
  · by_cases hm : m = 0
    · subst hm
      rw [List.drop_of_length_le (by omega), List.drop_of_length_le (by omega)]
      exact pc_nil (fun e => (by cases e))
    · obtain rfl := ho (by omega)
      refine ⟨?_, by rw [List.length_drop, hes]; omega, by rw [List.length_drop]; omega, fun j t e h1 h2 => ?_⟩
      · have h := src_piece (p := r) (m := m) (cx := cx) hec hc (by rw [hes]; omega)
        rwa [List.take_of_length_le (by rw [List.length_drop, hes]; omega)] at h
      · rw [List.getElem?_drop] at h1 h2
        exact hei _ t e h1 h2

theorem pc_one {w W : World} {t : VT} {e : VC} {B : Nat} (hv : ValIs w t e) (hb : Blk W B 27 #[.int .i64 e.k, .int .i64 e.n, .string e.s, .slice e.A e.len e.cap]) : PcV w W (some ⟨B, 0, none⟩) 1 1 [e] [t] :=
  ⟨src_one (fun i hi => by
    rw [hb.cell i]
    match i, hi with
    | 0, _ => rfl
    | 1, _ => rfl
    | 2, _ => rfl
    | 3, _ => rfl), rfl, rfl, is_one hv⟩

theorem pc_two {w W : World} {t u : VT} {e f : VC} {B : Nat} (hv : ValIs w t e) (hu : ValIs w u f) (hb : Blk W B 27 #[.int .i64 e.k, .int .i64 e.n, .string e.s, .slice e.A e.len e.cap, .int .i64 f.k, .int .i64 f.n, .string f.s, .slice f.A f.len f.cap]) : PcV w W (some ⟨B, 0, none⟩) 2 2 [e, f] [t, u] := by
  refine ⟨⟨rfl, fun e => (by cases e), fun ad ha j x hj => ?_⟩, rfl, rfl, is_two hv hu⟩
  cases ha
  have hadd : (⟨B, 0, none⟩ : Addr).add j = ⟨B, j, none⟩ := by unfold Addr.add; split <;> simp_all
  rw [hadd, hb.cell j]
  rw [show vcells [e, f] = [.int .i64 e.k, .int .i64 e.n, .string e.s, .slice e.A e.len e.cap, .int .i64 f.k, .int .i64 f.n, .string f.s, .slice f.A f.len f.cap] from rfl] at hj
  simpa using hj

/-- What holds behind Concat of the two boxes, and of the row that it tells. -/
structure Bx (w W : World) (g go : Nat) (cv cz : Array Value) (es : List VC) (ts : List VT) (m : Nat) (A : Option Addr) (c : Nat) : Prop where
  b : PB w W g cv
  o : PB w W go cz
  row : GV w W es ts m A c
  nb : (Value.slice A m c).ownBlock ≠ some g
  no : (Value.slice A m c).ownBlock ≠ some go
  ne : g ≠ go

theorem Bx.drew {w W : World} {g go : Nat} {cv cz : Array Value} {es : List VC} {ts : List VT} {m c : Nat} {A : Option Addr} (h : Bx w W g go cv cz es ts m A c) : Bx w W.drew g go cv cz es ts m A c := ⟨h.b.drew, h.o.drew, h.row.call ((Chg.refl NoS W).drew), h.nb, h.no, h.ne⟩

/-- The new row is stored in the value's box. -/
theorem Bx.put {w W : World} {g go : Nat} {k n : Int} {s : ByteArray} {v : Value} {cz : Array Value} {es : List VC} {ts : List VT} {m c : Nat} {A : Option Addr} (h : Bx w W g go #[.int .i64 k, .int .i64 n, .string s, v] cz es ts m A c) :
    Bx w (W.setCell ⟨g, 3, none⟩ (.slice A m c)) g go #[.int .i64 k, .int .i64 n, .string s, .slice A m c] cz es ts m A c :=
  ⟨h.b.set 3 _, h.o.far (Ne.symm h.ne) 3 _, h.row.far h.nb h.b.new 3 _, h.nb, h.no, h.ne⟩

/-- The value is told: its four cells in the result's box. -/
theorem Bx.fin {w W : World} {g go : Nat} {k n : Int} {s : ByteArray} {cv cz : Array Value} {es : List VC} {ts : List VT} {m c : Nat} {A : Option Addr} (h : Bx w W g go cv cz es ts m A c) (hz : cz.size = 4) (hm : m ≤ maxLen)
    (hk : -9223372036854775808 ≤ k ∧ k ≤ 9223372036854775807) (hn : -9223372036854775808 ≤ n ∧ n ≤ 9223372036854775807) (hs : s.size ≤ maxLen) (W' : World) (hW : W' = (((W.setCell ⟨go, 0, none⟩ (.int .i64 k)).setCell ⟨go, 1, none⟩ (.int .i64 n)).setCell ⟨go, 2, none⟩ (.string s)).setCell ⟨go, 3, none⟩ (.slice A m c)) :
    PB w W' go #[.int .i64 k, .int .i64 n, .string s, .slice A m c] ∧ ValIs W' (.mk k n s ts) ⟨k, n, s, A, m, c⟩ ∧ Chg NoS w W' := by
  subst hW
  obtain ⟨h1, h2⟩ := h.o.set4 (a := .int .i64 k) (b := .int .i64 n) (c := .string s) (d := .slice A m c) h.row.chg hz
  exact ⟨h1, ((((h.row.far h.no h.o.new 0 _).far h.no h.o.new 1 _).far h.no h.o.new 2 _).far h.no h.o.new 3 _).val hm k n s hk hn hs, h2⟩

end Go.Proofs.Ytaababegolfjeaa

/- The library's Chunk and Collect at rows of values: pairs. -/
namespace Go.Proofs.Ytaababegolfjeaa
open Go.RowKit Go.Shelf
set_option linter.unusedVariables false
set_option linter.unusedSimpArgs false
attribute [local go_sem] Oper.semAt_some

/-- A loop over an iterator whose rounds come in a known order; what is kept may lie in blocks that the rounds make. -/
theorem range_order_own {P : Program} {n : Nat} {g : Operand} {ps : Array Tmp} {assign body : Code} {Q : Exit → Act → World → Prop} {a : Act} {w : World} (h1 : 1 ≤ n) {gf : Nat} {lb : Array Value}
    (hg : a.eval g = .func (.func gf) #[] lb) (eg : ∀ args w, (callFunc gf args).run P w = .ok (.enter gf args) w) (N : Nat) (encs : Nat → Array Value) (hps : ∀ t, (encs t).size = ps.size)
    (I : Nat → World → Prop) (hput : ∀ t W s o, I t W → W.heap[w.heap.size + 1]? = some (.loop s) → I t (W.putObj (w.heap.size + 1) o)) (hal : ∀ t W o, I t W → I t (W.alloc o)) (hdr : ∀ t W k, I t W → I t (W.drewN k)) (h0 : I 0 w)
    (hseq : ∀ (l : Nat) (J : Nat → World → Prop) (W : World), (∀ t W1, J t W1 → I t W1) → (∀ t W1 k, J t W1 → J t (W1.drewN k)) → (∀ t W1, t < N → J t W1 → YieldAt Fence.wide (n - 1 - 1) P l (encs t) W1 fun e W' => e = .returned (.bool true) ∧ J (t + 1) W') → J 0 W →
      CallsIn Fence.wide (n - 1) P gf (#[.func (.yield l) #[] #[]] ++ lb) W fun e W' => (∃ v, e = .returned v) ∧ J N W')
    (a₁ : Nat → Act)
    (hassign : ∀ (l t : Nat) (W : World) (K : Act → World → Prop), K (a₁ t) W →
      assign.wpIn (Fence.wide.inRound l) (n - 1 - 1) P (Exit.then K (fun _ _ _ => False)) { tmps := (ps.zip (encs t)).foldl (fun t (p, v) => t.setIfInBounds p v) a.tmps, defers := [] } W)
    (hbody : ∀ (l t : Nat) (W : World), t < N → I t W → body.wpIn (Fence.wide.inRound l) (n - 1 - 1) P (fun e _ W' => e = .normal ∧ KeepsFrom w.heap.size W W' ∧ I (t + 1) W') (a₁ t) W)
    (hdone : ∀ (D : Nat) (W : World), w.heap.size ≤ D → I N W → W.heap[D]? = some (.deferred (some [])) → Q .normal { a with defers := { target := .collected D, args := #[] } :: a.defers } W) :
    (Code.rangeFunc g ps assign body).wpIn Fence.wide n P Q a w := by
  refine wpIn_rangeFunc ?_
  intro fn hfn
  obtain ⟨R, hR⟩ : ∃ R : LoopState → Loop, R = fun s => { state := s, pending := none, fn, tmps := a.tmps, params := ps, assign, body, defers := w.heap.size } := ⟨_, rfl⟩
  obtain ⟨V, hV⟩ : ∃ V, V = (w.alloc (.deferred (some []))).alloc (.loop (R .ready)) := ⟨_, rfl⟩
  have hrec : V.heap[w.heap.size + 1]? = some (.loop (R .ready)) := by
    have h2 := World.alloc_heap_new (w.alloc (.deferred (some []))) (.loop (R .ready))
    rw [World.size_alloc] at h2
    rw [hV]; exact h2
  have hdef : V.heap[w.heap.size]? = some (.deferred (some [])) := by
    rw [hV]
    exact (Below.heap_alloc _ _ _ (by simp)).trans (World.alloc_heap_new w _)
  have hIV : I 0 V := by rw [hV]; exact hal _ _ _ (hal _ _ _ h0)
  refine ⟨w.heap.size + 1, [{ target := .collected w.heap.size, args := #[] }], V, { target := .fn (.func gf) lb, args := #[.func (.yield (w.heap.size + 1)) #[] #[]] }, V, gf, #[.func (.yield (w.heap.size + 1)) #[] #[]] ++ lb, V, ?_, ?_, fun _ _ => trivial, ?_, fun _ => h1, ?_⟩
  · rw [hV, hR]
    exact run_enterLoop_outer _ _ _ _ _
  · simp only [resolve, hg]
    simp [go_sem]
  · simp [invoke, go_sem, eg]
  · refine (hseq (w.heap.size + 1) (fun t W => I t W ∧ W.heap[w.heap.size + 1]? = some (.loop (R .ready)) ∧ W.heap[w.heap.size]? = some (.deferred (some []))) V (fun _ _ h => h.1) (fun t W1 k h => ⟨hdr _ _ _ h.1, h.2.1, h.2.2⟩) ?_ ⟨hIV, hrec, hdef⟩).mono ?_
    · rintro t W ht ⟨hi, hl, hk⟩
      have hlt : w.heap.size + 1 < W.heap.size := (Array.getElem?_eq_some_iff.1 hl).1
      have hy := run_yield (P := P) (args := encs t) hl (by rw [hR]; exact hps t)
      rw [hR] at hy
      refine ⟨fn, _, assign, body, hy, roundIn_of_wpIn hfn (hassign _ t W _ ⟨_, run_beginRound hl (by rw [hR]), ?_⟩)⟩
      have hl2 : (W.putObj (w.heap.size + 1) (.loop { R .ready with state := .busy })).heap[w.heap.size + 1]? = some (.loop { R .ready with state := .busy }) := World.putObj_heap_same hlt
      have hk2 : (W.putObj (w.heap.size + 1) (.loop { R .ready with state := .busy })).heap[w.heap.size]? = some (.deferred (some [])) := (World.putObj_heap_other (by omega)).trans hk
      refine wpIn_mono (hbody _ t _ ht (hput _ _ _ _ hi hl)) ?_
      rintro e a3 W3 ⟨rfl, hkeep, hi3⟩
      have hl3 := hkeep.same _ _ (by omega) hl2 rfl
      have hk3 := hkeep.same _ _ (Nat.le_refl _) hk2 rfl
      have hend := run_endRound (P := P) none hl3
      refine ⟨_, _, hend, rfl, hput _ _ _ _ hi3 hl3, ?_, (World.putObj_heap_other (by omega)).trans hk3⟩
      rw [World.putObj_heap_same (Array.getElem?_eq_some_iff.1 hl3).1, hR]
      rfl
    · rintro e W2 ⟨⟨v, rfl⟩, hi, hl, hk⟩
      have hend := run_endLoop (P := P) hl (by rw [hR]; simp)
      rw [hR] at hend
      exact ⟨none, _, hend, hdone _ _ (Nat.le_refl _) (hput _ _ _ _ hi hl) ((World.putObj_heap_other (by omega)).trans hk)⟩

/-- The pair i of a row of values: a slice of two. -/
def pcell (b off i : Nat) : Value := .slice (some ⟨b, off + 2 * i * 4, none⟩) 2 2

theorem chunkV_any (w : World) (A : Option Addr) (len cap : Nat) :
    Calls Try.prog 41 #[.slice A len cap, .int .i64 2] w fun e w' => e = .returned (.func (.func 59) #[] #[.pointer (some ⟨w.heap.size, 0, none⟩), .pointer (some ⟨w.heap.size + 1, 0, none⟩)]) ∧ w' = (w.alloc (.cells #[.slice A len cap] 25)).alloc (.cells #[.int .i64 2] 3) := by
  go_enter Try.func41, Try.ntmps41
  go_wp2_with fail
  go_ret
  exact ⟨rfl, rfl⟩

set_option maxRecDepth 100000 in
set_option maxHeartbeats 4000000 in
theorem chunk1V_any (l m Bs Bn b off cap : Nat) (A : Option Addr) (hm : m ≤ 100000) (hA : 0 < m → A = some ⟨b, off, none⟩) (hcap : 2 * m ≤ cap) (J : Nat → World → Prop) (hJd : ∀ t W k, J t W → J t (W.drewN k))
    (hbox : ∀ t W1, J t W1 → W1.cell? ⟨Bs, 0, none⟩ = some (.slice A (2 * m) cap) ∧ W1.cell? ⟨Bn, 0, none⟩ = some (.int .i64 2))
    (hY : ∀ t W1, t < m → J t W1 → YieldAt Fence.wide 7 Try.prog l #[pcell b off t] W1 fun e W' => e = .returned (.bool true) ∧ J (t + 1) W')
    (W : World) (h0 : J 0 W) :
    CallsIn Fence.wide 8 Try.prog 59 #[.func (.yield l) #[] #[], .pointer (some ⟨Bs, 0, none⟩), .pointer (some ⟨Bn, 0, none⟩)] W fun e W' => (∃ v, e = .returned v) ∧ J m W' := by
  obtain ⟨L, hL⟩ : ∃ L, L = 2 * m := ⟨_, rfl⟩
  rw [← hL] at hbox hcap
  have HLL := keepf hL
  clear hL
  refine callsIn_of_wp Try.func59 rfl trivial ?_ rfl
  simp only [Try.ntmps59, List.size_toArray, List.length_cons, List.length_nil, Nat.reduceAdd, Nat.reduceSub, Array.replicate_succ, Array.replicate_zero, List.push_toArray, List.append_toArray, List.nil_append, List.cons_append]
  gi_wp2
  gi_loopw [4] (fun i wr => ∃ t p : Nat, t ≤ m ∧ Hid (p = 2 * t) ∧ i = .int .i64 (p : Nat) ∧ J t wr) (fun i _ => L - (intOf i).toNat)
  case atStart => exact ⟨0, 0, Nat.zero_le _, rfl, by go_num, h0⟩
  case round =>
    obtain ⟨t, p, ht, HP, rfl, hJ⟩ := hrel
    obtain ⟨hs, hn⟩ := hbox t wr hJ
    have hp := HP.out
    have hL := HLL.out
    by_cases hlt : t < m
    · have hmx : Try.prog.follows .mixedOrders = true := by kernel_rfl
      obtain rfl := hA (by omega)
      have i1 : (p : Int) < L := by omega
      have i2 : (p : Int) ≤ L := by omega
      have i3 : (p : Int) ≤ cap := by omega
      have i4 : p ≤ cap := by omega
      obtain ⟨u, hu⟩ : ∃ u, u = p + 2 := ⟨_, rfl⟩
      have e1 : (p : Int) + 2 = (u : Int) := by omega
      have k1 : IntKind.i64.wrap (u : Int) = (u : Int) := by rw [IntKind.wrap_i64]; omega
      have hmin : (if 2 < ((L - p : Nat) : Int) then 2 else ((L - p : Nat) : Int)) = 2 := by split <;> omega
      have hmin2 : (if ((L - p : Nat) : Int) < 2 then ((L - p : Nat) : Int) else 2) = 2 := by split <;> omega
      have hmin3 : min 2 ((L - p : Nat) : Int) = 2 := by omega
      have e2 : u - p = 2 := by omega
      have j1 : (p : Int) ≤ u := by omega
      have j2 : (u : Int) ≤ cap := by omega
      have j3 : p ≤ u := by omega
      have j4 : u ≤ cap := by omega
      have hL1000 : L ≤ 200000 := by omega
      have HU := keepf hu
      clear hp hL hu
      gi_wp2
      gi_quiet (fail)
      have hy0 := hY t (wr.drewN nq) hlt (hJd _ _ _ hJ)
      unfold pcell at hy0
      rw [← HP.out] at hy0
      obtain ⟨fn, tmps, assign, body, hy, hR⟩ := hy0
      obtain ⟨hs2, hn2⟩ := hbox t (wr.drewN nq) (hJd _ _ _ hJ)
      clear hs hn
      gi_wp2
      refine hR.mono ?_
      rintro e W3 ⟨rfl, hJ3⟩
      obtain ⟨hs3, hn3⟩ := hbox (t + 1) W3 hJ3
      gi_wp2
      go_roundw
      case rel => exact ⟨t + 1, u, by omega, (by have h1 := HP.out; have h2 := HU.out; show u = _; omega), by go_num, hJ3⟩
      case measure => have h2 := HU.out; simp [intOf]; omega
    · have hx : ¬ ((p : Int) < L) := by omega
      obtain rfl : t = m := by omega
      clear hp hL
      gi_wp2
      go_end0
      exact ⟨⟨_, rfl⟩, hJ⟩

end Go.Proofs.Ytaababegolfjeaa

