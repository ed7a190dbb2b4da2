/- Trees of spans, and rows of spans in form: plain mathematics. -/
import Derived.RowKit
namespace Go.Proofs.Ytnbjigopgbjneaa
set_option linter.unusedVariables false

abbrev Sp := Int × Int

inductive Tr where
  | leaf : Tr
  | node : Sp → Tr → Tr → Tr

def flat : Tr → List Sp
  | .leaf => []
  | .node y l r => flat l ++ y :: flat r

def sizeT : Tr → Nat
  | .leaf => 0
  | .node _ l r => sizeT l + sizeT r + 1

/-- Once p fails it fails for all that follow. -/
def Anti (p : Sp → Bool) (l : List Sp) : Prop := l.Pairwise fun a b => p b = true → p a = true

theorem anti_yes {p : Sp → Bool} {y : Sp} {L R : List Sp} (h : Anti p (L ++ y :: R)) (hy : p y = true) : L.filter p = L ∧ L.filter (fun z => !p z) = [] := by
  have h1 : ∀ a ∈ L, p a = true := fun a ha => (List.pairwise_append.1 h).2.2 a ha y (List.mem_cons_self ..) hy
  constructor
  · exact List.filter_eq_self.2 h1
  · exact List.filter_eq_nil_iff.2 fun a ha => by simp [h1 a ha]

theorem anti_no {p : Sp → Bool} {y : Sp} {L R : List Sp} (h : Anti p (L ++ y :: R)) (hy : p y = false) : R.filter p = [] ∧ R.filter (fun z => !p z) = R := by
  have h1 : ∀ a ∈ R, p a = false := fun a ha => by
    have h2 := (List.pairwise_cons.1 (List.pairwise_append.1 h).2.1).1 a ha
    cases e : p a with
    | false => rfl
    | true => rw [h2 e] at hy; cases hy
  constructor
  · exact List.filter_eq_nil_iff.2 fun a ha => by simp [h1 a ha]
  · exact List.filter_eq_self.2 fun a ha => by simp [h1 a ha]

theorem anti_left {p : Sp → Bool} {L R : List Sp} (h : Anti p (L ++ R)) : Anti p L := (List.pairwise_append.1 h).1

theorem anti_right {p : Sp → Bool} {y : Sp} {L R : List Sp} (h : Anti p (L ++ y :: R)) : Anti p R := (List.pairwise_cons.1 (List.pairwise_append.1 h).2.1).2

theorem filter_split {p : Sp → Bool} : ∀ {l : List Sp}, Anti p l → l = l.filter p ++ l.filter (fun z => !p z)
  | [], _ => rfl
  | a :: l, h => by
    have h1 := filter_split (List.pairwise_cons.1 h).2
    cases e : p a with
    | true => simp only [List.filter_cons, e, if_true, Bool.not_true, Bool.false_eq_true, if_false, List.cons_append]; rw [← h1]
    | false =>
      have h2 := anti_no (L := []) (y := a) (R := l) (by simpa using h) e
      simp [e, h2.1, h2.2]

/-- Rows of spans that are not empty, rising, of which none touches the next one. -/
structure Form (l : List Sp) : Prop where
  up : l.Pairwise fun a b => a.2 < b.1
  ok : ∀ y ∈ l, 0 ≤ y.1 ∧ y.1 < y.2 ∧ y.2 ≤ 9223372036854775807

def Num (l : List Sp) (n : Int) : Prop := ∃ y ∈ l, y.1 ≤ n ∧ n < y.2

theorem Form.nil : Form [] := ⟨List.Pairwise.nil, fun _ h => (by cases h)⟩

theorem Form.tail {a : Sp} {l : List Sp} (h : Form (a :: l)) : Form l := ⟨(List.pairwise_cons.1 h.up).2, fun y hy => h.ok y (List.mem_cons_of_mem _ hy)⟩

theorem Form.head {a : Sp} {l : List Sp} (h : Form (a :: l)) : ∀ y ∈ l, a.2 < y.1 := (List.pairwise_cons.1 h.up).1

theorem Form.sub {l m : List Sp} (h : Form l) (hs : List.Sublist m l) : Form m := ⟨h.up.sublist hs, fun y hy => h.ok y (hs.subset hy)⟩

theorem num_nil (n : Int) : ¬ Num [] n := fun ⟨_, h, _⟩ => (by cases h)

theorem num_cons (a : Sp) (l : List Sp) (n : Int) : Num (a :: l) n ↔ (a.1 ≤ n ∧ n < a.2) ∨ Num l n := by
  constructor
  · rintro ⟨y, hy, h⟩
    rcases List.mem_cons.1 hy with rfl | hy
    · exact .inl h
    · exact .inr ⟨y, hy, h⟩
  · rintro (h | ⟨y, hy, h⟩)
    · exact ⟨a, List.mem_cons_self .., h⟩
    · exact ⟨y, List.mem_cons_of_mem _ hy, h⟩

theorem num_append (k l : List Sp) (n : Int) : Num (k ++ l) n ↔ Num k n ∨ Num l n := by
  constructor
  · rintro ⟨y, hy, h⟩
    rcases List.mem_append.1 hy with hy | hy
    · exact .inl ⟨y, hy, h⟩
    · exact .inr ⟨y, hy, h⟩
  · rintro (⟨y, hy, h⟩ | ⟨y, hy, h⟩)
    · exact ⟨y, List.mem_append.2 (.inl hy), h⟩
    · exact ⟨y, List.mem_append.2 (.inr hy), h⟩

theorem form_ext : ∀ {F G : List Sp}, Form F → Form G → (∀ n, Num F n ↔ Num G n) → F = G
  | [], [], _, _, _ => rfl
  | [], b :: G, _, hG, h => absurd ((h b.1).2 ⟨b, List.mem_cons_self .., Int.le_refl _, (hG.ok b (List.mem_cons_self ..)).2.1⟩) (num_nil _)
  | a :: F, [], hF, _, h => absurd ((h a.1).1 ⟨a, List.mem_cons_self .., Int.le_refl _, (hF.ok a (List.mem_cons_self ..)).2.1⟩) (num_nil _)
  | a :: F, b :: G, hF, hG, h => by
    have ha := hF.ok a (List.mem_cons_self ..)
    have hb := hG.ok b (List.mem_cons_self ..)
    have h1 := (num_cons b G a.1).1 ((h a.1).1 ((num_cons a F a.1).2 (.inl ⟨by omega, by omega⟩)))
    have h2 := (num_cons a F b.1).1 ((h b.1).2 ((num_cons b G b.1).2 (.inl ⟨by omega, by omega⟩)))
    have e1 : a.1 = b.1 := by
      rcases h1 with h1 | ⟨y, hy, h1⟩
      · rcases h2 with h2 | ⟨z, hz, h2⟩
        · omega
        · have := hF.head z hz; omega
      · have := hG.head y hy
        rcases h2 with h2 | ⟨z, hz, h2⟩
        · omega
        · have := hF.head z hz; omega
    have e2 : a.2 = b.2 := by
      rcases Int.lt_trichotomy a.2 b.2 with hl | he | hl
      · rcases (num_cons a F a.2).1 ((h a.2).2 ((num_cons b G a.2).2 (.inl ⟨by omega, by omega⟩))) with h3 | ⟨z, hz, h3⟩
        · omega
        · have := hF.head z hz; omega
      · exact he
      · rcases (num_cons b G b.2).1 ((h b.2).1 ((num_cons a F b.2).2 (.inl ⟨by omega, by omega⟩))) with h3 | ⟨z, hz, h3⟩
        · omega
        · have := hG.head z hz; omega
    have e : a = b := Prod.ext e1 e2
    subst e
    rw [form_ext hF.tail hG.tail (fun n => ?_)]
    constructor
    · intro hn
      rcases (num_cons a G n).1 ((h n).1 ((num_cons a F n).2 (.inr hn))) with h3 | h3
      · obtain ⟨y, hy, hy'⟩ := hn
        have := hF.head y hy; omega
      · exact h3
    · intro hn
      rcases (num_cons a F n).1 ((h n).2 ((num_cons a G n).2 (.inr hn))) with h3 | h3
      · obtain ⟨y, hy, hy'⟩ := hn
        have := hG.head y hy; omega
      · exact h3

/- The three parts by x. -/

def pA (x y : Sp) : Bool := decide (y.2 < x.1)

def pB (x y : Sp) : Bool := decide (y.1 ≤ x.2)

def partA (x : Sp) (F : List Sp) : List Sp := F.filter (pA x)

def partM (x : Sp) (F : List Sp) : List Sp := (F.filter (fun z => !pA x z)).filter (pB x)

def partB (x : Sp) (F : List Sp) : List Sp := (F.filter (fun z => !pA x z)).filter (fun z => !pB x z)

theorem antiA {F : List Sp} (h : Form F) (x : Sp) : Anti (pA x) F :=
  List.Pairwise.imp_of_mem (fun {a b} ha hb hr hp => by
    have h1 := h.ok b hb
    simp only [pA, decide_eq_true_eq] at hp ⊢
    omega) h.up

theorem antiB {F : List Sp} (h : Form F) (x : Sp) : Anti (pB x) F :=
  List.Pairwise.imp_of_mem (fun {a b} ha hb hr hp => by
    have h1 := h.ok a ha
    simp only [pB, decide_eq_true_eq] at hp ⊢
    omega) h.up

theorem form_rest {F : List Sp} (h : Form F) (x : Sp) : Form (F.filter (fun z => !pA x z)) := h.sub List.filter_sublist

theorem part_all {F : List Sp} (h : Form F) (x : Sp) : F = partA x F ++ (partM x F ++ partB x F) := by
  have h1 := filter_split (antiA h x)
  have h2 := filter_split (antiB (form_rest h x) x)
  unfold partA partM partB
  rw [← h2]
  exact h1

theorem memA {F : List Sp} {x y : Sp} (h : y ∈ partA x F) : y ∈ F ∧ y.2 < x.1 := by
  simpa [partA, pA] using h

theorem memM {F : List Sp} {x y : Sp} (h : y ∈ partM x F) : y ∈ F ∧ x.1 ≤ y.2 ∧ y.1 ≤ x.2 := by
  simp [partM, pA, pB] at h
  exact ⟨h.1, by omega, by omega⟩

theorem memM_of {F : List Sp} {x y : Sp} (h : y ∈ F) (h1 : x.1 ≤ y.2) (h2 : y.1 ≤ x.2) : y ∈ partM x F := by
  simp [partM, pA, pB]
  exact ⟨h, by omega, by omega⟩

theorem memB {F : List Sp} {x y : Sp} (h : y ∈ partB x F) : y ∈ F ∧ x.2 < y.1 := by
  simp [partB, pA, pB] at h
  exact ⟨h.1, by omega⟩

theorem formM {F : List Sp} (h : Form F) (x : Sp) : Form (partM x F) := (form_rest h x).sub List.filter_sublist

def hstep (h y : Sp) : Sp := (min h.1 y.1, max h.2 y.2)

def hull (x : Sp) (M : List Sp) : Sp := M.foldl hstep x

theorem hull_snoc (x : Sp) (M : List Sp) (y : Sp) : hull x (M ++ [y]) = hstep (hull x M) y := by simp [hull]

theorem hull_cons (x : Sp) (M : List Sp) (y : Sp) : hull x (y :: M) = hull (hstep x y) M := rfl

theorem hull_lo : ∀ (M : List Sp) (x : Sp), (hull x M).1 ≤ x.1 ∧ (∀ y ∈ M, (hull x M).1 ≤ y.1) ∧ ((hull x M).1 = x.1 ∨ ∃ y ∈ M, (hull x M).1 = y.1)
  | [], x => ⟨Int.le_refl _, fun _ h => (by cases h), .inl rfl⟩
  | z :: M, x => by
    obtain ⟨h1, h2, h3⟩ := hull_lo M (hstep x z)
    rw [← hull_cons] at h1 h2 h3
    simp only [hstep] at h1 h3
    refine ⟨by omega, fun y hy => ?_, ?_⟩
    · rcases List.mem_cons.1 hy with rfl | hy
      · omega
      · exact h2 y hy
    · rcases h3 with h3 | ⟨y, hy, h3⟩
      · rcases Int.le_total x.1 z.1 with h | h
        · exact .inl (by omega)
        · exact .inr ⟨z, List.mem_cons_self .., by omega⟩
      · exact .inr ⟨y, List.mem_cons_of_mem _ hy, h3⟩

theorem hull_hi : ∀ (M : List Sp) (x : Sp), x.2 ≤ (hull x M).2 ∧ (∀ y ∈ M, y.2 ≤ (hull x M).2) ∧ ((hull x M).2 = x.2 ∨ ∃ y ∈ M, (hull x M).2 = y.2)
  | [], x => ⟨Int.le_refl _, fun _ h => (by cases h), .inl rfl⟩
  | z :: M, x => by
    obtain ⟨h1, h2, h3⟩ := hull_hi M (hstep x z)
    rw [← hull_cons] at h1 h2 h3
    simp only [hstep] at h1 h3
    refine ⟨by omega, fun y hy => ?_, ?_⟩
    · rcases List.mem_cons.1 hy with rfl | hy
      · omega
      · exact h2 y hy
    · rcases h3 with h3 | ⟨y, hy, h3⟩
      · rcases Int.le_total x.2 z.2 with h | h
        · exact .inr ⟨z, List.mem_cons_self .., by omega⟩
        · exact .inl (by omega)
      · exact .inr ⟨y, List.mem_cons_of_mem _ hy, h3⟩

def putL (x : Sp) (F : List Sp) : List Sp := partA x F ++ hull x (partM x F) :: partB x F

theorem put_form {F : List Sp} (h : Form F) {x : Sp} (h0 : 0 ≤ x.1) (h1 : x.1 < x.2) (h2 : x.2 ≤ 9223372036854775807) : Form (putL x F) := by
  obtain ⟨l1, l2, l3⟩ := hull_lo (partM x F) x
  obtain ⟨u1, u2, u3⟩ := hull_hi (partM x F) x
  have hall := part_all h x
  have hup := h.up
  rw [hall] at hup
  obtain ⟨pa, pmb, pam⟩ := List.pairwise_append.1 hup
  obtain ⟨_, pb, pmb⟩ := List.pairwise_append.1 pmb
  constructor
  · refine List.pairwise_append.2 ⟨pa, List.pairwise_cons.2 ⟨fun b hb => ?_, pb⟩, fun a ha b hb => ?_⟩
    · have := (memB hb).2
      rcases u3 with u3 | ⟨y, hy, u3⟩
      · omega
      · have := pmb y hy b hb; omega
    · rcases List.mem_cons.1 hb with rfl | hb
      · have := (memA ha).2
        rcases l3 with l3 | ⟨y, hy, l3⟩
        · omega
        · have := pam a ha y (List.mem_append.2 (.inl hy)); omega
      · exact pam a ha b (List.mem_append.2 (.inr hb))
  · intro y hy
    rcases List.mem_append.1 hy with hy | hy
    · exact h.ok y (memA hy).1
    · rcases List.mem_cons.1 hy with rfl | hy
      · refine ⟨?_, by omega, ?_⟩
        · rcases l3 with l3 | ⟨y, hy, l3⟩
          · omega
          · have := h.ok y (memM hy).1; omega
        · rcases u3 with u3 | ⟨y, hy, u3⟩
          · omega
          · have := h.ok y (memM hy).1; omega
      · exact h.ok y (memB hy).1

theorem put_num {F : List Sp} (h : Form F) {x : Sp} (h1 : x.1 < x.2) (n : Int) : Num (putL x F) n ↔ Num F n ∨ (x.1 ≤ n ∧ n < x.2) := by
  obtain ⟨l1, l2, l3⟩ := hull_lo (partM x F) x
  obtain ⟨u1, u2, u3⟩ := hull_hi (partM x F) x
  have hall : Num F n ↔ Num (partA x F) n ∨ Num (partM x F) n ∨ Num (partB x F) n := by
    have e := part_all h x
    rw [← num_append, ← num_append, ← e]
  rw [hall, putL, num_append, num_cons]
  constructor
  · rintro (ha | hh | hb)
    · exact .inl (.inl ha)
    · by_cases c1 : n < x.1
      · rcases l3 with l3 | ⟨y, hy, l3⟩
        · omega
        · have := (memM hy).2; exact .inl (.inr (.inl ⟨y, hy, by omega, by omega⟩))
      · by_cases c2 : n < x.2
        · exact .inr ⟨by omega, c2⟩
        · rcases u3 with u3 | ⟨y, hy, u3⟩
          · omega
          · have := (memM hy).2; exact .inl (.inr (.inl ⟨y, hy, by omega, by omega⟩))
    · exact .inl (.inr (.inr hb))
  · rintro ((ha | ⟨y, hy, hh⟩ | hb) | hh)
    · exact .inl ha
    · have := l2 y hy; have := u2 y hy; exact .inr (.inl ⟨by omega, by omega⟩)
    · exact .inr (.inr hb)
    · exact .inr (.inl ⟨by omega, by omega⟩)

def uptoL (F : List Sp) (a : Int) : Int := match partM (a, a) F with | [] => a | y :: _ => y.2

theorem upto_one {F : List Sp} (h : Form F) (a : Int) : partM (a, a) F = [] ∨ ∃ y, partM (a, a) F = [y] := by
  have hM := formM h (a, a)
  rcases hm : partM (a, a) F with _ | ⟨y, l⟩
  · exact .inl rfl
  · rcases l with _ | ⟨z, l⟩
    · exact .inr ⟨y, rfl⟩
    · exfalso
      rw [hm] at hM
      have h1 := hM.head z (List.mem_cons_self ..)
      have h2 := (memM (F := F) (x := (a, a)) (y := y) (by rw [hm]; simp)).2
      have h3 := (memM (F := F) (x := (a, a)) (y := z) (by rw [hm]; simp)).2
      simp only at h2 h3
      omega

theorem upto_spec {F : List Sp} (h : Form F) (a : Int) : a ≤ uptoL F a ∧ (∀ n, a ≤ n → n < uptoL F a → Num F n) ∧ ¬ Num F (uptoL F a) := by
  rcases upto_one h a with hm | ⟨y, hm⟩
  · have e : uptoL F a = a := by unfold uptoL; rw [hm]
    rw [e]
    refine ⟨Int.le_refl _, fun n h1 h2 => by omega, fun ⟨z, hz, h1⟩ => ?_⟩
    have := memM_of (x := (a, a)) hz (by simp only; omega) (by simp only; omega)
    rw [hm] at this
    cases this
  · have e : uptoL F a = y.2 := by unfold uptoL; rw [hm]
    have hy := memM (F := F) (x := (a, a)) (y := y) (by rw [hm]; simp)
    simp only at hy
    rw [e]
    refine ⟨hy.2.1, fun n h1 h2 => ⟨y, hy.1, by omega, h2⟩, fun ⟨z, hz, h1⟩ => ?_⟩
    have hyz : y = z ∨ y.2 < z.1 ∨ z.2 < y.1 := by
      obtain ⟨i, hi, rfl⟩ := List.mem_iff_getElem.1 hy.1
      obtain ⟨j, hj, rfl⟩ := List.mem_iff_getElem.1 hz
      have hp := List.pairwise_iff_getElem.1 h.up
      rcases Nat.lt_trichotomy i j with hl | rfl | hl
      · exact .inr (.inl (hp i j hi hj hl))
      · exact .inl rfl
      · exact .inr (.inr (hp j i hj hi hl))
    have := h.ok y hy.1
    rcases hyz with rfl | hyz | hyz
    · omega
    · omega
    · omega

/- What is missing. -/

def mstep (s : List Sp × Int) (y : Sp) : List Sp × Int := (if s.2 < y.1 then s.1 ++ [(s.2, y.1)] else s.1, y.2)

def mst (a : Int) (ys : List Sp) : List Sp × Int := ys.foldl mstep ([], a)

theorem mst_snoc (a : Int) (ys : List Sp) (y : Sp) : mst a (ys ++ [y]) = mstep (mst a ys) y := by simp [mst]

def mend (s : List Sp × Int) (b : Int) : List Sp := if s.2 < b then s.1 ++ [(s.2, b)] else s.1

def missR (a b : Int) : List Sp → List Sp
  | [] => if a < b then [(a, b)] else []
  | y :: ys => (if a < y.1 then [(a, y.1)] else []) ++ missR y.2 b ys

theorem mend_fold (b : Int) : ∀ (ys : List Sp) (out : List Sp) (a : Int), mend (ys.foldl mstep (out, a)) b = out ++ missR a b ys
  | [], out, a => by
    show (if a < b then out ++ [(a, b)] else out) = out ++ missR a b []
    by_cases h : a < b
    · rw [if_pos h]; simp [missR, h]
    · rw [if_neg h]; simp [missR, h]
  | y :: ys, out, a => by
    rw [List.foldl_cons, mstep, mend_fold b ys]
    simp only [missR]
    split <;> simp

def missL (x : Sp) (F : List Sp) : List Sp := mend (mst x.1 (partM x F)) x.2

theorem miss_eq (x : Sp) (F : List Sp) : missL x F = missR x.1 x.2 (partM x F) := by
  unfold missL mst; rw [mend_fold]; simp

theorem missR_num (b : Int) : ∀ (ys : List Sp) (a : Int), Form ys → (∀ y ∈ ys, a ≤ y.2 ∧ y.1 ≤ b) → ∀ n, Num (missR a b ys) n ↔ a ≤ n ∧ n < b ∧ ¬ Num ys n
  | [], a, _, _, n => by
    simp only [missR]
    split
    · rw [num_cons]
      have := num_nil n
      constructor
      · rintro (h | h)
        · exact ⟨h.1, h.2, this⟩
        · exact absurd h this
      · rintro ⟨h1, h2, _⟩; exact .inl ⟨h1, h2⟩
    · constructor
      · intro h; exact absurd h (num_nil n)
      · rintro ⟨h1, h2, _⟩; omega
  | y :: ys, a, hF, hy, n => by
    have h1 := hy y (List.mem_cons_self ..)
    have h2 := hF.ok y (List.mem_cons_self ..)
    have ih := missR_num b ys y.2 hF.tail (fun z hz => ⟨by have := hF.head z hz; have := hF.ok z (List.mem_cons_of_mem _ hz); omega, (hy z (List.mem_cons_of_mem _ hz)).2⟩) n
    simp only [missR]
    rw [num_append, ih, num_cons]
    have hc : Num (if a < y.1 then [(a, y.1)] else []) n ↔ a ≤ n ∧ n < y.1 := by
      split
      · rw [num_cons]
        constructor
        · rintro (h | h)
          · exact h
          · exact absurd h (num_nil n)
        · exact .inl
      · constructor
        · intro h; exact absurd h (num_nil n)
        · intro h; omega
    rw [hc]
    constructor
    · rintro (h | ⟨h3, h4, h5⟩)
      · refine ⟨h.1, by omega, ?_⟩
        rintro (h3 | ⟨z, hz, h3⟩)
        · omega
        · have := hF.head z hz; omega
      · refine ⟨by omega, h4, ?_⟩
        rintro (h6 | h6)
        · omega
        · exact h5 h6
    · rintro ⟨h3, h4, h5⟩
      by_cases c : n < y.1
      · exact .inl ⟨h3, c⟩
      · have : ¬ n < y.2 := fun c2 => h5 (.inl ⟨by omega, c2⟩)
        exact .inr ⟨by omega, h4, fun h => h5 (.inr h)⟩

theorem missR_form (b : Int) (hb : b ≤ 9223372036854775807) : ∀ (ys : List Sp) (a : Int), 0 ≤ a → Form ys → (∀ y ∈ ys, a ≤ y.2 ∧ y.1 ≤ b) → Form (missR a b ys) ∧ ∀ z ∈ missR a b ys, a ≤ z.1 ∧ z.2 ≤ b
  | [], a, ha, _, _ => by
    simp only [missR]
    split
    · refine ⟨⟨by simp, fun y hy => ?_⟩, fun z hz => ?_⟩
      · simp at hy; subst hy; simp only; omega
      · simp at hz; subst hz; simp only; omega
    · exact ⟨Form.nil, fun _ h => (by cases h)⟩
  | y :: ys, a, ha, hF, hy => by
    have h1 := hy y (List.mem_cons_self ..)
    have h2 := hF.ok y (List.mem_cons_self ..)
    obtain ⟨i1, i2⟩ := missR_form b hb ys y.2 (by omega) hF.tail (fun z hz => ⟨by have := hF.head z hz; have := hF.ok z (List.mem_cons_of_mem _ hz); omega, (hy z (List.mem_cons_of_mem _ hz)).2⟩)
    simp only [missR]
    split
    · refine ⟨⟨List.pairwise_cons.2 ⟨fun z hz => ?_, i1.up⟩, fun z hz => ?_⟩, fun z hz => ?_⟩
      · have := i2 z hz; simp only; omega
      · rcases List.mem_cons.1 hz with rfl | hz
        · simp only; omega
        · exact i1.ok z hz
      · rcases List.mem_cons.1 hz with rfl | hz
        · simp only; omega
        · have := i2 z hz; omega
    · exact ⟨by simpa using i1, fun z hz => by have := i2 z (by simpa using hz); omega⟩

theorem miss_num {F : List Sp} (h : Form F) (x : Sp) (n : Int) : Num (missL x F) n ↔ x.1 ≤ n ∧ n < x.2 ∧ ¬ Num F n := by
  rw [miss_eq, missR_num x.2 _ _ (formM h x) (fun y hy => ⟨(memM hy).2.1, (memM hy).2.2⟩)]
  constructor
  · rintro ⟨h1, h2, h3⟩
    refine ⟨h1, h2, fun ⟨y, hy, h4⟩ => h3 ⟨y, memM_of hy (by omega) (by omega), h4⟩⟩
  · rintro ⟨h1, h2, h3⟩
    exact ⟨h1, h2, fun ⟨y, hy, h4⟩ => h3 ⟨y, (memM hy).1, h4⟩⟩

theorem miss_form {F : List Sp} (h : Form F) {x : Sp} (h0 : 0 ≤ x.1) (h2 : x.2 ≤ 9223372036854775807) : Form (missL x F) ∧ ∀ z ∈ missL x F, x.1 ≤ z.1 ∧ z.2 ≤ x.2 := by
  rw [miss_eq]
  exact missR_form x.2 h2 _ _ h0 (formM h x) (fun y hy => ⟨(memM hy).2.1, (memM hy).2.2⟩)

def sumL (F : List Sp) : Int := (F.map fun y => y.2 - y.1).foldl (· + ·) 0

theorem sumL_snoc (F : List Sp) (y : Sp) : sumL (F ++ [y]) = sumL F + (y.2 - y.1) := by simp [sumL]

/- Those that lie near are made one. -/

def jstep (gap : Int) (out : List Sp) (y : Sp) : List Sp :=
  match out.getLast? with
  | some z => if y.1 - z.2 ≤ gap then out.dropLast ++ [(z.1, y.2)] else out ++ [y]
  | none => out ++ [y]

def joinL (gap : Int) (F : List Sp) : List Sp := F.foldl (jstep gap) []

theorem joinL_snoc (gap : Int) (F : List Sp) (y : Sp) : joinL gap (F ++ [y]) = jstep gap (joinL gap F) y := by simp [joinL]

end Go.Proofs.Ytnbjigopgbjneaa
