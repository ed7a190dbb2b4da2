/- Lists of spans that come in; what a set has behind several puts. -/
import Derived.Test.YtnbjigopgbjneaaMiss
import Derived.Test.YtnbjigopgbjneaaWorkS
import Derived.OpenShut
namespace Go.Proofs.Ytnbjigopgbjneaa
open Go.RowKit Go.ChangeShapes Go.WideShapes
set_option linter.unusedVariables false

def goodS (y : Sp) : Prop := (-9223372036854775808 ≤ y.1 ∧ y.1 ≤ 9223372036854775807) ∧ (-9223372036854775808 ≤ y.2 ∧ y.2 ≤ 9223372036854775807)

theorem span_el {H : Type} {en : TypeId × Value → H} {w : World} {base n : Nat} {spare : Nat → Bool} {held : Bool} {cs : List Value} {y : DataW H × List MemPlace}
    (h : DataW.trod en Try.prog w base spare held n 55 cs = some y) : ∃ p, cs = encC p ∧ goodS p := by
  obtain ⟨u, v, m, y0, y1, rfl, h0, h1⟩ := el_two Try.underlying55 (by kernel_rfl) (by kernel_rfl) h
  obtain ⟨z0, e0, g0⟩ := el_int Try.underlying3 h0
  obtain ⟨z1, e1, g1⟩ := el_int Try.underlying3 h1
  simp only [List.cons.injEq, and_true] at e0 e1
  subst e0 e1
  exact ⟨(z0, z1), rfl, bounds_i64 g0, bounds_i64 g1⟩

def puts (l : List Sp) (F : List Sp) : List Sp := l.foldl (fun F x => putF x F) F

theorem puts_snoc (l : List Sp) (x : Sp) (F : List Sp) : puts (l ++ [x]) F = putF x (puts l F) := by simp [puts]

theorem puts_take {l : List Sp} {k : Nat} {x : Sp} (h : l[k]? = some x) (F : List Sp) : puts (l.take (k + 1)) F = putF x (puts (l.take k) F) := by
  rw [List.take_add_one, h, Option.toList_some, puts_snoc]

theorem putF_form {F : List Sp} (h : Form F) {x : Sp} (hx : x.2 ≤ 9223372036854775807) : Form (putF x F) := by
  unfold putF
  split
  · exact h
  · rename_i he
    simp [emptyB] at he
    exact put_form h (by omega) (by omega) hx

theorem putF_num {F : List Sp} (h : Form F) {x : Sp} (n : Int) : Num (putF x F) n ↔ Num F n ∨ (emptyB x = false ∧ x.1 ≤ n ∧ n < x.2) := by
  unfold putF
  split
  · rename_i he
    constructor
    · exact .inl
    · rintro (h1 | ⟨h1, _⟩)
      · exact h1
      · rw [he] at h1; cases h1
  · rename_i he
    have he' : emptyB x = false := by simpa using he
    simp [emptyB] at he
    rw [put_num h (by omega)]
    constructor
    · rintro (h1 | h1)
      · exact .inl h1
      · exact .inr ⟨he', h1⟩
    · rintro (h1 | ⟨_, h1⟩)
      · exact .inl h1
      · exact .inr h1

theorem putF_len (x : Sp) (F : List Sp) (h : Form F) : (putF x F).length ≤ F.length + 1 := by
  unfold putF
  split
  · omega
  · have := congrArg List.length (part_all h x)
    simp only [List.length_append] at this
    simp only [putL, List.length_append, List.length_cons]
    omega

theorem puts_form : ∀ (l : List Sp) (F : List Sp), Form F → (∀ y ∈ l, y.2 ≤ 9223372036854775807) → Form (puts l F)
  | [], F, h, _ => h
  | x :: l, F, h, hl => puts_form l _ (putF_form h (hl x (List.mem_cons_self ..))) (fun y hy => hl y (List.mem_cons_of_mem _ hy))

theorem puts_num : ∀ (l : List Sp) (F : List Sp), Form F → (∀ y ∈ l, y.2 ≤ 9223372036854775807) → ∀ n, Num (puts l F) n ↔ Num F n ∨ ∃ x ∈ l, emptyB x = false ∧ x.1 ≤ n ∧ n < x.2
  | [], F, h, _, n => by
    constructor
    · exact .inl
    · rintro (h1 | ⟨x, hx, _⟩)
      · exact h1
      · cases hx
  | x :: l, F, h, hl, n => by
    have ih := puts_num l (putF x F) (putF_form h (hl x (List.mem_cons_self ..))) (fun y hy => hl y (List.mem_cons_of_mem _ hy)) n
    show Num (puts l (putF x F)) n ↔ _
    rw [ih, putF_num h]
    constructor
    · rintro ((h1 | h1) | ⟨y, hy, h1⟩)
      · exact .inl h1
      · exact .inr ⟨x, List.mem_cons_self .., h1⟩
      · exact .inr ⟨y, List.mem_cons_of_mem _ hy, h1⟩
    · rintro (h1 | ⟨y, hy, h1⟩)
      · exact .inl (.inl h1)
      · rcases List.mem_cons.1 hy with rfl | hy
        · exact .inl (.inr h1)
        · exact .inr ⟨y, hy, h1⟩

theorem puts_len : ∀ (l : List Sp) (F : List Sp), Form F → (∀ y ∈ l, y.2 ≤ 9223372036854775807) → (puts l F).length ≤ F.length + l.length
  | [], F, _, _ => Nat.le_refl _
  | x :: l, F, h, hl => by
    have ih := puts_len l (putF x F) (putF_form h (hl x (List.mem_cons_self ..))) (fun y hy => hl y (List.mem_cons_of_mem _ hy))
    have := putF_len x F h
    show (puts l (putF x F)).length ≤ _
    simp only [List.length_cons]
    omega

/-- In whatever order spans are put in, the set is the same. -/
theorem puts_order {l m : List Sp} (hl : ∀ y ∈ l, y.2 ≤ 9223372036854775807) (h : ∀ y, y ∈ l ↔ y ∈ m) : puts l [] = puts m [] := by
  have hm : ∀ y ∈ m, y.2 ≤ 9223372036854775807 := fun y hy => hl y ((h y).2 hy)
  refine form_ext (puts_form l [] Form.nil hl) (puts_form m [] Form.nil hm) (fun n => ?_)
  rw [puts_num l [] Form.nil hl, puts_num m [] Form.nil hm]
  constructor
  · rintro (h1 | ⟨x, hx, h1⟩)
    · exact .inl h1
    · exact .inr ⟨x, (h x).1 hx, h1⟩
  · rintro (h1 | ⟨x, hx, h1⟩)
    · exact .inl h1
    · exact .inr ⟨x, (h x).2 hx, h1⟩

theorem missF_form {F : List Sp} (h : Form F) {x : Sp} (hx : x.2 ≤ 9223372036854775807) : Form (missF x F) ∧ ∀ z ∈ missF x F, x.1 ≤ z.1 ∧ z.2 ≤ x.2 := by
  unfold missF
  split
  · exact ⟨Form.nil, fun _ h => (by cases h)⟩
  · rename_i he
    simp [emptyB] at he
    exact miss_form h (by omega) hx

theorem missF_num {F : List Sp} (h : Form F) (x : Sp) (n : Int) : Num (missF x F) n ↔ emptyB x = false ∧ x.1 ≤ n ∧ n < x.2 ∧ ¬ Num F n := by
  unfold missF
  split
  · rename_i he
    constructor
    · intro h; exact absurd h (num_nil n)
    · rintro ⟨h1, _⟩; rw [he] at h1; cases h1
  · rename_i he
    have he' : emptyB x = false := by simpa using he
    rw [miss_num h]
    constructor
    · intro h; exact ⟨he', h⟩
    · exact fun h => h.2

theorem missF_len (x : Sp) (F : List Sp) : (missF x F).length ≤ F.length + 1 := by
  unfold missF
  split
  · simp
  · have h1 := mst_len x.1 _ (partM x F) rfl
    have h2 : (partM x F).length ≤ F.length := Nat.le_trans (List.length_filter_le _ _) (List.length_filter_le _ _)
    unfold missL mend
    split
    · simp; omega
    · omega

theorem form_empty {l : List Sp} (h : Form l) (hn : ∀ n, ¬ Num l n) : l = [] := by
  rcases l with _ | ⟨y, l⟩
  · rfl
  · exact absurd ((num_cons y l y.1).2 (.inl ⟨Int.le_refl _, (h.ok y (List.mem_cons_self ..)).2.1⟩)) (hn y.1)

theorem hasB_of {F : List Sp} (h : Form F) (x : Sp) : hasB x F = true ↔ ∀ n, emptyB x = false → x.1 ≤ n → n < x.2 → Num F n := by
  obtain ⟨u1, u2, u3⟩ := upto_spec h x.1
  cases he : emptyB x with
  | true => simp [hasB, he]
  | false =>
    simp [hasB, he]
    constructor
    · intro h1 n h2 h3
      exact u2 n h2 (by omega)
    · intro h1
      rcases Int.lt_or_le (uptoL F x.1) x.2 with h2 | h2
      · exact absurd (h1 _ u1 h2) u3
      · exact h2

/-- What is missing, put in, is there. -/
theorem miss_put {F : List Sp} (h : Form F) (x : Sp) (hx : x.2 ≤ 9223372036854775807) : hasB x (puts (missF x F) F) = true ∧ missF x (puts (missF x F) F) = [] := by
  obtain ⟨m1, m2⟩ := missF_form h hx
  have hb : ∀ y ∈ missF x F, y.2 ≤ 9223372036854775807 := fun y hy => (m1.ok y hy).2.2
  have hP := puts_form (missF x F) F h hb
  have hall : ∀ n, emptyB x = false → x.1 ≤ n → n < x.2 → Num (puts (missF x F) F) n := by
    intro n he h1 h2
    rw [puts_num _ _ h hb]
    by_cases hn : Num F n
    · exact .inl hn
    · obtain ⟨y, hy, h3⟩ := (missF_num h x n).2 ⟨he, h1, h2, hn⟩
      have := m1.ok y hy
      exact .inr ⟨y, hy, by simp [emptyB]; omega, h3⟩
  refine ⟨(hasB_of hP x).2 hall, form_empty (missF_form hP hx).1 (fun n hn => ?_)⟩
  obtain ⟨he, h1, h2, h3⟩ := (missF_num hP x n).1 hn
  exact h3 (hall n he h1 h2)

/-- The k-th of those that are missing is not there before it is put in, nor any of its numbers. -/
theorem miss_not {F : List Sp} (h : Form F) {x : Sp} (hx : x.2 ≤ 9223372036854775807) {k : Nat} {y : Sp} (hy : (missF x F)[k]? = some y) :
    hasB y (puts ((missF x F).take k) F) = false ∧ x.1 ≤ y.1 ∧ y.2 ≤ x.2 ∧ y.2 ≤ 9223372036854775807 := by
  obtain ⟨m1, m2⟩ := missF_form h hx
  have hmem := List.mem_of_getElem? hy
  have hok := m1.ok y hmem
  have hb : ∀ z ∈ (missF x F).take k, z.2 ≤ 9223372036854775807 := fun z hz => (m1.ok z (List.mem_of_mem_take hz)).2.2
  have hP := puts_form _ F h hb
  refine ⟨?_, (m2 y hmem).1, (m2 y hmem).2, hok.2.2⟩
  have hnot : ¬ Num (puts ((missF x F).take k) F) y.1 := by
    rw [puts_num _ _ h hb]
    rintro (h1 | ⟨z, hz, _, h1⟩)
    · exact ((missF_num h x y.1).1 ⟨y, hmem, by omega, by omega⟩).2.2.2 h1
    · obtain ⟨j, hj, hjz⟩ := List.mem_iff_getElem.1 hz
      obtain ⟨hk, hky⟩ := List.getElem?_eq_some_iff.1 hy
      have hp := List.pairwise_iff_getElem.1 m1.up j k (by simp at hj; omega) hk (by simp at hj; omega)
      rw [List.getElem_take] at hjz
      rw [hjz, hky] at hp
      omega
  cases hh : hasB y (puts ((missF x F).take k) F) with
  | false => rfl
  | true => exact absurd ((hasB_of hP y).1 hh y.1 (by simp [emptyB]; omega) (Int.le_refl _) (by omega)) hnot

theorem SetAt.other {w w' : World} {g t : Nat} {F G : List Sp} (h : SetAt w g F) (h' : SetAt w t G) (hne : t ≠ g) (hc : Chg (fun i => i = g) w w') : SetAt w' t G := by
  obtain ⟨_, _, hb, _⟩ := h
  exact h'.chg hc hne (noNode_of hb (by decide))

end Go.Proofs.Ytnbjigopgbjneaa
