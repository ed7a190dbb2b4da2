/- The document's marks: Small, Put and Spans of layer 2, by definition. -/
import Derived.Test.YtnbjigopgbjneaaSpanEl
namespace Go.Proofs.Ytnbjigopgbjneaa
open Go.RowKit
set_option linter.unusedVariables false

def smallB (y : Sp) : Bool := decide (-300 ≤ y.1 ∧ y.1 ≤ 300 ∧ -300 ≤ y.2 ∧ y.2 ≤ 300)

/-- A row of the call's own of N marks, as f tells. -/
def Mk (w : World) (V : Value) (N : Nat) (f : Nat → Bool) : Prop := w.ownsRow 0 4 1 V N ((List.range N).map fun i => Value.bool (f i))

theorem Mk.chg {S : Nat → Prop} {w w' : World} {V : Value} {N : Nat} {f : Nat → Bool} (h : Mk w V N f) (hc : Chg S w w') (hs : ∀ g, V.ownBlock = some g → ¬ S g) : Mk w' V N f := own_chg h hc hs

theorem Mk.no {w w' : World} {V : Value} {N : Nat} {f : Nat → Bool} (h : Mk w V N f) (hc : Chg NoS w w') : Mk w' V N f := h.chg hc (fun _ _ h => h)

theorem Mk.congr {w : World} {V : Value} {N : Nat} {f g : Nat → Bool} (h : Mk w V N f) (e : ∀ i, i < N → f i = g i) : Mk w V N g := by
  have e2 : (List.range N).map (fun i => Value.bool (f i)) = (List.range N).map (fun i => Value.bool (g i)) := List.map_congr_left fun i hi => by rw [e i (List.mem_range.1 hi)]
  unfold Mk at h ⊢
  rw [← e2]
  exact h

theorem Mk.form {w : World} {V : Value} {N : Nat} {f : Nat → Bool} (h : Mk w V N f) (hN : 0 < N) : ∃ g cap, V = .slice (some ⟨g, 0, none⟩) N cap := by
  obtain ⟨g, cap, hv, _, _⟩ := own_form h hN
  exact ⟨g, cap, hv⟩

theorem Mk.cell {w : World} {g cap N : Nat} {f : Nat → Bool} (h : Mk w (.slice (some ⟨g, 0, none⟩) N cap) N f) {k : Nat} (hk : k < N) : w.cell? ⟨g, k, none⟩ = some (.bool (f k)) := by
  have := h.cellAt k (by omega)
  rw [this]
  simp [hk]

theorem Mk.blk {w : World} {g cap N : Nat} {f : Nat → Bool} (h : Mk w (.slice (some ⟨g, 0, none⟩) N cap) N f) (hN : 0 < N) : ∃ cs, Blk w g 4 cs := by
  rcases h.2 with ⟨h', _⟩ | ⟨g', cap', cur, h', _, hh, _⟩
  · simp at h'
  · simp only [Value.slice.injEq, Option.some.injEq, Addr.mk.injEq, and_true] at h'
    obtain ⟨rfl, _⟩ := h'
    exact ⟨cur, hh⟩

theorem own_set {w : World} {e : TypeId} {g n cap : Nat} {xs : List Value} (h : w.ownsRow 0 e 1 (.slice (some ⟨g, 0, none⟩) n cap) n xs) (k : Nat) (u : Value) :
    (w.setCell ⟨g, k, none⟩ u).ownsRow 0 e 1 (.slice (some ⟨g, 0, none⟩) n cap) n (xs.set k u) := by
  refine ⟨by simpa using h.1, ?_⟩
  rcases h.2 with ⟨h', h0⟩ | ⟨g', cap', cur, h', hb, hh, h1, h2, h3, h4⟩
  · simp at h'
  · simp only [Value.slice.injEq, Option.some.injEq, Addr.mk.injEq, and_true] at h'
    obtain ⟨rfl, _, rfl⟩ := h'
    refine .inr ⟨g, cap, cur.setIfInBounds k u, rfl, hb, Blk.set_ (w := w) hh k u, h1, h2, by simpa using h3, ?_⟩
    rw [← h4]
    simp [List.take_set]

theorem range_set (N : Nat) (f : Nat → Bool) (k : Nat) (b : Bool) : ((List.range N).map fun i => Value.bool (f i)).set k (.bool b) = (List.range N).map fun i => Value.bool (if i = k then b else f i) := by
  apply List.ext_getElem
  · simp
  · intro i h1 h2
    simp only [List.getElem_set, List.getElem_map, List.getElem_range]
    by_cases e : k = i
    · subst e; simp
    · rw [if_neg e, if_neg (fun h => e h.symm)]

theorem Mk.set_ {w : World} {g cap N : Nat} {f : Nat → Bool} (h : Mk w (.slice (some ⟨g, 0, none⟩) N cap) N f) (k : Nat) (b : Bool) :
    Mk (w.setCell ⟨g, k, none⟩ (.bool b)) (.slice (some ⟨g, 0, none⟩) N cap) N (fun i => if i = k then b else f i) := by
  have := own_set h k (.bool b)
  rw [range_set] at this
  exact this

theorem own_empty (w : World) (e : TypeId) (size : Nat) : (w.alloc (.cells #[] e)).ownsRow 0 e size (.slice (some ⟨w.heap.size, 0, none⟩) 0 0) 0 [] :=
  ⟨by simp, .inr ⟨w.heap.size, 0, #[], rfl, Nat.zero_le _, Blk.new w e #[], Nat.le_refl _, Nat.zero_le _, by simp, by simp⟩⟩

theorem info_bool : (Try.prog.info? 4).map (fun i => (i.zero, i.size, i.bytes)) = some (some (.bool false), 1, 1) := by kernel_rfl

def markB (x : Sp) (k : Nat) : Bool := decide (0 ≤ x.1 ∧ x.1 ≤ (k : Int) ∧ (k : Int) < x.2)

/-- A new row of marks is handed back; nothing that was there has changed. -/
def MarksTo (w : World) (N : Nat) (f : Nat → Bool) (e : Ending) (w' : World) : Prop :=
  ∃ g cap, e = .returned (.slice (some ⟨g, 0, none⟩) N cap) ∧ Mk w' (.slice (some ⟨g, 0, none⟩) N cap) N f ∧ Chg NoS w w' ∧ w.heap.size ≤ g

theorem marks_one (N : Nat) (f : Nat → Bool) : ∀ u ∈ (List.range N).map (fun i => Value.bool (f i)), u.oneCell' = true := by
  intro u hu
  obtain ⟨_, _, rfl⟩ := List.mem_map.1 hu
  rfl

/-- The numbers that are marked. -/
def Gm (N : Nat) (f : Nat → Bool) (n : Int) : Prop := 0 ≤ n ∧ n < (N : Int) ∧ f n.toNat = true

/-- Behind k marks: the spans that have ended, and the beginning of one that has not. -/
def SpI (N : Nat) (f : Nat → Bool) (k : Nat) (L : List Sp) (s : Int) : Prop :=
  Form L ∧ L.length ≤ k ∧ ((s = -1 ∧ (∀ y ∈ L, y.2 < (k : Int)) ∧ ∀ n, Num L n ↔ Gm N f n ∧ n < (k : Int)) ∨
    (0 ≤ s ∧ s < (k : Int) ∧ (∀ y ∈ L, y.2 < s) ∧ (∀ n, s ≤ n → n < (k : Int) → Gm N f n) ∧ ∀ n, Num L n ↔ Gm N f n ∧ n < s))

theorem spI_zero (N : Nat) (f : Nat → Bool) : SpI N f 0 [] (-1) :=
  ⟨Form.nil, Nat.le_refl _, .inl ⟨rfl, fun _ h => (by cases h), fun n => ⟨fun h => absurd h (num_nil n), fun h => by have := h.1.1; omega⟩⟩⟩

theorem spI_yes_new {N k : Nat} {f : Nat → Bool} {L : List Sp} (h : SpI N f k L (-1)) (hk : k < N) (hf : f k = true) : SpI N f (k + 1) L k := by
  obtain ⟨h1, h2, h3 | h3⟩ := h
  · obtain ⟨_, h4, h5⟩ := h3
    refine ⟨h1, by omega, .inr ⟨by omega, by omega, h4, fun n hn hn2 => ?_, h5⟩⟩
    have : n = (k : Int) := by omega
    subst this
    exact ⟨by omega, by omega, by simpa using hf⟩
  · omega

theorem spI_yes_on {N k : Nat} {f : Nat → Bool} {L : List Sp} {s : Int} (h : SpI N f k L s) (hs : 0 ≤ s) (hk : k < N) (hf : f k = true) : SpI N f (k + 1) L s := by
  obtain ⟨h1, h2, h3 | h3⟩ := h
  · omega
  · obtain ⟨h4, h5, h6, h7, h8⟩ := h3
    refine ⟨h1, by omega, .inr ⟨h4, by omega, h6, fun n hn hn2 => ?_, h8⟩⟩
    by_cases e : n = (k : Int)
    · subst e; exact ⟨by omega, by omega, by simpa using hf⟩
    · exact h7 n hn (by omega)

theorem spI_no_end {N k : Nat} {f : Nat → Bool} {L : List Sp} {s : Int} (h : SpI N f k L s) (hs : 0 ≤ s) (hN : (N : Int) ≤ 9223372036854775806) (hf : ¬ Gm N f k) (hk : k ≤ N) : SpI N f (k + 1) (L ++ [(s, (k : Int))]) (-1) := by
  obtain ⟨h1, h2, h3 | h3⟩ := h
  · omega
  · obtain ⟨h4, h5, h6, h7, h8⟩ := h3
    refine ⟨⟨List.pairwise_append.2 ⟨h1.up, by simp, fun a ha b hb => ?_⟩, fun y hy => ?_⟩, by simp; omega, .inl ⟨rfl, fun y hy => ?_, fun n => ?_⟩⟩
    · simp at hb; subst hb; exact h6 a ha
    · rcases List.mem_append.1 hy with hy | hy
      · exact h1.ok y hy
      · simp at hy; subst hy; simp only; omega
    · rcases List.mem_append.1 hy with hy | hy
      · have := h6 y hy; omega
      · simp at hy; subst hy; simp only; omega
    · rw [num_append, num_cons, h8]
      have hn := num_nil n
      constructor
      · rintro (h9 | h9 | h9)
        · exact ⟨h9.1, by omega⟩
        · simp only at h9; exact ⟨h7 n h9.1 h9.2, by omega⟩
        · exact absurd h9 hn
      · rintro ⟨h9, h10⟩
        by_cases e : n < s
        · exact .inl ⟨h9, e⟩
        · refine .inr (.inl ?_)
          simp only
          by_cases e2 : n = (k : Int)
          · subst e2; exact absurd h9 hf
          · omega

theorem spI_no_on {N k : Nat} {f : Nat → Bool} {L : List Sp} (h : SpI N f k L (-1)) (hf : ¬ Gm N f k) : SpI N f (k + 1) L (-1) := by
  obtain ⟨h1, h2, h3 | h3⟩ := h
  · obtain ⟨_, h4, h5⟩ := h3
    refine ⟨h1, by omega, .inl ⟨rfl, fun y hy => by have := h4 y hy; omega, fun n => ?_⟩⟩
    rw [h5]
    constructor
    · rintro ⟨h6, h7⟩; exact ⟨h6, by omega⟩
    · rintro ⟨h6, h7⟩
      refine ⟨h6, ?_⟩
      by_cases e : n = (k : Int)
      · subst e; exact absurd h6 hf
      · omega
  · omega

theorem spI_end {N : Nat} {f : Nat → Bool} {L : List Sp} {s : Int} (h : SpI N f (N + 1) L s) : Form L ∧ (∀ n, Num L n ↔ Gm N f n) ∧ L.length ≤ N + 1 := by
  obtain ⟨h1, h2, h3 | h3⟩ := h
  · refine ⟨h1, fun n => ?_, h2⟩
    rw [h3.2.2]
    exact ⟨fun h => h.1, fun h => ⟨h, by have := h.2.1; omega⟩⟩
  · obtain ⟨h4, h5, h6, h7, h8⟩ := h3
    have := (h7 N (by omega) (by omega)).2.1
    omega

theorem spI_or {N k : Nat} {f : Nat → Bool} {L : List Sp} {s : Int} (h : SpI N f k L s) : s = -1 ∨ (0 ≤ s ∧ s < (k : Int)) := by
  obtain ⟨_, _, h3 | h3⟩ := h
  · exact .inl h3.1
  · exact .inr ⟨h3.1, h3.2.1⟩

end Go.Proofs.Ytnbjigopgbjneaa
