/- Steps: how far ahead the same three bytes stand last: plain mathematics of two maps that take turns. -/
import Derived.Test.YtomkejeofcpchaaMapU
namespace Go.Proofs.Ytomkejeofcpchaa
open Go.RowKit
set_option linter.unusedVariables false
set_option linter.unusedSimpArgs false

/-- What a step at the place k may be. -/
structure StepAt (bs : List Nat) (k r : Nat) : Prop where
  le : r ≤ k
  far : r ≤ 32768
  same : r ≠ 0 → threeOf bs (k - r) = threeOf bs k
  found : ∀ v, v < k → k ≤ v + 32768 → threeOf bs v = threeOf bs k → r ≠ 0

/-- In a round: the maps' places, and the steps so far. -/
structure Mid (bs : List Nat) (k base : Nat) (f1 f2 : Nat → Option Nat) (g : Nat → Nat) : Prop where
  b1 : base ≤ k
  b2 : k < base + 32768
  b3 : base % 32768 = 0
  j1 : ∀ x v, f1 x = some v → base ≤ v ∧ v < k ∧ threeOf bs v = x
  j2 : ∀ x v, f2 x = some v → v < k ∧ threeOf bs v = x
  c1 : ∀ v, base ≤ v → v < k → ∃ u, v ≤ u ∧ f1 (threeOf bs v) = some u
  c2 : ∀ v, v < base → base ≤ v + 32768 → ∃ u, v ≤ u ∧ f2 (threeOf bs v) = some u
  g1 : ∀ p, p < k → StepAt bs p (g p)
  g2 : ∀ p, k ≤ p → g p = 0
/-- At a round's head. -/
structure Hd (bs : List Nat) (k base : Nat) (f1 f2 : Nat → Option Nat) (g : Nat → Nat) : Prop where
  b1 : base ≤ k
  b2 : k ≤ base + 32768
  b3 : base % 32768 = 0
  b4 : base < k ∨ k = 0
  j1 : ∀ x v, f1 x = some v → base ≤ v ∧ v < k ∧ threeOf bs v = x
  j2 : ∀ x v, f2 x = some v → v < k ∧ threeOf bs v = x
  c1 : ∀ v, base ≤ v → v < k → ∃ u, v ≤ u ∧ f1 (threeOf bs v) = some u
  c2 : ∀ v, v < base → base ≤ v + 32768 → ∃ u, v ≤ u ∧ f2 (threeOf bs v) = some u
  g1 : ∀ p, p < k → StepAt bs p (g p)
  g2 : ∀ p, k ≤ p → g p = 0

theorem hd_start (bs : List Nat) : Hd bs 0 0 (fun _ => none) (fun _ => none) (fun _ => 0) :=
  ⟨Nat.le_refl _, by omega, rfl, .inr rfl, fun _ _ h => (by cases h), fun _ _ h => (by cases h), fun v _ h => by omega, fun v h => by omega, fun p h => by omega, fun _ _ => rfl⟩

section
variable {bs : List Nat} {k base : Nat} {f1 f2 : Nat → Option Nat} {g : Nat → Nat}
theorem Hd.mid (h : Hd bs k base f1 f2 g) (hk : k % 32768 ≠ 0) : Mid bs k base f1 f2 g :=
  ⟨h.b1, by
    have h1 := h.b2
    have h3 := h.b3
    rcases Nat.lt_or_ge k (base + 32768) with h | h
    · exact h
    · have : k = base + 32768 := by omega
      omega, h.b3, h.j1, h.j2, h.c1, h.c2, h.g1, h.g2⟩
theorem Hd.rot (h : Hd bs k base f1 f2 g) (hk : k % 32768 = 0) : Mid bs k k (fun _ => none) f1 g :=
  ⟨Nat.le_refl _, by omega, hk, fun _ _ h => (by cases h), fun x v hx => ⟨(h.j1 x v hx).2.1, (h.j1 x v hx).2.2⟩, fun v h1 h2 => by omega, fun v h1 h2 => h.c1 v (by
    have e1 := h.b1
    have e2 := h.b2
    have e3 := h.b3
    have e4 := h.b4
    omega) h1, h.g1, h.g2⟩
theorem Mid.next (h : Mid bs k base f1 f2 g) {r : Nat} (hr : StepAt bs k r) : Hd bs (k + 1) base (setF f1 (threeOf bs k) k) f2 (fun i => if i = k then r else g i) := by
  have e1 := h.b1
  have e2 := h.b2
  refine ⟨by omega, by omega, h.b3, .inl (by omega), ?_, ?_, ?_, h.c2, ?_, ?_⟩
  · intro x v hx
    unfold setF at hx
    split at hx
    · cases hx
      exact ⟨h.b1, by omega, (by assumption : x = threeOf bs k).symm⟩
    · have := h.j1 x v hx
      exact ⟨this.1, by omega, this.2.2⟩
  · intro x v hx
    have := h.j2 x v hx
    exact ⟨by omega, this.2⟩
  · intro v h1 h2
    unfold setF
    split
    · exact ⟨k, by omega, rfl⟩
    · rename_i hne
      rcases Nat.lt_or_ge v k with h3 | h3
      · exact h.c1 v h1 h3
      · have : v = k := by omega
        subst this
        exact absurd rfl hne
  · intro p hp
    rcases Nat.lt_or_ge p k with h3 | h3
    · rw [if_neg (by omega)]; exact h.g1 p h3
    · have : p = k := by omega
      subst this
      rw [if_pos rfl]; exact hr
  · intro p hp
    rw [if_neg (by omega)]
    exact h.g2 p (by omega)
theorem Mid.one (h : Mid bs k base f1 f2 g) {u : Nat} (hu : f1 (threeOf bs k) = some u) : u < k ∧ k - u ≤ 32768 ∧ StepAt bs k (k - u) := by
  obtain ⟨h1, h2, h3⟩ := h.j1 _ _ hu
  have e2 := h.b2
  exact ⟨h2, by omega, ⟨by omega, by omega, fun _ => by rw [show k - (k - u) = u from by omega]; exact h3, fun _ _ _ _ => by omega⟩⟩
theorem Mid.two (h : Mid bs k base f1 f2 g) {u : Nat} (hu : f2 (threeOf bs k) = some u) : u < k ∧ (k - u ≤ 32768 → StepAt bs k (k - u)) := by
  obtain ⟨h2, h3⟩ := h.j2 _ _ hu
  exact ⟨h2, fun hf => ⟨by omega, hf, fun _ => by rw [show k - (k - u) = u from by omega]; exact h3, fun _ _ _ _ => by omega⟩⟩
theorem Mid.far (h : Mid bs k base f1 f2 g) (h1 : f1 (threeOf bs k) = none) (h2 : ∀ u, f2 (threeOf bs k) = some u → 32768 < k - u) : StepAt bs k 0 := by
  refine ⟨Nat.zero_le _, Nat.zero_le _, fun h => absurd rfl h, fun v hv hf he => ?_⟩
  exfalso
  rcases Nat.lt_or_ge v base with h3 | h3
  · obtain ⟨u, hu1, hu2⟩ := h.c2 v h3 (by have := h.b1; omega)
    rw [he] at hu2
    have := h2 u hu2
    omega
  · obtain ⟨u, hu1, hu2⟩ := h.c1 v h3 hv
    rw [he, h1] at hu2
    cases hu2
end

/-- All steps. -/
structure StepsOk (bs : List Nat) (g : Nat → Nat) : Prop where
  at_ : ∀ p, p + 2 < bs.length → StepAt bs p (g p)
  zero : ∀ p, bs.length ≤ p + 2 → g p = 0
theorem Hd.done {bs : List Nat} {k base : Nat} {f1 f2 : Nat → Option Nat} {g : Nat → Nat} (h : Hd bs k base f1 f2 g) (hk : k = bs.length - 2) : StepsOk bs g :=
  ⟨fun p hp => h.g1 p (by omega), fun p hp => h.g2 p (by omega)⟩

/-- A row of numbers of 16 bits, as g tells. -/
def srow (n : Nat) (g : Nat → Nat) : List Value := (List.range n).map fun i => .int .u16 (g i : Nat)
def SRow (w : World) (V : Value) (n : Nat) (g : Nat → Nat) : Prop := w.ownsRow 0 49 1 V n (srow n g)
theorem srow_at {n : Nat} {g : Nat → Nat} {k : Nat} (h : k < n) : (srow n g)[k]? = some (.int .u16 (g k : Nat)) := by simp [srow, h]
theorem srow_len (n : Nat) (g : Nat → Nat) : (srow n g).length = n := by simp [srow]
theorem srow_congr {n : Nat} {f g : Nat → Nat} (h : ∀ i, i < n → f i = g i) : srow n f = srow n g := List.map_congr_left fun i hi => by rw [h i (List.mem_range.1 hi)]
theorem srow_set (n : Nat) (g : Nat → Nat) (k r : Nat) : (srow n g).set k (.int .u16 (r : Nat)) = srow n (fun i => if i = k then r else g i) := by
  apply List.ext_getElem
  · simp [srow]
  · intro i h1 h2
    simp only [srow, List.getElem_set, List.getElem_map, List.getElem_range]
    by_cases e : k = i
    · subst e; simp
    · rw [if_neg e, if_neg (fun h => e h.symm)]
theorem ownSet {w : World} {e : TypeId} {size g n cap : Nat} {xs : List Value} (h : w.ownsRow 0 e size (.slice (some ⟨g, 0, none⟩) n cap) n xs) (k : Nat) (u : Value) :
    (w.setCell ⟨g, k, none⟩ u).ownsRow 0 e size (.slice (some ⟨g, 0, none⟩) n cap) n (xs.set k u) := by
  refine ⟨by simpa using h.1, ?_⟩
  rcases h.2 with ⟨h', h0⟩ | ⟨g', cap', cur, h', hb, hh, h1, h2, h3, h4⟩
  · simp at h'
  · simp only [Value.slice.injEq, Option.some.injEq, Addr.mk.injEq, and_true] at h'
    obtain ⟨rfl, _, rfl⟩ := h'
    refine .inr ⟨g, cap, cur.setIfInBounds k u, rfl, hb, Blk.set_ (w := w) hh k u, h1, h2, by simpa using h3, ?_⟩
    rw [← h4]
    simp [List.take_set]
theorem SRow.set_ {w : World} {g cap n : Nat} {f : Nat → Nat} (h : SRow w (.slice (some ⟨g, 0, none⟩) n cap) n f) (k r : Nat) :
    SRow (w.setCell ⟨g, k, none⟩ (.int .u16 (r : Nat))) (.slice (some ⟨g, 0, none⟩) n cap) n (fun i => if i = k then r else f i) := by
  have := ownSet h k (.int .u16 (r : Nat))
  rw [srow_set] at this
  exact this
theorem SRow.congr {w : World} {V : Value} {n : Nat} {f g : Nat → Nat} (h : SRow w V n f) (e : ∀ i, i < n → f i = g i) : SRow w V n g := by
  unfold SRow at h ⊢
  rw [← srow_congr e]
  exact h
theorem srow_zero (n : Nat) : (madeCells (Value.int .u16 0).cells (n * 1)).toList = srow n (fun _ => 0) := by
  rw [show (Value.int .u16 0).cells = #[.int .u16 0] from rfl, toList_madeCells_one, Nat.mul_one]
  apply List.ext_getElem?
  intro i
  by_cases hi : i < n
  · rw [srow_at hi]; simp [hi]
  · rw [List.getElem?_eq_none (by simp; omega), List.getElem?_eq_none (by rw [srow_len]; omega)]
end Go.Proofs.Ytomkejeofcpchaa
