/- Merged by program: One. -/
import Derived.Test.YtlijfdflghepcaaGreatM17
/- The packed bits of bytes are one row; the least of them is no more than each kind's, and than the bound. Plain, no program. -/
namespace Go.Proofs.YtlijfdflghepcaaGreat
open Go.RowKit
set_option linter.unusedVariables false
set_option linter.unusedSimpArgs false

theorem OwnIs.one {T : List Tk} {X Y cl X' Y' cl' : List Int} (h : OwnIs T X Y cl) (h' : OwnIs T X' Y' cl') : X = X' ∧ Y = Y' ∧ cl = cl' := by
  obtain ⟨D, hD, rfl⟩ := h.x
  obtain ⟨E, hE, rfl⟩ := h.y
  obtain ⟨D', hD', rfl⟩ := h'.x
  obtain ⟨E', hE', rfl⟩ := h'.y
  obtain rfl := hD.one hD'
  obtain rfl := hE.one hE'
  exact ⟨rfl, rfl, h.c.one h'.c⟩
theorem Wrote.one {k : Nat} {last : Bool} {bs : List Nat} {L0 L L' : List Bool} (h : Wrote k last bs L0 L) (h' : Wrote k last bs L0 L') : L = L' := by
  cases h with
  | stored =>
    cases h'
    rfl
  | fixed _ _ _ T hT =>
    cases h' with
    | fixed _ _ _ T' hT' => rw [hT.ok.one hT'.ok]
  | own _ _ _ T X Y cl hT ho =>
    cases h' with
    | own _ _ _ T' X' Y' cl' hT' ho' =>
      obtain rfl := hT.ok.one hT'.ok
      obtain ⟨rfl, rfl, rfl⟩ := ho.one ho'
      rfl
/-- The least is no more than each kind's. -/
theorem best_least {bs : List Nat} : ∀ {i : Nat} {L : List Bool}, Best bs i L → ∀ k, k ≤ i → ∀ Lk, Wrote k true bs [] Lk → nby L.length ≤ nby Lk.length
  | 0, L, h, k, hk, Lk, hw => by
    obtain rfl : k = 0 := by omega
    rw [Wrote.one h hw]
    exact Nat.le_refl _
  | i + 1, L, ⟨Lb, Ln, h1, h2, h3⟩, k, hk, Lk, hw => by
    have hle : nby L.length ≤ nby Ln.length ∧ nby L.length ≤ nby Lb.length := by
      rw [h3]
      split <;> omega
    rcases Nat.lt_or_ge i k with h4 | h4
    · obtain rfl : k = i + 1 := by omega
      rw [← Wrote.one h2 hw]
      exact hle.1
    · have := best_least h1 k h4 Lk hw
      omega
theorem stored_bound {bs : List Nat} {L : List Bool} (hl : bs.length ≤ 1500) (h : Wrote 0 true bs [] L) : ((bytesOf false L).length : Int) = boundN (bs.length : Nat) := by
  have e : L = storedL true bs [] := h.one (.stored true bs [])
  subst e
  rw [bytesOf_length, storedL, dif_pos (by omega), blockL_len]
  unfold boundN nby
  rw [if_neg (by omega)]
  simp only [List.length_nil]
  omega
/-- What the law asks of lengths. -/
theorem least_all {bs : List Nat} {L : List Bool} (hl : bs.length ≤ 1500) (h : Packed 3 bs L) : ((bytesOf false L).length : Int) ≤ boundN (bs.length : Nat) ∧
    ∀ k, k < 3 → ∀ Lk, Packed k bs Lk → (bytesOf false L).length ≤ (bytesOf false Lk).length ∧ (k = 0 → ((bytesOf false Lk).length : Int) ≤ boundN (bs.length : Nat)) := by
  have hb : Best bs 2 L := by
    unfold Packed at h
    rw [if_pos rfl] at h
    exact h
  have key : ∀ k, k < 3 → ∀ Lk, Wrote k true bs [] Lk → (bytesOf false L).length ≤ (bytesOf false Lk).length := fun k hk Lk hw => by
    rw [bytesOf_length, bytesOf_length]
    exact best_least hb k (by omega) Lk hw
  refine ⟨?_, fun k hk Lk hw => ?_⟩
  · have h1 := key 0 (by omega) _ (.stored true bs [])
    have h2 := stored_bound hl (.stored true bs [])
    omega
  · unfold Packed at hw
    rw [if_neg (by omega)] at hw
    refine ⟨key k hk Lk hw, fun h0 => ?_⟩
    subst h0
    rw [stored_bound hl hw]
    exact Int.le_refl _
end Go.Proofs.YtlijfdflghepcaaGreat

