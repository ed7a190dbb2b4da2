/- share: the symbols get their lengths. -/
import Derived.Test.YtkhhiaggmncehaaBackward
namespace Go.Proofs.Ytkhhiaggmncehaa
open Go.RowKit Go.Shelf
set_option linter.unusedVariables false
set_option linter.unusedSimpArgs false
attribute [local go_sem] Oper.semAt_some

/-- How many nodes are taken of level k - t, where T are taken of level k. -/
def takenFrom (S : List Nd) (k T : Nat) : Nat → Nat
  | 0 => T
  | t + 1 => 2 * prs (levelOf S (k - t)) (takenFrom S k T t)
theorem takenFrom_down (S : List Nd) (k T : Nat) : ∀ t, takenFrom S (k + 1) T (t + 1) = takenFrom S k (2 * prs (levelOf S (k + 1)) T) t
  | 0 => rfl
  | t + 1 => by
    rw [takenFrom, takenFrom_down S k T t, takenFrom]
    have : k + 1 - (t + 1) = k - t := by omega
    rw [this]
theorem leaves_get (S : List Nd) : ∀ (k T t : Nat), t ≤ k → (leavesOf S k T)[t]? = some (takenFrom S k T t - prs (levelOf S (k - t)) (takenFrom S k T t))
  | 0, T, t, h => by
    obtain rfl : t = 0 := by omega
    rfl
  | k + 1, T, 0, _ => rfl
  | k + 1, T, t + 1, h => by
    rw [takenFrom_down, show k + 1 - (t + 1) = k - t by omega]
    exact leaves_get S k _ t (by omega)
theorem takenFrom_le {S : List Nd} (hf : ∀ x ∈ S, x.2 = false) (hu : Up S) (k T : Nat) (hT : T ≤ (levelOf S k).length) : ∀ t, t ≤ k → takenFrom S k T t ≤ (levelOf S (k - t)).length
  | 0, _ => hT
  | t + 1, h => by
    have ih := takenFrom_le hf hu k T hT t (by omega)
    obtain ⟨j, hj⟩ : ∃ j, k - t = j + 1 := ⟨k - t - 1, by omega⟩
    rw [takenFrom, hj]
    rw [hj] at ih
    have : k - (t + 1) = j := by omega
    rw [this]
    exact (prs_next hf hu j _ ih).1

/-- The lengths, where leaf i of d stands at depth i. -/
structure LenIs (D : List Int) (nc : Nat) (d : List Int) (dep : Nat → Nat) : Prop where
  len : D.length = nc
  at_ : ∀ i x, d[i]? = some x → D.getD x.toNat 0 = (dep i : Nat)
  no : ∀ y : Nat, (y : Int) ∉ d → D.getD y 0 = 0
theorem LenIs.step {D : List Int} {nc : Nat} {d : List Int} {dep : Nat → Nat} (h : LenIs D nc d dep) (hn : d.Nodup) (hg : Good nc d) (i : Nat) (u : Nat) (hu : d[i]? = some (u : Int)) : LenIs (D.set u ((dep i : Nat) + 1)) nc d (fun j => if j = i then dep j + 1 else dep j) := by
  have hu1 := (hg _ (List.mem_of_getElem? hu)).2
  refine ⟨by rw [List.length_set]; exact h.len, fun j x hx => ?_, fun y hy => ?_⟩
  · have hx0 := (hg _ (List.mem_of_getElem? hx)).1
    rw [List.getD_eq_getElem?_getD, List.getElem?_set]
    by_cases e : j = i
    · subst e
      rw [hu] at hx
      injection hx with hx
      subst hx
      rw [if_pos (by simp), if_pos (by have := h.len; omega), if_pos rfl]
      simp
    · rw [if_neg e, if_neg]
      · have := h.at_ j x hx
        rwa [List.getD_eq_getElem?_getD] at this
      · intro e2
        apply e
        have e3 : x = (u : Int) := by omega
        subst e3
        have hi := (List.getElem?_eq_some_iff.1 hu)
        have hj := (List.getElem?_eq_some_iff.1 hx)
        exact (List.getElem_inj hn).1 (hj.2.trans hi.2.symm)
  · rw [List.getD_eq_getElem?_getD, List.getElem?_set, if_neg]
    · have := h.no y hy
      rwa [List.getD_eq_getElem?_getD] at this
    · rintro rfl
      exact hy (List.mem_of_getElem? hu)
end Go.Proofs.Ytkhhiaggmncehaa
