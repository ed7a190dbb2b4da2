/- The blocks of a file's bytes: what each place has, as a function, and what is put. -/
import Derived.Test.YtnbjigopgbjneaaLexC
import Derived.Test.YtnbjigopgbjneaaMapP
import Derived.Test.YtnbjigopgbjneaaBig
namespace Go.Proofs.Ytnbjigopgbjneaa
open Go.RowKit
set_option linter.unusedVariables false
set_option linter.unusedSimpArgs false

/-- The bytes of block number k, as c tells of each place. -/
def blkBs (c : Nat → Nat) (k : Nat) : List Nat := (List.range 1024).map fun i => c (k * 1024 + i)

def blkCs (c : Nat → Nat) (k : Nat) : Array Value := (lcells (blkBs c k)).toArray

theorem blkBs_len (c : Nat → Nat) (k : Nat) : (blkBs c k).length = 1024 := by simp [blkBs]

theorem blkBs_get (c : Nat → Nat) (k i : Nat) (h : i < 1024) : (blkBs c k)[i]? = some (c (k * 1024 + i)) := by simp [blkBs, h]

theorem blkCs_size (c : Nat → Nat) (k : Nat) : (blkCs c k).size = 1024 := by simp [blkCs, lcells_len, blkBs_len]

theorem blkCs_list (c : Nat → Nat) (k : Nat) : (blkCs c k).toList = lcells (blkBs c k) := by simp [blkCs]

/-- Bytes put at a place. -/
def putB (c : Nat → Nat) (at_ : Nat) (bs : List Nat) : Nat → Nat := fun p => if at_ ≤ p ∧ p < at_ + bs.length then bs.getD (p - at_) 0 else c p

theorem putB_nil (c : Nat → Nat) (at_ : Nat) : putB c at_ [] = c := by
  funext p
  simp only [putB, List.length_nil]
  rw [if_neg (by omega)]

theorem putB_app (c : Nat → Nat) (at_ : Nat) (a b : List Nat) : putB (putB c at_ a) (at_ + a.length) b = putB c at_ (a ++ b) := by
  funext p
  simp only [putB, List.length_append]
  by_cases h1 : at_ + a.length ≤ p ∧ p < at_ + a.length + b.length
  · rw [if_pos h1, if_pos (by omega), List.getD_eq_getElem?_getD, List.getD_eq_getElem?_getD, List.getElem?_append_right (by omega), show p - (at_ + a.length) = p - at_ - a.length from by omega]
  · rw [if_neg h1]
    by_cases h2 : at_ ≤ p ∧ p < at_ + a.length
    · rw [if_pos h2, if_pos (by omega), List.getD_eq_getElem?_getD, List.getD_eq_getElem?_getD, List.getElem?_append_left (by omega)]
    · rw [if_neg h2, if_neg (by omega)]

theorem putB_lt {c : Nat → Nat} {at_ : Nat} {bs : List Nat} (hc : ∀ p, c p < 256) (hb : ∀ x ∈ bs, x < 256) (p : Nat) : putB c at_ bs p < 256 := by
  unfold putB
  split
  · rw [List.getD_eq_getElem?_getD]
    rcases h : bs[p - at_]? with _ | x
    · simp
    · exact hb x (List.mem_of_getElem? h)
  · exact hc p

theorem splice_map {α β : Type} (f : α → β) (L : List α) (r : Nat) (xs : List α) : splice (L.map f) r (xs.map f) = (splice L r xs).map f := by
  simp [splice]

theorem splice_getN {α : Type} (l : List α) (off : Nat) (cs : List α) (h : off + cs.length ≤ l.length) (j : Nat) : (splice l off cs)[j]? = if j < off then l[j]? else if j < off + cs.length then cs[j - off]? else l[j]? := by
  unfold splice
  rw [List.getElem?_append, List.length_take, show min off l.length = off from by omega]
  by_cases h1 : j < off
  · rw [if_pos h1, if_pos h1, List.getElem?_take, if_pos h1]
  · rw [if_neg h1, if_neg h1, List.getElem?_append]
    by_cases h2 : j < off + cs.length
    · rw [if_pos (by omega), if_pos h2]
    · rw [if_neg (by omega), if_neg h2, List.getElem?_drop, show off + cs.length + (j - off - cs.length) = j from by omega]

theorem splice_blk (c : Nat → Nat) (k r : Nat) (xs : List Nat) (h : r + xs.length ≤ 1024) : splice (lcells (blkBs c k)) r (lcells xs) = lcells (blkBs (putB c (k * 1024 + r) xs) k) := by
  unfold lcells
  rw [splice_map]
  refine congrArg (List.map _) ?_
  apply List.ext_getElem?
  intro j
  rw [splice_getN _ _ _ (by rw [blkBs_len]; exact h)]
  by_cases hj : j < 1024
  · rw [blkBs_get _ _ _ hj, blkBs_get _ _ _ hj]
    by_cases h1 : j < r
    · rw [if_pos h1]
      simp only [putB]
      rw [if_neg (by omega)]
    · rw [if_neg h1]
      by_cases h2 : j < r + xs.length
      · rw [if_pos h2]
        simp only [putB]
        rw [if_pos (by omega), List.getD_eq_getElem?_getD, show k * 1024 + j - (k * 1024 + r) = j - r from by omega]
        rw [List.getElem?_eq_getElem (by omega)]
        rfl
      · rw [if_neg h2]
        simp only [putB]
        rw [if_neg (by omega)]
  · rw [if_neg (by omega), if_neg (by omega), List.getElem?_eq_none (by rw [blkBs_len]; omega), List.getElem?_eq_none (by rw [blkBs_len]; omega)]

theorem blk_other (c : Nat → Nat) (k j r : Nat) (xs : List Nat) (h : r + xs.length ≤ 1024) (hne : j ≠ k) : blkBs (putB c (k * 1024 + r) xs) j = blkBs c j := by
  unfold blkBs
  refine List.map_congr_left fun i hi => ?_
  have hi' := List.mem_range.1 hi
  simp only [putB]
  rw [if_neg]
  rintro ⟨h1, h2⟩
  rcases Nat.lt_or_gt_of_ne hne with h3 | h3
  · omega
  · omega

/-- Where blocks lie: of number k at a k; together they have the bytes that c tells. -/
structure BlAt (w : World) (a : Nat → Option Nat) (c : Nat → Nat) : Prop where
  lie : ∀ k d, a k = some d → Blk w d 85 (blkCs c k)
  one : ∀ k j d, a k = some d → a j = some d → k = j
  zero : ∀ k, a k = none → ∀ i, i < 1024 → c (k * 1024 + i) = 0

theorem blAt_none (w : World) : BlAt w (fun _ => none) (fun _ => 0) := ⟨fun k d h => by simp at h, fun k j d h => by simp at h, fun _ _ _ _ => rfl⟩

theorem BlAt.chg {S : Nat → Prop} {w w' : World} {a : Nat → Option Nat} {c : Nat → Nat} (h : BlAt w a c) (hc : Chg S w w') (hS : ∀ k d, a k = some d → ¬ S d) : BlAt w' a c :=
  ⟨fun k d hk => (h.lie k d hk).chg hc (hS k d hk), h.one, h.zero⟩

theorem BlAt.no {w w' : World} {a : Nat → Option Nat} {c : Nat → Nat} (h : BlAt w a c) (hc : Chg NoS w w') : BlAt w' a c := h.chg hc (fun _ _ _ h => h)

theorem BlAt.lt {w : World} {a : Nat → Option Nat} {c : Nat → Nat} (h : BlAt w a c) {k d : Nat} (hk : a k = some d) : d < w.heap.size := (h.lie k d hk).lt

/-- A block more. -/
theorem BlAt.more {w : World} {a : Nat → Option Nat} {c : Nat → Nat} (h : BlAt w a c) {k d : Nat} (hk : a k = none) (hd : Blk w d 85 (blkCs (fun _ => 0) 0)) (hne : ∀ j e, a j = some e → e ≠ d) : BlAt w (setP a k d) c := by
  refine ⟨fun j e hj => ?_, fun j i e hj hi => ?_, fun j hj i hi => ?_⟩
  · unfold setP at hj
    split at hj
    · rename_i ejk
      subst ejk
      cases hj
      have hz : blkBs c j = blkBs (fun _ => 0) 0 := List.map_congr_left fun i hi => h.zero j hk i (List.mem_range.1 hi)
      unfold blkCs at hd ⊢
      rw [hz]
      exact hd
    · exact h.lie j e hj
  · unfold setP at hj hi
    split at hj <;> split at hi
    · omega
    · cases hj
      exact absurd rfl (hne i _ hi)
    · cases hi
      exact absurd rfl (hne j _ hj)
    · exact h.one j i e hj hi
  · unfold setP at hj
    split at hj
    · cases hj
    · exact h.zero j hj i hi

/-- Bytes put into a block that is there. -/
theorem BlAt.put {w w' : World} {a : Nat → Option Nat} {c : Nat → Nat} (h : BlAt w a c) {k d r : Nat} {xs : List Nat} (hk : a k = some d) (hr : r + xs.length ≤ 1024)
    (hb : Blk w' d 85 (splice (blkCs c k).toList r (lcells xs)).toArray) (hc : Chg (fun i => i = d) w w') : BlAt w' a (putB c (k * 1024 + r) xs) := by
  refine ⟨fun j e hj => ?_, h.one, fun j hj i hi => ?_⟩
  · by_cases e1 : j = k
    · subst e1
      rw [hk] at hj
      cases hj
      rw [blkCs_list, splice_blk _ _ _ _ hr] at hb
      exact hb
    · have hne : e ≠ d := fun e2 => e1 (h.one j k d (e2 ▸ hj) hk)
      have := (h.lie j e hj).chg hc hne
      unfold blkCs at this ⊢
      rw [blk_other _ _ _ _ _ hr e1]
      exact this
  · have hjk : j ≠ k := by rintro rfl; rw [hk] at hj; cases hj
    simp only [putB]
    rw [if_neg]
    · exact h.zero j hj i hi
    · rintro ⟨h1, h2⟩
      rcases Nat.lt_or_gt_of_ne hjk with h3 | h3
      · omega
      · omega

end Go.Proofs.Ytnbjigopgbjneaa
