/- Slices cut out of slices of bytes (as stage 7's text Cut7 has it, under names of its own). -/
import Derived.Test.YtnbjigopgbjneaaLexB
namespace Go.Proofs.Ytnbjigopgbjneaa
open Go.RowKit
set_option linter.unusedVariables false
set_option linter.unusedSimpArgs false

/-- Where a slice begins that is cut out of one of so great a capacity. -/
def cutL (A : Option Addr) (lo cap : Nat) : Option Addr := if cap = lo then A else A.map (·.add (lo * 1))

theorem cutL_block {A : Option Addr} {lo cap : Nat} {ad : Addr} (h : cutL A lo cap = some ad) : ∃ b, A = some b ∧ b.block = ad.block := by
  unfold cutL at h
  split at h
  · exact ⟨ad, h, rfl⟩
  · rcases A with _ | b
    · cases h
    · simp only [Option.map_some, Option.some.injEq] at h
      subst h
      refine ⟨b, rfl, ?_⟩
      unfold Addr.add
      split <;> rfl

theorem cutL_zero (A : Option Addr) (cap : Nat) : cutL A 0 cap = A := by
  unfold cutL
  split
  · rfl
  · rcases A with _ | b
    · rfl
    · simp [Addr.add]

theorem add_addL (a : Addr) (i j : Nat) : (a.add (i * 1)).add j = a.add (i + j) := by
  unfold Addr.add
  by_cases hi : i = 0
  · subst hi; simp
  · by_cases hj : j = 0
    · subst hj; simp [hi]
    · simp [hi, hj]; omega

theorem src_cutL {w : World} {A : Option Addr} {n c lo m : Nat} {xs : List Value} (h : Src w 1 A n c xs) (hc : n ≤ c) (hm : lo + m ≤ n) : Src w 1 (cutL A lo c) m (c - lo) ((xs.drop lo).take m) := by
  have hl := h.1
  refine ⟨by simp; omega, fun e => ?_, fun ad e j u hu => ?_⟩
  · unfold cutL at e
    split at e
    · have := h.2.1 e; omega
    · rcases A with _ | b
      · have := h.2.1 rfl; omega
      · cases e
  · have hj : j < m := by
      have := (List.getElem?_eq_some_iff.1 hu).1
      simp at this
      omega
    rw [List.getElem?_take_of_lt hj, List.getElem?_drop] at hu
    unfold cutL at e
    rw [if_neg (by omega)] at e
    rcases A with _ | b
    · cases e
    · simp only [Option.map_some, Option.some.injEq] at e
      subst e
      rw [add_addL]
      exact h.2.2 b rfl (lo + j) u hu

theorem sizeL (w : World) : (sizeOf (Try.prog.elem 30)).run Try.prog w = .ok 1 w := by go_simp

set_option maxRecDepth 100000 in
theorem fromL (A : Option Addr) (len cap lo : Nat) (h : lo ≤ len) (w : World) : (Instr.sliceAt 30 (.slice A len cap) (some (.int .i64 (lo : Nat))) none none).run Try.prog w = .ok (.slice (cutL A lo cap) (len - lo) (cap - lo)) w := by
  rw [run_sliceAt_slice w _ _ _ _ _ Try.underlying30, run_slice_l w _ A len cap Try.underlying30 .i64 (lo : Nat) (by omega) (by omega), sizeL]
  simp [Result.andThen, sliced, cutL]

set_option maxRecDepth 100000 in
theorem toL (A : Option Addr) (len cap hi : Nat) (h : hi ≤ cap) (w : World) : (Instr.sliceAt 30 (.slice A len cap) none (some (.int .i64 (hi : Nat))) none).run Try.prog w = .ok (.slice A hi cap) w := by
  rw [run_sliceAt_slice w _ _ _ _ _ Try.underlying30, run_slice_h w _ A len cap Try.underlying30 .i64 (hi : Nat) (by omega) (by omega), sizeL]
  simp [Result.andThen, sliced, Addr.add]

set_option maxRecDepth 100000 in
theorem midL (A : Option Addr) (len cap lo hi : Nat) (h : lo ≤ hi) (h2 : hi ≤ cap) (w : World) : (Instr.sliceAt 30 (.slice A len cap) (some (.int .i64 (lo : Nat))) (some (.int .i64 (hi : Nat))) none).run Try.prog w = .ok (.slice (cutL A lo cap) (hi - lo) (cap - lo)) w := by
  rw [run_sliceAt_slice w _ _ _ _ _ Try.underlying30, run_slice_lh w _ A len cap Try.underlying30 .i64 .i64 (lo : Nat) (hi : Nat) (by omega) (by omega) (by omega), sizeL]
  simp [Result.andThen, sliced, cutL]

theorem cutL_some (b off lo c : Nat) : cutL (some ⟨b, off, none⟩) lo c = if c = lo then some ⟨b, off, none⟩ else some ⟨b, off + lo, none⟩ := by
  unfold cutL
  split
  · rfl
  · by_cases h : lo = 0
    · subst h; rfl
    · simp [Addr.add, h]

end Go.Proofs.Ytnbjigopgbjneaa
