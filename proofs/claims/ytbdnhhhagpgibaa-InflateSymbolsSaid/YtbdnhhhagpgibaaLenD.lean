/- A symbol's length, and distance. -/
import Derived.Test.YtbdnhhhagpgibaaMachine
namespace Go.Proofs.Ytbdnhhhagpgibaa
open Go.RowKit
set_option linter.unusedVariables false
set_option linter.unusedSimpArgs false

theorem length_no (z : Int) (w : World) (h0 : -9223372036854775808 ≤ z) (h1 : z ≤ 9223372036854775807) (h : z < 257 ∨ 285 < z) :
    Calls Try.prog 10 #[.int .i64 z] w fun e w' => e = .returned (.tuple #[.int .i64 0, .int .i64 0, .bool false]) ∧ w = w' := by
  rcases h with h | h
  · have d1 : decide (z < 257) = true := by simpa using h
    go_enter Try.func10, Try.ntmps10
    go_wp2_with fail
    go_ret3
    exact ⟨rfl, rfl⟩
  · have d1 : decide (z < 257) = false := by simp; omega
    have d2 : decide (285 < z) = true := by simpa using h
    go_enter Try.func10, Try.ntmps10
    go_wp2_with fail
    go_ret3
    exact ⟨rfl, rfl⟩

theorem len_fin : ∀ k : Nat, k < 20 → wrap64 (3 + wrap64 ((4 + (265 + (k : Int) - 261) % 4) * 2 ^ ((265 + k - 261) / 4))) = ((3 + (4 + (265 + k - 261) % 4) * 2 ^ ((265 + k - 261) / 4) : Nat) : Int) := by decide +kernel
theorem dist_fin : ∀ k : Nat, k < 26 → wrap64 (1 + wrap64 ((2 + (4 + (k : Int)) % 2) * 2 ^ ((4 + k - 2) / 2))) = ((1 + (2 + (4 + k - 2) % 2) * 2 ^ ((4 + k - 2) / 2) : Nat) : Int) := by decide +kernel

set_option maxRecDepth 100000 in
theorem length_ok (s x n : Nat) (w : World) (h : lenOf s = some (x, n)) :
    Calls Try.prog 10 #[.int .i64 s] w fun e w' => e = .returned (.tuple #[.int .i64 x, .int .i64 n, .bool true]) ∧ w = w' := by
  unfold lenOf at h
  have h1 : ¬ (s < 257 ∨ 285 < s) := by intro e; rw [if_pos e] at h; cases h
  rw [if_neg h1] at h
  have d1 : decide ((s : Int) < 257) = false := by simp; omega
  have d1' : decide (s < 257) = false := by simp; omega
  have d2 : decide ((285 : Int) < s) = false := by simp; omega
  have d2' : decide (285 < s) = false := by simp; omega
  by_cases h2 : s < 265
  · rw [if_pos h2] at h
    have d3 : decide ((s : Int) < 265) = true := by simp; omega
    have d3' : decide (s < 265) = true := by simp; omega
    simp only [Option.some.injEq, Prod.mk.injEq] at h
    obtain ⟨rfl, rfl⟩ := h
    go_enter Try.func10, Try.ntmps10
    go_wp2_with fail
    go_ret3
    exact ⟨by rw [show ((s - 254 : Nat) : Int) = (s : Int) - 254 from by omega]; rfl, rfl⟩
  · rw [if_neg h2] at h
    have d3 : decide ((s : Int) < 265) = false := by simp; omega
    have d3' : decide (s < 265) = false := by simp; omega
    by_cases h3 : s = 285
    · rw [if_pos h3] at h
      simp only [Option.some.injEq, Prod.mk.injEq] at h
      obtain ⟨rfl, rfl⟩ := h
      subst h3
      go_enter Try.func10, Try.ntmps10
      go_wp2_with fail
      go_ret3
      exact ⟨rfl, rfl⟩
    · rw [if_neg h3] at h
      simp only [Option.some.injEq, Prod.mk.injEq] at h
      obtain ⟨hx, hn⟩ := h
      have d4 : ((s : Int) == 285) = false := by simp; omega
      obtain ⟨k, hk⟩ : ∃ k, s = 265 + k := ⟨s - 265, by omega⟩
      subst hk
      have HX := keepf hx
      have HN := keepf hn
      clear hx hn
      have hk20 : k < 20 := by omega
      go_enter Try.func10, Try.ntmps10
      go_wp2_with fail
      go_ret3
      refine ⟨?_, rfl⟩
      rw [← HX.out, ← HN.out, ← len_fin k hk20]
      have e : ((265 : Int) + k - 261) / 4 = (((265 + k - 261) / 4 : Nat) : Int) := by omega
      rw [e]
      rfl

theorem distance_no (z : Int) (w : World) (h0 : -9223372036854775808 ≤ z) (h1 : z ≤ 9223372036854775807) (h : z < 0 ∨ 29 < z) :
    Calls Try.prog 12 #[.int .i64 z] w fun e w' => e = .returned (.tuple #[.int .i64 0, .int .i64 0, .bool false]) ∧ w = w' := by
  rcases h with h | h
  · have d1 : decide (z < 0) = true := by simpa using h
    go_enter Try.func12, Try.ntmps12
    go_wp2_with fail
    go_ret3
    exact ⟨rfl, rfl⟩
  · have d1 : decide (z < 0) = false := by simp; omega
    have d2 : decide (29 < z) = true := by simpa using h
    go_enter Try.func12, Try.ntmps12
    go_wp2_with fail
    go_ret3
    exact ⟨rfl, rfl⟩

set_option maxRecDepth 100000 in
theorem distance_ok (s x n : Nat) (w : World) (h : distOf s = some (x, n)) :
    Calls Try.prog 12 #[.int .i64 s] w fun e w' => e = .returned (.tuple #[.int .i64 x, .int .i64 n, .bool true]) ∧ w = w' := by
  unfold distOf at h
  have h1 : ¬ 29 < s := by intro e; rw [if_pos e] at h; cases h
  rw [if_neg h1] at h
  have d1 : decide ((s : Int) < 0) = false := by simp
  have d2 : decide ((29 : Int) < s) = false := by simp; omega
  have d2' : decide (29 < s) = false := by simp; omega
  by_cases h2 : s < 4
  · rw [if_pos h2] at h
    have d3 : decide ((s : Int) < 4) = true := by simp; omega
    have d3' : decide (s < 4) = true := by simp; omega
    simp only [Option.some.injEq, Prod.mk.injEq] at h
    obtain ⟨rfl, rfl⟩ := h
    go_enter Try.func12, Try.ntmps12
    go_wp2_with fail
    go_ret3
    exact ⟨by rw [show ((s + 1 : Nat) : Int) = (s : Int) + 1 from by omega]; rfl, rfl⟩
  · rw [if_neg h2] at h
    have d3 : decide ((s : Int) < 4) = false := by simp; omega
    have d3' : decide (s < 4) = false := by simp; omega
    simp only [Option.some.injEq, Prod.mk.injEq] at h
    obtain ⟨hx, hn⟩ := h
    obtain ⟨k, hk⟩ : ∃ k, s = 4 + k := ⟨s - 4, by omega⟩
    subst hk
    have hk26 : k < 26 := by omega
    have HX := keepf hx
    have HN := keepf hn
    clear hx hn
    go_enter Try.func12, Try.ntmps12
    go_wp2_with fail
    go_ret3
    refine ⟨?_, rfl⟩
    rw [← HX.out, ← HN.out, ← dist_fin k hk26]
    have e : ((4 : Int) + k - 2) / 2 = (((4 + k - 2) / 2 : Nat) : Int) := by omega
    rw [e]
    rfl

theorem lenOf_le {s x n : Nat} (h : lenOf s = some (x, n)) : x ≤ 258 ∧ n ≤ 6 ∧ 257 ≤ s ∧ s ≤ 285 := by
  unfold lenOf at h
  have h1 : ¬ (s < 257 ∨ 285 < s) := by intro e; rw [if_pos e] at h; cases h
  have : ∀ k : Nat, k < 29 → ∀ y, (if 257 + k < 257 ∨ 285 < 257 + k then none else if 257 + k < 265 then some (257 + k - 254, 0) else if 257 + k = 285 then some (258, 0) else some (3 + (4 + (257 + k - 261) % 4) * 2 ^ ((257 + k - 261) / 4), (257 + k - 261) / 4)) = some y → y.1 ≤ 258 ∧ y.2 ≤ 6 := by
    have hb : (List.range 29).all (fun k => match (if 257 + k < 257 ∨ 285 < 257 + k then none else if 257 + k < 265 then some (257 + k - 254, 0) else if 257 + k = 285 then some (258, 0) else some (3 + (4 + (257 + k - 261) % 4) * 2 ^ ((257 + k - 261) / 4), (257 + k - 261) / 4)) with | none => true | some y => decide (y.1 ≤ 258 ∧ y.2 ≤ 6)) = true := by decide
    intro k hk y hy
    have := List.all_eq_true.1 hb k (List.mem_range.2 hk)
    rw [hy] at this
    simpa using this
  have h2 := this (s - 257) (by omega) (x, n) (by rw [show 257 + (s - 257) = s from by omega]; exact h)
  exact ⟨h2.1, h2.2, by omega, by omega⟩
theorem distOf_le {s x n : Nat} (h : distOf s = some (x, n)) : 1 ≤ x ∧ x ≤ 32768 ∧ n ≤ 14 := by
  have h1 : ¬ 29 < s := by intro e; unfold distOf at h; rw [if_pos e] at h; cases h
  have hb : (List.range 30).all (fun k => match distOf k with | none => true | some y => decide (1 ≤ y.1 ∧ y.1 ≤ 32768 ∧ y.2 ≤ 14)) = true := by decide
  have := List.all_eq_true.1 hb s (List.mem_range.2 (by omega))
  rw [h] at this
  simpa using this
end Go.Proofs.Ytbdnhhhagpgibaa
