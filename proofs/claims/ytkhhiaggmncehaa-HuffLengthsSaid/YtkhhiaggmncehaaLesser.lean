/- What mayCount, the comparison of counts and lesserFirst tell. -/
import Derived.Test.YtkhhiaggmncehaaStable
namespace Go.Proofs.Ytkhhiaggmncehaa
open Go.RowKit
set_option linter.unusedVariables false
set_option linter.unusedSimpArgs false

theorem isNaN_any (x : Int) (w : World) : Calls Try.prog 54 #[.int .i64 x] w fun e w' => e = .returned (.bool false) ∧ w = w' := by
  go_enter Try.func54, Try.ntmps54
  go_wp2
  go_ret
  exact ⟨by simp, rfl⟩

theorem compare_any (x y : Int) (w : World) : Calls Try.prog 48 #[.int .i64 x, .int .i64 y] w fun e w' => e = .returned (.int .i64 (cmpv x y)) ∧ w = w' := by
  by_cases h : x < y
  · have H : Hid (cmpv x y = -1) := by show cmpv x y = -1; rw [cmpv, if_pos h]
    have d1 : decide (x < y) = true := by simpa using h
    go_enter Try.func48, Try.ntmps48
    go_wp2_with (go_at_call 54; refine (isNaN_any _ _).mono ?_; rintro e w' ⟨rfl, rfl⟩)
    go_ret
    exact ⟨by rw [H.out]; rfl, rfl⟩
  · have d1 : decide (x < y) = false := by simpa using h
    by_cases h2 : y < x
    · have H : Hid (cmpv x y = 1) := by show cmpv x y = 1; rw [cmpv, if_neg h, if_pos h2]
      have d2 : decide (y < x) = true := by simpa using h2
      go_enter Try.func48, Try.ntmps48
      go_wp2_with (go_at_call 54; refine (isNaN_any _ _).mono ?_; rintro e w' ⟨rfl, rfl⟩)
      go_ret
      exact ⟨by rw [H.out]; rfl, rfl⟩
    · have H : Hid (cmpv x y = 0) := by show cmpv x y = 0; rw [cmpv, if_neg h, if_neg h2]
      have d2 : decide (y < x) = false := by simpa using h2
      go_enter Try.func48, Try.ntmps48
      go_wp2_with (go_at_call 54; refine (isNaN_any _ _).mono ?_; rintro e w' ⟨rfl, rfl⟩)
      go_ret
      exact ⟨by rw [H.out]; rfl, rfl⟩

/-- The key of a symbol: its count. -/
def keyOf (cs : List Int) (x : Int) : Int := cs.getD x.toNat 0

set_option maxHeartbeats 1000000 in
theorem less_any (gb : Nat) (A : Option Addr) (c : Nat) (cs : List Int) (x y : Int) (w : World) (hb : w.cell? ⟨gb, 0, none⟩ = some (.slice A cs.length c)) (hS : Src w 1 A cs.length c (icells cs)) (hx0 : 0 ≤ x) (hx : x < cs.length) (hy0 : 0 ≤ y) (hy : y < cs.length) :
    Calls Try.prog 47 (#[.int .i64 x, .int .i64 y] ++ #[.pointer (some ⟨gb, 0, none⟩)]) w fun e w' => e = .returned (.int .i64 (cmpv (keyOf cs x) (keyOf cs y))) ∧ ∃ m, w' = w.drewN m := by
  obtain ⟨b, off, rfl, hcell⟩ := hS.plain (by rw [icells_len]; omega)
  obtain ⟨x, rfl⟩ := Int.eq_ofNat_of_zero_le hx0
  obtain ⟨y, rfl⟩ := Int.eq_ofNat_of_zero_le hy0
  have c1 := hcell x (.int .i64 (keyOf cs x)) (by simp [icells, keyOf, List.getD_eq_getElem?_getD, show x < cs.length by omega])
  have c2 := hcell y (.int .i64 (keyOf cs y)) (by simp [icells, keyOf, List.getD_eq_getElem?_getD, show y < cs.length by omega])
  obtain ⟨kx, hkx⟩ : ∃ kx, kx = keyOf cs x := ⟨_, rfl⟩
  obtain ⟨ky, hky⟩ : ∃ ky, ky = keyOf cs y := ⟨_, rfl⟩
  rw [← hkx] at c1 ⊢
  rw [← hky] at c2 ⊢
  clear hkx hky hcell hS
  show Calls Try.prog _ #[.int .i64 x, .int .i64 y, .pointer (some ⟨gb, 0, none⟩)] w _
  go_enter Try.func47, Try.ntmps47
  go_upto_region 1 with fail
  go_quiet ((go_at_call 48; exact quiet_left (compare_any kx ky _)))
  go_wp2_with fail
  go_ret
  exact ⟨rfl, nq, rfl⟩

/-- May counts be? -/
def cntOk (cs : List Int) : Bool := decide (1 ≤ cs.length ∧ cs.length ≤ 320 ∧ ∀ z ∈ cs, 0 ≤ z ∧ z ≤ 2147483647)

theorem mayCount_any (cs : List Int) (A : Option Addr) (c : Nat) (w : World) (hL : cs.length ≤ 1000) (hS : Src w 1 A cs.length c (icells cs)) :
    Calls Try.prog 37 #[.slice A cs.length c] w fun e w' => e = .returned (.bool (cntOk cs)) ∧ w = w' := by
  have HS := keepf hS
  clear hS
  obtain ⟨n, hn⟩ : ∃ n, n = cs.length := ⟨_, rfl⟩
  have HN := keepf hn
  rw [← hn] at hL ⊢
  clear hn
  go_enter Try.func37, Try.ntmps37
  go_wp2_with fail
  go_loop [7] (fun i => ∃ k : Nat, k ≤ n ∧ i = .int .i64 k ∧ Hid (∀ z ∈ cs.take k, 0 ≤ z ∧ z ≤ 2147483647)) (fun i => n - (intOf i).toNat)
  case atStart => exact ⟨0, Nat.zero_le _, rfl, fun z hz => by simp at hz⟩
  case round =>
    obtain ⟨k, hk, rfl, hI⟩ := hrel
    by_cases hlt : k < n
    · obtain ⟨b, off, rfl, hcell⟩ := HS.out.plain (by rw [icells_len]; have := HN.out; omega)
      obtain ⟨z, hz⟩ : ∃ z, cs[k]? = some z := ⟨_, List.getElem?_eq_getElem (by have := HN.out; omega)⟩
      have hc := hcell k _ (icells_get hz)
      have HZ := keepf hz
      clear hcell hz
      have hno : ¬ (0 ≤ z ∧ z ≤ 2147483647) → cntOk cs = false := fun h => decide_eq_false (fun h2 => h (h2.2.2 z (List.mem_of_getElem? HZ.out)))
      have HNO := keepf hno
      clear hno
      by_cases h1 : z < 0
      · have d1 : decide (z < 0) = true := by simpa using h1
        go_wp2_with fail
        go_ret
        exact ⟨by rw [HNO.out (by omega)]; rfl, rfl⟩
      · have d1 : decide (z < 0) = false := by simpa using h1
        by_cases h2 : 2147483647 < z
        · have d2 : decide (2147483647 < z) = true := by simpa using h2
          go_wp2_with fail
          go_ret
          exact ⟨by rw [HNO.out (by omega)]; rfl, rfl⟩
        · have d2 : decide (2147483647 < z) = false := by simpa using h2
          go_wp2_with fail
          go_round
          case rel =>
            refine ⟨k + 1, by omega, by go_num, fun y hy => ?_⟩
            rw [take_snoc cs k z HZ.out] at hy
            rcases List.mem_append.1 hy with h3 | h3
            · exact hI.out y h3
            · simp at h3; omega
          case measure => simp [intOf]; omega
    · obtain rfl : n = k := by omega
      have hI2 : ∀ z ∈ cs, 0 ≤ z ∧ z ≤ 2147483647 := by have := hI.out; rwa [HN.out, List.take_length] at this
      by_cases h1 : 1 ≤ n
      · by_cases h2 : n ≤ 320
        · have H : Hid (cntOk cs = true) := decide_eq_true ⟨by rw [← HN.out]; exact h1, by rw [← HN.out]; exact h2, hI2⟩
          have d1 : (1 : Int) ≤ n := by omega
          have d2 : (n : Int) ≤ 320 := by omega
          clear hI2
          go_wp2_with fail
          go_ret
          exact ⟨by rw [H.out]; rfl, rfl⟩
        · have H : Hid (cntOk cs = false) := decide_eq_false (fun h => h2 (by rw [HN.out]; exact h.2.1))
          have d1 : (1 : Int) ≤ n := by omega
          have d2 : decide ((n : Int) ≤ 320) = false := by simp; omega
          clear hI2
          go_wp2_with fail
          go_ret
          exact ⟨by rw [H.out]; rfl, rfl⟩
      · have H : Hid (cntOk cs = false) := decide_eq_false (fun h => h1 (by rw [HN.out]; exact h.1))
        have d1 : decide ((1 : Int) ≤ n) = false := by simp; omega
        clear hI2
        go_wp2_with fail
        go_ret
        exact ⟨by rw [H.out]; rfl, rfl⟩
end Go.Proofs.Ytkhhiaggmncehaa
