/- The document's own lengths and distances, fixed lengths and order; rows that are alike. -/
import Derived.Test.YtbdnhhhagpgibaaWorkI
namespace Go.Proofs.Ytbdnhhhagpgibaa
open Go.RowKit
set_option linter.unusedVariables false
set_option linter.unusedSimpArgs false

def bitsL (k : Nat) : Nat := if 265 ≤ k then (k - 261) / 4 else 0
def sumL : Nat → Nat
  | 0 => 3
  | j + 1 => sumL j + 2 ^ bitsL (257 + j)
def bitsD (k : Nat) : Nat := if 4 ≤ k then (k - 2) / 2 else 0
def sumD : Nat → Nat
  | 0 => 1
  | j + 1 => sumD j + 2 ^ bitsD j
theorem sumL_all : ∀ j : Nat, j < 28 → sumL j ≤ 600 ∧ bitsL (257 + j) ≤ 5 ∧ lenOf (257 + j) = some (sumL j, bitsL (257 + j)) := by decide +kernel
theorem sumD_all : ∀ j : Nat, j < 30 → sumD j ≤ 32768 ∧ bitsD j ≤ 13 ∧ distOf j = some (sumD j, bitsD j) := by decide +kernel

set_option maxRecDepth 100000 in
theorem power_any (n : Nat) (w : World) (hn : n ≤ 13) : Calls Try.prog 28 #[.int .i64 n] w fun e w' => e = .returned (.int .i64 (2 ^ n : Nat)) ∧ w = w' := by
  go_enter Try.func28, Try.ntmps28
  go_wp2
  go_loop [3, 4] (fun x i => ∃ k y : Nat, k ≤ n ∧ y ≤ 8192 ∧ i = .int .i64 k ∧ x = .int .i64 y ∧ Hid (y = 2 ^ k)) (fun _ i => n - (intOf i).toNat)
  case atStart => exact ⟨0, 1, Nat.zero_le _, by omega, rfl, rfl, rfl⟩
  case round =>
    obtain ⟨k, y, hk, hy, rfl, rfl, HY⟩ := hrel
    by_cases hlt : k < n
    · go_wp2
      go_round
      case rel =>
        have h1 : 2 ^ (k + 1) ≤ 2 ^ 13 := Nat.pow_le_pow_right (by decide) (by omega)
        have h2 : 2 ^ (k + 1) = 2 * y := by rw [HY.out, Nat.pow_succ]; omega
        exact ⟨k + 1, 2 * y, by omega, by omega, by go_num, by go_num, h2.symm⟩
      case measure => simp [intOf]; omega
    · obtain rfl : k = n := by omega
      go_wp2
      go_ret
      refine ⟨?_, rfl⟩
      show Ending.returned (.int .i64 (y : Int)) = _
      rw [HY.out]
      simp

/-- Behind Length and Distance: a symbol's number and bits, or that it has none. -/
def Tells (x n : Int) (ok : Bool) (w : World) (e : Ending) (w' : World) : Prop := e = .returned (.tuple #[.int .i64 x, .int .i64 n, .bool ok]) ∧ w = w'

set_option maxRecDepth 100000 in
theorem rlength_no (z : Int) (w : World) (h0 : -9223372036854775808 ≤ z) (h1 : z ≤ 9223372036854775807) (h : z < 257 ∨ 285 < z) :
    Calls Try.prog 11 #[.int .i64 z] w (Tells 0 0 false w) := by
  rcases h with h | h
  · have d1 : decide (z < 257) = true := by simpa using h
    go_enter Try.func11, Try.ntmps11
    go_wp2_with fail
    go_ret3
    exact ⟨rfl, rfl⟩
  · have d1 : decide (z < 257) = false := by simp; omega
    have d2 : decide (285 < z) = true := by simpa using h
    go_enter Try.func11, Try.ntmps11
    go_wp2_with fail
    go_ret3
    exact ⟨rfl, rfl⟩

set_option maxHeartbeats 1000000 in
set_option maxRecDepth 100000 in
theorem rlength_ok (s x n : Nat) (w : World) (h : lenOf s = some (x, n)) :
    Calls Try.prog 11 #[.int .i64 s] w (Tells x n true w) := by
  obtain ⟨_, _, h1, h2⟩ := lenOf_le h
  have HL := keepf h
  have d1 : decide ((s : Int) < 257) = false := by simp; omega
  have d1' : decide (s < 257) = false := by simp; omega
  have d2 : decide ((285 : Int) < s) = false := by simp; omega
  have d2' : decide (285 < s) = false := by simp; omega
  clear h
  by_cases h3 : s = 285
  · subst h3
    have hxn : x = 258 ∧ n = 0 := by
      have h := HL.out
      simp [lenOf] at h
      omega
    obtain ⟨rfl, rfl⟩ := hxn
    go_enter Try.func11, Try.ntmps11
    go_wp2_with fail
    go_ret3
    exact ⟨rfl, rfl⟩
  · have d3 : ((s : Int) == 285) = false := by simp; omega
    have d3' : (s == 285) = false := by simp; omega
    go_enter Try.func11, Try.ntmps11
    go_wp2_with fail
    go_loop [5, 6] (fun va vk => ∃ k at_ : Nat, 257 ≤ k ∧ k ≤ s ∧ at_ ≤ 600 ∧ vk = .int .i64 k ∧ va = .int .i64 at_ ∧ Hid (at_ = sumL (k - 257))) (fun _ vk => s - (intOf vk).toNat)
    case atStart => exact ⟨257, 3, by omega, by omega, by omega, rfl, rfl, rfl⟩
    case round =>
      obtain ⟨k, at_, hk1, hk2, ha, rfl, rfl, HA⟩ := hrel
      by_cases hlt : k < s
      · have hsum : sumL (k + 1 - 257) = at_ + 2 ^ bitsL k := by
          rw [show k + 1 - 257 = (k - 257) + 1 from by omega, sumL, HA.out, show 257 + (k - 257) = k from by omega]
        have hall := sumL_all (k - 257) (by omega)
        have hall2 := sumL_all (k + 1 - 257) (by omega)
        rw [show 257 + (k - 257) = k from by omega] at hall
        have hq := hall.2.1
        have ha2 := hall2.1
        rw [hsum] at ha2
        have HSum := keepf hsum
        obtain ⟨p, hp⟩ : ∃ p, p = 2 ^ bitsL k := ⟨_, rfl⟩
        rw [← hp] at ha2 HSum
        have HPow := keepf (fun W => power_any (bitsL k) W (by omega))
        rw [← hp] at HPow
        by_cases h265 : 265 ≤ k
        · have hb : bitsL k = (k - 261) / 4 := by unfold bitsL; rw [if_pos h265]
          obtain ⟨q, hqe⟩ : ∃ q, q = bitsL k := ⟨_, rfl⟩
          have e1 : ((k : Int) - 261) / 4 = (q : Int) := by omega
          rw [← hqe] at HPow
          have d5 : decide ((265 : Int) ≤ k) = true := by simp; omega
          have d5' : decide (265 ≤ k) = true := by simp; omega
          clear hsum hall hall2 hq hp hb hqe
          go_wp2_with (go_at_call 28; refine (HPow.out _).mono ?_; rintro e w2 ⟨rfl, rfl⟩)
          go_round
          case rel => exact ⟨k + 1, at_ + p, by omega, by omega, by omega, by go_num, by go_num, HSum.out.symm⟩
          case measure => simp [intOf]; omega
        · have hb : bitsL k = 0 := by unfold bitsL; rw [if_neg h265]
          have d5 : decide ((265 : Int) ≤ k) = false := by simp; omega
          have d5' : decide (265 ≤ k) = false := by simp; omega
          rw [hb] at HPow
          clear hsum hall hall2 hq hp hb
          go_wp2_with (go_at_call 28; refine (HPow.out _).mono ?_; rintro e w2 ⟨rfl, rfl⟩)
          go_round
          case rel => exact ⟨k + 1, at_ + p, by omega, by omega, by omega, by go_num, by go_num, HSum.out.symm⟩
          case measure => simp [intOf]; omega
      · obtain rfl : k = s := by omega
        have hall := (sumL_all (k - 257) (by omega)).2.2
        rw [show 257 + (k - 257) = k from by omega, HL.out] at hall
        simp only [Option.some.injEq, Prod.mk.injEq] at hall
        obtain ⟨hx, hn⟩ := hall
        have HX := keepf hx
        have HN := keepf hn
        clear hx hn
        by_cases h265 : k < 265
        · have d5 : decide ((k : Int) < 265) = true := by simp; omega
          have d5' : decide (k < 265) = true := by simp; omega
          go_wp2_with fail
          go_ret3
          refine ⟨?_, rfl⟩
          have hb : n = 0 := by rw [HN.out]; unfold bitsL; rw [if_neg (by omega)]
          rw [HX.out, hb, ← HA.out]
          rfl
        · have d5 : decide ((k : Int) < 265) = false := by simp; omega
          have d5' : decide (k < 265) = false := by simp; omega
          have hb : n = (k - 261) / 4 := by rw [HN.out]; unfold bitsL; rw [if_pos (by omega)]
          have e1 : ((k : Int) - 261) / 4 = (n : Int) := by omega
          have HB := keepf hb
          clear hb
          go_wp2_with fail
          go_ret3
          refine ⟨?_, rfl⟩
          rw [HX.out, ← HA.out]
          rfl

set_option maxRecDepth 100000 in
theorem rdistance_no (z : Int) (w : World) (h0 : -9223372036854775808 ≤ z) (h1 : z ≤ 9223372036854775807) (h : z < 0 ∨ 29 < z) :
    Calls Try.prog 13 #[.int .i64 z] w (Tells 0 0 false w) := by
  rcases h with h | h
  · have d1 : decide (z < 0) = true := by simpa using h
    go_enter Try.func13, Try.ntmps13
    go_wp2_with fail
    go_ret3
    exact ⟨rfl, rfl⟩
  · have d1 : decide (z < 0) = false := by simp; omega
    have d2 : decide (29 < z) = true := by simpa using h
    go_enter Try.func13, Try.ntmps13
    go_wp2_with fail
    go_ret3
    exact ⟨rfl, rfl⟩

set_option maxHeartbeats 1000000 in
set_option maxRecDepth 100000 in
theorem rdistance_ok (s x n : Nat) (w : World) (h : distOf s = some (x, n)) :
    Calls Try.prog 13 #[.int .i64 s] w (Tells x n true w) := by
  have h2 : s ≤ 29 := by
    rcases Nat.lt_or_ge 29 s with e | e
    · unfold distOf at h; rw [if_pos e] at h; cases h
    · exact e
  have HL := keepf h
  have d1 : decide ((s : Int) < 0) = false := by simp
  have d2 : decide ((29 : Int) < s) = false := by simp; omega
  have d2' : decide (29 < s) = false := by simp; omega
  clear h
  go_enter Try.func13, Try.ntmps13
  go_wp2_with fail
  go_loop [5, 6] (fun va vk => ∃ k at_ : Nat, k ≤ s ∧ at_ ≤ 32768 ∧ vk = .int .i64 k ∧ va = .int .i64 at_ ∧ Hid (at_ = sumD k)) (fun _ vk => s - (intOf vk).toNat)
  case atStart => exact ⟨0, 1, by omega, by omega, rfl, rfl, rfl⟩
  case round =>
    obtain ⟨k, at_, hk2, ha, rfl, rfl, HA⟩ := hrel
    by_cases hlt : k < s
    · have hsum : sumD (k + 1) = at_ + 2 ^ bitsD k := by rw [sumD, HA.out]
      have hall := sumD_all k (by omega)
      have hall2 := sumD_all (k + 1) (by omega)
      have hq := hall.2.1
      have ha2 := hall2.1
      rw [hsum] at ha2
      have HSum := keepf hsum
      obtain ⟨p, hp⟩ : ∃ p, p = 2 ^ bitsD k := ⟨_, rfl⟩
      rw [← hp] at ha2 HSum
      have HPow := keepf (fun W => power_any (bitsD k) W (by omega))
      rw [← hp] at HPow
      by_cases h4 : 4 ≤ k
      · have hb : bitsD k = (k - 2) / 2 := by unfold bitsD; rw [if_pos h4]
        obtain ⟨q, hqe⟩ : ∃ q, q = bitsD k := ⟨_, rfl⟩
        have e1 : ((k : Int) - 2) / 2 = (q : Int) := by omega
        rw [← hqe] at HPow
        have d5 : decide ((4 : Int) ≤ k) = true := by simp; omega
        have d5' : decide (4 ≤ k) = true := by simp; omega
        clear hsum hall hall2 hq hp hb hqe
        go_wp2_with (go_at_call 28; refine (HPow.out _).mono ?_; rintro e w2 ⟨rfl, rfl⟩)
        go_round
        case rel => exact ⟨k + 1, at_ + p, by omega, by omega, by go_num, by go_num, HSum.out.symm⟩
        case measure => simp [intOf]; omega
      · have hb : bitsD k = 0 := by unfold bitsD; rw [if_neg h4]
        have d5 : decide ((4 : Int) ≤ k) = false := by simp; omega
        have d5' : decide (4 ≤ k) = false := by simp; omega
        rw [hb] at HPow
        clear hsum hall hall2 hq hp hb
        go_wp2_with (go_at_call 28; refine (HPow.out _).mono ?_; rintro e w2 ⟨rfl, rfl⟩)
        go_round
        case rel => exact ⟨k + 1, at_ + p, by omega, by omega, by go_num, by go_num, HSum.out.symm⟩
        case measure => simp [intOf]; omega
    · obtain rfl : k = s := by omega
      have hall := (sumD_all k (by omega)).2.2
      rw [HL.out] at hall
      simp only [Option.some.injEq, Prod.mk.injEq] at hall
      obtain ⟨hx, hn⟩ := hall
      have HX := keepf hx
      have HN := keepf hn
      clear hx hn
      by_cases h4 : k < 4
      · have d5 : decide ((k : Int) < 4) = true := by simp; omega
        have d5' : decide (k < 4) = true := by simp; omega
        go_wp2_with fail
        go_ret3
        refine ⟨?_, rfl⟩
        have hb : n = 0 := by rw [HN.out]; unfold bitsD; rw [if_neg (by omega)]
        rw [HX.out, hb, ← HA.out]
        rfl
      · have d5 : decide ((k : Int) < 4) = false := by simp; omega
        have d5' : decide (k < 4) = false := by simp; omega
        have hb : n = (k - 2) / 2 := by rw [HN.out]; unfold bitsD; rw [if_pos (by omega)]
        have e1 : ((k : Int) - 2) / 2 = (n : Int) := by omega
        have HB := keepf hb
        clear hb
        go_wp2_with fail
        go_ret3
        refine ⟨?_, rfl⟩
        rw [HX.out, ← HA.out]
        rfl

/-- The program's Length and the document's tell the same, of any number; so do Distance and the document's. -/
theorem lengths_both (z : Int) (h0 : -9223372036854775808 ≤ z) (h1 : z ≤ 9223372036854775807) :
    ∃ (x n : Int) (ok : Bool), (∀ w, Calls Try.prog 10 #[.int .i64 z] w (Tells x n ok w)) ∧ ∀ w, Calls Try.prog 11 #[.int .i64 z] w (Tells x n ok w) := by
  by_cases h : z < 257 ∨ 285 < z
  · exact ⟨0, 0, false, fun w => length_no z w h0 h1 h, fun w => rlength_no z w h0 h1 h⟩
  · obtain ⟨s, rfl⟩ := Int.eq_ofNat_of_zero_le (show 0 ≤ z by omega)
    cases hl : lenOf s with
    | none =>
      exfalso
      unfold lenOf at hl
      rw [if_neg (by omega)] at hl
      repeat' split at hl
      all_goals cases hl
    | some xn => exact ⟨xn.1, xn.2, true, fun w => length_ok s xn.1 xn.2 w hl, fun w => rlength_ok s xn.1 xn.2 w hl⟩
theorem distances_both (z : Int) (h0 : -9223372036854775808 ≤ z) (h1 : z ≤ 9223372036854775807) :
    ∃ (x n : Int) (ok : Bool), (∀ w, Calls Try.prog 12 #[.int .i64 z] w (Tells x n ok w)) ∧ ∀ w, Calls Try.prog 13 #[.int .i64 z] w (Tells x n ok w) := by
  by_cases h : z < 0 ∨ 29 < z
  · exact ⟨0, 0, false, fun w => distance_no z w h0 h1 h, fun w => rdistance_no z w h0 h1 h⟩
  · obtain ⟨s, rfl⟩ := Int.eq_ofNat_of_zero_le (show 0 ≤ z by omega)
    cases hl : distOf s with
    | none =>
      exfalso
      unfold distOf at hl
      rw [if_neg (by omega)] at hl
      repeat' split at hl
      all_goals cases hl
    | some xn => exact ⟨xn.1, xn.2, true, fun w => distance_ok s xn.1 xn.2 w hl, fun w => rdistance_ok s xn.1 xn.2 w hl⟩
end Go.Proofs.Ytbdnhhhagpgibaa
