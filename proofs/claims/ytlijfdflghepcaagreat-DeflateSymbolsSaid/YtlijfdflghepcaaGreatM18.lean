/- Merged by program: RSym. -/
import Derived.Test.YtlijfdflghepcaaGreatM10
import Derived.Test.YtlijfdflghepcaaGreatM13
/- The document's own Symbol and Far (written by wip/tools/mkrsym.py). -/
namespace Go.Proofs.YtlijfdflghepcaaGreat
open Go.RowKit
set_option linter.unusedVariables false
set_option linter.unusedSimpArgs false

theorem numL_ge : ∀ i : Nat, i < 29 → 3 ≤ numL i := by decide +kernel
theorem numD_ge : ∀ i : Nat, i < 30 → 1 ≤ numD i := by decide +kernel

set_option maxRecDepth 100000 in
theorem rsymbol_no (z : Int) (w : World) (h0 : -9223372036854775808 ≤ z) (h1 : z ≤ 9223372036854775807) (h : z < 3 ∨ 258 < z) :
    Calls Tryz.prog 17 #[.int .i64 z] w fun e w' => e = .returned (.tuple #[.int .i64 (0), .int .i64 0, .int .i64 0]) ∧ w = w' := by
  by_cases hh : 258 < z
  · have d1 : decide (258 < z) = true := by simpa using hh
    go_enter Tryz.func17, Tryz.ntmps17
    go_wp2_with fail
    go_ret3
    exact ⟨rfl, rfl⟩
  · have d1 : decide (258 < z) = false := by simpa using hh
    have hz : z < 3 := by omega
    go_enter Tryz.func17, Tryz.ntmps17
    go_wp2_with fail
    go_loop [5, 6, 7, 8] (fun s l b k => ∃ m : Nat, m ≤ 29 ∧ k = .int .i64 ((257 : Int) + m) ∧ s = .int .i64 (0) ∧ l = .int .i64 0 ∧ b = .int .i64 0) (fun s l b k => (286 - intOf k).toNat)
    case atStart => exact ⟨0, by omega, rfl, rfl, rfl, rfl⟩
    case round =>
      obtain ⟨m, hm, rfl, rfl, rfl, rfl⟩ := hrel
      by_cases hlt : m < 29
      · have HL := keepf (fun W => rlength_ok (257 + m) (numL m) (bitL m) W (numL_all m hlt).1)
        rw [show ((257 + m : Nat) : Int) = (257 : Int) + m from by omega] at HL
        have hge := numL_ge m hlt
        have d2 : decide ((numL m : Int) ≤ z) = false := by simp; omega
        generalize numL m = f at *
        generalize bitL m = b at *
        have hb1 : decide ((257 : Int) + m ≤ 285) = true := by simp; omega
        have hb2 : (257 : Int) + m ≤ 285 := by omega
        go_wp2_with (go_at_call 20; refine (HL.out _).mono ?_; rintro e w' ⟨rfl, rfl⟩)
        go_round
        case rel => exact ⟨m + 1, by omega, by go_num, rfl, rfl, rfl⟩
        case measure => simp [intOf]; omega
      · obtain rfl : m = 29 := by omega
        go_wp2_with fail
        go_ret3
        exact ⟨rfl, rfl⟩

set_option maxHeartbeats 400000 in
set_option maxRecDepth 100000 in
theorem rsymbol_ok (x : Nat) (w : World) (h1 : 3 ≤ x) (h2 : x ≤ 258) :
    Calls Tryz.prog 17 #[.int .i64 (x : Nat)] w fun e w' =>
      e = .returned (.tuple #[.int .i64 ((257 : Int) + lsym x : Int), .int .i64 ((x : Int) - numL (lsym x)), .int .i64 (bitL (lsym x) : Nat)]) ∧ w = w' := by
  have d1 : decide ((258 : Int) < (x : Int)) = false := by simp; omega
  have d1' : decide (258 < x) = false := by simp; omega
  go_enter Tryz.func17, Tryz.ntmps17
  go_wp2_with fail
  go_loop [5, 6, 7, 8] (fun s l b k => ∃ m : Nat, m ≤ 29 ∧ k = .int .i64 ((257 : Int) + m) ∧
    ((m = 0 ∧ s = .int .i64 (0) ∧ l = .int .i64 0 ∧ b = .int .i64 0) ∨ (1 ≤ m ∧ s = .int .i64 ((257 : Int) + topOf numL x m) ∧ l = .int .i64 ((x : Int) - numL (topOf numL x m)) ∧ b = .int .i64 (bitL (topOf numL x m) : Nat)))) (fun s l b k => (286 - intOf k).toNat)
  case atStart => exact ⟨0, by omega, rfl, .inl ⟨rfl, rfl, rfl, rfl⟩⟩
  case round =>
    obtain ⟨m, hm, rfl, hs⟩ := hrel
    by_cases hlt : m < 29
    · have HL := keepf (fun W => rlength_ok (257 + m) (numL m) (bitL m) W (numL_all m hlt).1)
      rw [show ((257 + m : Nat) : Int) = (257 : Int) + m from by omega] at HL
      have hb1 : decide ((257 : Int) + m ≤ 285) = true := by simp; omega
      have hb2 : (257 : Int) + m ≤ 285 := by omega
      have hf := (numL_all m hlt).2.1
      by_cases hle : numL m ≤ x
      · have d2 : decide ((numL m : Int) ≤ (x : Int)) = true := by simp; omega
        have d2' : decide (numL m ≤ x) = true := by simpa using hle
        have ht : topOf numL x (m + 1) = m := by rw [topOf, if_pos hle]
        have HT := keepf ht
        obtain ⟨f, hfe⟩ : ∃ f, f = numL m := ⟨_, rfl⟩
        obtain ⟨b, hbe⟩ : ∃ b, b = bitL m := ⟨_, rfl⟩
        rw [← hfe] at HL hf hle d2 d2'
        rw [← hbe] at HL
        have HFE := keepf hfe
        have HBE := keepf hbe
        clear hfe hbe ht
        rcases hs with ⟨hz0, rfl, rfl, rfl⟩ | ⟨_, rfl, rfl, rfl⟩
        · clear hz0
          go_wp2_with (go_at_call 20; refine (HL.out _).mono ?_; rintro e w' ⟨rfl, rfl⟩)
          go_round
          case rel => exact ⟨m + 1, by omega, by go_num, .inr ⟨by omega, by rw [HT.out], by rw [HT.out, ← HFE.out], by rw [HT.out, ← HBE.out]⟩⟩
          case measure => simp [intOf]; omega
        · go_wp2_with (go_at_call 20; refine (HL.out _).mono ?_; rintro e w' ⟨rfl, rfl⟩)
          go_round
          case rel => exact ⟨m + 1, by omega, by go_num, .inr ⟨by omega, by rw [HT.out], by rw [HT.out, ← HFE.out], by rw [HT.out, ← HBE.out]⟩⟩
          case measure => simp [intOf]; omega
      · have d2 : decide ((numL m : Int) ≤ (x : Int)) = false := by simp; omega
        have d2' : decide (numL m ≤ x) = false := by simpa using hle
        have hm0 : 1 ≤ m := by
          rcases Nat.eq_zero_or_pos m with rfl | h
          · exact absurd (by have : numL 0 = 3 := by decide +kernel
                             omega) hle
          · exact h
        have ht : topOf numL x (m + 1) = topOf numL x m := by rw [topOf, if_neg hle]
        have HT := keepf ht
        rcases hs with ⟨h0, _⟩ | ⟨_, rfl, rfl, rfl⟩
        · omega
        · generalize numL m = f at *
          generalize bitL m = b at *
          clear ht
          go_wp2_with (go_at_call 20; refine (HL.out _).mono ?_; rintro e w' ⟨rfl, rfl⟩)
          go_round
          case rel => exact ⟨m + 1, by omega, by go_num, .inr ⟨by omega, by rw [HT.out], by rw [HT.out], by rw [HT.out]⟩⟩
          case measure => simp [intOf]; omega
    · obtain rfl : m = 29 := by omega
      rcases hs with ⟨h0, _⟩ | ⟨_, rfl, rfl, rfl⟩
      · omega
      · go_wp2_with fail
        go_ret3
        exact ⟨rfl, rfl⟩

set_option maxRecDepth 100000 in
theorem rfar_no (z : Int) (w : World) (h0 : -9223372036854775808 ≤ z) (h1 : z ≤ 9223372036854775807) (h : z < 1 ∨ 32768 < z) :
    Calls Tryz.prog 19 #[.int .i64 z] w fun e w' => e = .returned (.tuple #[.int .i64 (-1), .int .i64 0, .int .i64 0]) ∧ w = w' := by
  by_cases hh : 32768 < z
  · have d1 : decide (32768 < z) = true := by simpa using hh
    go_enter Tryz.func19, Tryz.ntmps19
    go_wp2_with fail
    go_ret3
    exact ⟨rfl, rfl⟩
  · have d1 : decide (32768 < z) = false := by simpa using hh
    have hz : z < 1 := by omega
    go_enter Tryz.func19, Tryz.ntmps19
    go_wp2_with fail
    go_loop [5, 6, 7, 8] (fun s l b k => ∃ m : Nat, m ≤ 30 ∧ k = .int .i64 ((m : Int)) ∧ s = .int .i64 (-1) ∧ l = .int .i64 0 ∧ b = .int .i64 0) (fun s l b k => (30 - intOf k).toNat)
    case atStart => exact ⟨0, by omega, rfl, rfl, rfl, rfl⟩
    case round =>
      obtain ⟨m, hm, rfl, rfl, rfl, rfl⟩ := hrel
      by_cases hlt : m < 30
      · have HL := keepf (fun W => rdistance_ok m (numD m) (bitD m) W (numD_all m hlt).1)
        skip
        have hge := numD_ge m hlt
        have d2 : decide ((numD m : Int) ≤ z) = false := by simp; omega
        generalize numD m = f at *
        generalize bitD m = b at *
        have hb1 : decide ((m : Int) < 30) = true := by simp; omega
        have hb2 : (m : Int) < 30 := by omega
        go_wp2_with (go_at_call 21; refine (HL.out _).mono ?_; rintro e w' ⟨rfl, rfl⟩)
        go_round
        case rel => exact ⟨m + 1, by omega, by go_num, rfl, rfl, rfl⟩
        case measure => simp [intOf]; omega
      · obtain rfl : m = 30 := by omega
        go_wp2_with fail
        go_ret3
        exact ⟨rfl, rfl⟩

set_option maxHeartbeats 400000 in
set_option maxRecDepth 100000 in
theorem rfar_ok (x : Nat) (w : World) (h1 : 1 ≤ x) (h2 : x ≤ 32768) :
    Calls Tryz.prog 19 #[.int .i64 (x : Nat)] w fun e w' =>
      e = .returned (.tuple #[.int .i64 (dsym x : Nat), .int .i64 ((x : Int) - numD (dsym x)), .int .i64 (bitD (dsym x) : Nat)]) ∧ w = w' := by
  have d1 : decide ((32768 : Int) < (x : Int)) = false := by simp; omega
  have d1' : decide (32768 < x) = false := by simp; omega
  go_enter Tryz.func19, Tryz.ntmps19
  go_wp2_with fail
  go_loop [5, 6, 7, 8] (fun s l b k => ∃ m : Nat, m ≤ 30 ∧ k = .int .i64 ((m : Int)) ∧
    ((m = 0 ∧ s = .int .i64 (-1) ∧ l = .int .i64 0 ∧ b = .int .i64 0) ∨ (1 ≤ m ∧ s = .int .i64 (topOf numD x m) ∧ l = .int .i64 ((x : Int) - numD (topOf numD x m)) ∧ b = .int .i64 (bitD (topOf numD x m) : Nat)))) (fun s l b k => (30 - intOf k).toNat)
  case atStart => exact ⟨0, by omega, rfl, .inl ⟨rfl, rfl, rfl, rfl⟩⟩
  case round =>
    obtain ⟨m, hm, rfl, hs⟩ := hrel
    by_cases hlt : m < 30
    · have HL := keepf (fun W => rdistance_ok m (numD m) (bitD m) W (numD_all m hlt).1)
      skip
      have hb1 : decide ((m : Int) < 30) = true := by simp; omega
      have hb2 : (m : Int) < 30 := by omega
      have hf := (numD_all m hlt).2.1
      by_cases hle : numD m ≤ x
      · have d2 : decide ((numD m : Int) ≤ (x : Int)) = true := by simp; omega
        have d2' : decide (numD m ≤ x) = true := by simpa using hle
        have ht : topOf numD x (m + 1) = m := by rw [topOf, if_pos hle]
        have HT := keepf ht
        obtain ⟨f, hfe⟩ : ∃ f, f = numD m := ⟨_, rfl⟩
        obtain ⟨b, hbe⟩ : ∃ b, b = bitD m := ⟨_, rfl⟩
        rw [← hfe] at HL hf hle d2 d2'
        rw [← hbe] at HL
        have HFE := keepf hfe
        have HBE := keepf hbe
        clear hfe hbe ht
        rcases hs with ⟨hz0, rfl, rfl, rfl⟩ | ⟨_, rfl, rfl, rfl⟩
        · clear hz0
          go_wp2_with (go_at_call 21; refine (HL.out _).mono ?_; rintro e w' ⟨rfl, rfl⟩)
          go_round
          case rel => exact ⟨m + 1, by omega, by go_num, .inr ⟨by omega, by rw [HT.out], by rw [HT.out, ← HFE.out], by rw [HT.out, ← HBE.out]⟩⟩
          case measure => simp [intOf]; omega
        · go_wp2_with (go_at_call 21; refine (HL.out _).mono ?_; rintro e w' ⟨rfl, rfl⟩)
          go_round
          case rel => exact ⟨m + 1, by omega, by go_num, .inr ⟨by omega, by rw [HT.out], by rw [HT.out, ← HFE.out], by rw [HT.out, ← HBE.out]⟩⟩
          case measure => simp [intOf]; omega
      · have d2 : decide ((numD m : Int) ≤ (x : Int)) = false := by simp; omega
        have d2' : decide (numD m ≤ x) = false := by simpa using hle
        have hm0 : 1 ≤ m := by
          rcases Nat.eq_zero_or_pos m with rfl | h
          · exact absurd (by have : numD 0 = 1 := by decide +kernel
                             omega) hle
          · exact h
        have ht : topOf numD x (m + 1) = topOf numD x m := by rw [topOf, if_neg hle]
        have HT := keepf ht
        rcases hs with ⟨h0, _⟩ | ⟨_, rfl, rfl, rfl⟩
        · omega
        · generalize numD m = f at *
          generalize bitD m = b at *
          clear ht
          go_wp2_with (go_at_call 21; refine (HL.out _).mono ?_; rintro e w' ⟨rfl, rfl⟩)
          go_round
          case rel => exact ⟨m + 1, by omega, by go_num, .inr ⟨by omega, by rw [HT.out], by rw [HT.out], by rw [HT.out]⟩⟩
          case measure => simp [intOf]; omega
    · obtain rfl : m = 30 := by omega
      rcases hs with ⟨h0, _⟩ | ⟨_, rfl, rfl, rfl⟩
      · omega
      · go_wp2_with fail
        go_ret3
        exact ⟨rfl, rfl⟩
end Go.Proofs.YtlijfdflghepcaaGreat

