/- The program's digits: digit, allDigits, count, millionths. -/
import Derived.Test.YtmmehaghcfdjdaaRDig
import Derived.Lib.OthersKept
import Derived.LoopTactic
namespace Go.Proofs.Ytmmehaghcfdjdaa
open Go.RowKit
set_option linter.unusedVariables false
set_option linter.unusedSimpArgs false

theorem digit_yes (x : Nat) (h : isD x) (w : World) : Calls Try.prog 67 #[.int .i32 (x : Nat)] w fun e w' => e = .returned (.tuple #[.int .i64 ((x - 48 : Nat) : Int), .bool true]) ∧ w' = w := by
  unfold isD at h
  have d1 : decide ((48 : Int) ≤ x) = true := by simp; omega
  have d1' : decide (48 ≤ x) = true := by simp; omega
  have d2 : decide ((x : Int) ≤ 57) = true := by simp; omega
  have d2' : decide (x ≤ 57) = true := by simp; omega
  have e1 : (x : Int) - 48 = ((x - 48 : Nat) : Int) := by omega
  go_enter Try.func67, Try.ntmps67
  go_wp2_with fail
  go_ret2
  exact ⟨by rw [← e1]; rfl, rfl⟩
theorem digit_no (r : Nat) (h1 : r ≤ 2147483647) (h : ¬ isD r) (w : World) : Calls Try.prog 67 #[.int .i32 (r : Nat)] w fun e w' => (∃ d, e = .returned (.tuple #[.int .i64 d, .bool false])) ∧ w' = w := by
  unfold isD at h
  by_cases c : 48 ≤ r
  · have d1 : decide ((48 : Int) ≤ r) = true := by simp; omega
    have d1' : decide (48 ≤ r) = true := by simp; omega
    have d2 : decide ((r : Int) ≤ 57) = false := by simp; omega
    have d2' : decide (r ≤ 57) = false := by simp; omega
    go_enter Try.func67, Try.ntmps67
    go_wp2_with fail
    go_ret2
    exact ⟨⟨_, rfl⟩, rfl⟩
  · have d1 : decide ((48 : Int) ≤ r) = false := by simp; omega
    have d1' : decide (48 ≤ r) = false := by simp; omega
    go_enter Try.func67, Try.ntmps67
    go_wp2_with fail
    go_ret2
    exact ⟨⟨_, rfl⟩, rfl⟩

/-- Are all of them digits? -/
def allD (l : List Nat) : Prop := ∀ d ∈ l, isD d
instance (l : List Nat) : Decidable (allD l) := inferInstanceAs (Decidable (∀ d ∈ l, isD d))

theorem iter_chg {w : World} {s : ByteArray} (p : Nat) : Chg NoS w (w.iter s p) := (Chg.refl NoS w).alloc _

set_option maxHeartbeats 1000000 in
theorem alld_any (s : ByteArray) (w : World) (hl : s.size ≤ 1000000) :
    Calls Try.prog 55 #[.string s] w fun e w' => e = .returned (.bool (decide (allD (sl s)))) ∧ Chg NoS w w' := by
  have HAT := keepf (fun k (h2 : k < s.size) => sl_at s k h2)
  have HGT := keepf (fun k (h2 : k < s.size) => sl_get (s := s) (k := k) h2)
  have HY := keepf (fun x h W => digit_yes x h W)
  have HN := keepf (fun x h1 h W => digit_no x h1 h W)
  go_enter Try.func55, Try.ntmps55
  go_wp2_with fail
  go_loopw [4] (fun _ w' => ∃ k : Nat, k ≤ s.size ∧ w' = w.iter s k ∧ Hid (∀ d ∈ (sl s).take k, isD d)) (fun _ w' => s.size - w'.iterPos w.heap.size)
  case atStart => exact ⟨0, Nat.zero_le _, rfl, fun d hd => by simp at hd⟩
  case round =>
    obtain ⟨k, hk, rfl, HD⟩ := hrel
    by_cases hp : k < s.size
    · have hxa := HAT.out k hp
      have HG := HGT.out k hp
      obtain ⟨x, hx⟩ : ∃ x, (sl s).getD k 0 = x := ⟨_, rfl⟩
      rw [hx] at hxa HG
      have HGX := keepf HG
      clear hx HG
      by_cases hd : isD x
      · have hnx : ∀ ty, (Instr.next (.pointer (some ⟨w.heap.size, 0, none⟩)) true ty).run Try.prog (w.iter s k) = .ok (.tuple #[.bool true, .int .i64 k, .int .i32 (x : Nat)]) (w.iter s (k + 1)) := fun ty => by
          rw [run_next_ascii w s k ty hp (by unfold isD at hd; omega), hxa]
        clear hxa
        have HDX := keepf hd
        clear hd
        go_wp2_with (go_at_call 67; refine (HY.out _ HDX.out _).mono ?_; rintro e w' ⟨rfl, rfl⟩)
        go_roundw
        case rel =>
          refine ⟨k + 1, by omega, rfl, ?_⟩
          show ∀ d ∈ (sl s).take (k + 1), isD d
          rw [take_snoc HGX.out]
          intro d hd
          rcases List.mem_append.1 hd with h | h
          · exact HD.out d h
          · rw [List.mem_singleton] at h
            subst h
            exact HDX.out
        case measure => simp; omega
      · have HB : Hid (decide (allD (sl s)) = false) := by
          show _ = _
          rw [decide_eq_false_iff_not]
          exact fun h => hd (h x (List.mem_of_getElem? HGX.out))
        obtain ⟨r, p, hr1, hr2, hnx⟩ : ∃ r p : Nat, r ≤ 2147483647 ∧ ¬ isD r ∧ ∀ ty, (Instr.next (.pointer (some ⟨w.heap.size, 0, none⟩)) true ty).run Try.prog (w.iter s k) = .ok (.tuple #[.bool true, .int .i64 k, .int .i32 (r : Nat)]) (w.iter s p) := by
          by_cases ha : x < 128
          · exact ⟨x, k + 1, by omega, hd, fun ty => by rw [run_next_ascii w s k ty hp (by omega), hxa]⟩
          · refine ⟨(Utf8.decode s k).1, k + (Utf8.decode s k).2, decode_le s k, ?_, fun ty => run_next_any w s k ty hp⟩
            have := (decode_high s k hp (by omega)).1
            unfold isD
            omega
        clear hxa hd
        have HR := keepf hr2
        clear hr2
        go_wp2_with (go_at_call 67; refine (HN.out _ hr1 HR.out _).mono ?_; rintro e w' ⟨⟨d, rfl⟩, rfl⟩)
        go_ret
        rw [HB.out]
        exact ⟨rfl, iter_chg _⟩
    · obtain rfl : s.size = k := by omega
      have HB : Hid (decide (allD (sl s)) = true) := by
        show _ = _
        rw [decide_eq_true_iff]
        have h := HD.out
        rwa [List.take_of_length_le (by rw [sl_len]; exact Nat.le_refl _)] at h
      have hnx : ∀ ty, (Instr.next (.pointer (some ⟨w.heap.size, 0, none⟩)) true ty).run Try.prog (w.iter s s.size) = _ := fun ty => run_next_end w s s.size ty hp
      go_wp2_with fail
      go_ret
      rw [HB.out]
      exact ⟨rfl, iter_chg _⟩

set_option maxHeartbeats 1000000 in
theorem count_any (s : ByteArray) (w : World) (hl : s.size ≤ 1000000) (hD : allD (sl s)) :
    Calls Try.prog 56 #[.string s] w fun e w' => e = .returned (.int .i64 ((min (valF 0 (sl s)) 2147483648 : Nat) : Int)) ∧ Chg NoS w w' := by
  have HDD := keepf hD
  clear hD
  have HAT := keepf (fun k (h2 : k < s.size) => sl_at s k h2)
  have HGT := keepf (fun k (h2 : k < s.size) => sl_get (s := s) (k := k) h2)
  have HY := keepf (fun x h W => digit_yes x h W)
  go_enter Try.func56, Try.ntmps56
  go_wp2_with fail
  go_loopw [3] (fun vn w' => ∃ k n : Nat, k ≤ s.size ∧ w' = w.iter s k ∧ vn = .int .i64 (n : Nat) ∧ Hid (n = min (valF 0 ((sl s).take k)) 2147483648) ∧ n ≤ 2147483648) (fun _ w' => s.size - w'.iterPos w.heap.size)
  case atStart => exact ⟨0, 0, Nat.zero_le _, rfl, rfl, by show 0 = _; simp [valF], by omega⟩
  case round =>
    obtain ⟨k, n, hk, rfl, rfl, HN, hn⟩ := hrel
    by_cases hp : k < s.size
    · have hxa := HAT.out k hp
      have HG := HGT.out k hp
      obtain ⟨x, hx⟩ : ∃ x, (sl s).getD k 0 = x := ⟨_, rfl⟩
      rw [hx] at hxa HG
      have HGX := keepf HG
      have hd : isD x := HDD.out x (List.mem_of_getElem? HG)
      clear hx HG
      have hnx : ∀ ty, (Instr.next (.pointer (some ⟨w.heap.size, 0, none⟩)) true ty).run Try.prog (w.iter s k) = .ok (.tuple #[.bool true, .int .i64 k, .int .i32 (x : Nat)]) (w.iter s (k + 1)) := fun ty => by
        rw [run_next_ascii w s k ty hp (by unfold isD at hd; omega), hxa]
      have HDX := keepf hd
      obtain ⟨y, hy⟩ : ∃ y, x - 48 = y := ⟨_, rfl⟩
      have hy9 : y ≤ 9 := by unfold isD at hd; omega
      have HYY := keepf (show ∀ W, Calls Try.prog 67 #[.int .i32 (x : Nat)] W fun e w' => e = .returned (.tuple #[.int .i64 (y : Int), .bool true]) ∧ w' = W from fun W => by rw [← hy]; exact HY.out x hd W)
      have HV : Hid (valF 0 ((sl s).take (k + 1)) = 10 * valF 0 ((sl s).take k) + y) := by
        show _ = _
        rw [take_snoc HGX.out, valF_app, ← hy]
        rfl
      clear hxa hd hy
      obtain ⟨m, hm⟩ : ∃ m : Nat, m = min (10 * n + y) 2147483648 := ⟨_, rfl⟩
      have e1 : min ((10 : Int) * (n : Int) + (y : Int)) 2147483648 = (m : Int) := by omega
      have hm2 : m ≤ 2147483648 := by omega
      have HM := keepf hm
      clear hm
      go_wp2_with (go_at_call 67; refine (HYY.out _).mono ?_; rintro e w' ⟨rfl, rfl⟩)
      go_roundw
      case rel => exact ⟨k + 1, m, by omega, rfl, by have h := HM.out; simp; split <;> omega, by show m = _; have h1 := HV.out; have h2 := HM.out; have h3 := HN.out; omega, hm2⟩
      case measure => simp; omega
    · obtain rfl : s.size = k := by omega
      have hnx : ∀ ty, (Instr.next (.pointer (some ⟨w.heap.size, 0, none⟩)) true ty).run Try.prog (w.iter s s.size) = _ := fun ty => run_next_end w s s.size ty hp
      go_wp2_with fail
      go_ret
      refine ⟨?_, iter_chg _⟩
      have h := HN.out
      rw [List.take_of_length_le (by rw [sl_len]; exact Nat.le_refl _)] at h
      rw [← h]
      rfl
end Go.Proofs.Ytmmehaghcfdjdaa
