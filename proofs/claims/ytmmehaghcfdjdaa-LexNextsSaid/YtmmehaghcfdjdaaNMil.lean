/- The program's millionths. -/
import Derived.Test.YtmmehaghcfdjdaaNDig
namespace Go.Proofs.Ytmmehaghcfdjdaa
open Go.RowKit
set_option linter.unusedVariables false
set_option linter.unusedSimpArgs false

theorem milF_snoc : ∀ (l : List Nat) (j c : Nat), milF j (l ++ [c]) = milF j l + 100000 / 10 ^ min (j + l.length) 6 * (c - 48) := by
  intro l
  induction l with
  | nil => intro j c; simp [milF]
  | cons x l ih =>
    intro j c
    rw [List.cons_append, milF, milF, ih, List.length_cons, show j + 1 + l.length = j + (l.length + 1) from by omega]
    omega
theorem milF_bound : ∀ (l : List Nat) (j : Nat), (∀ d ∈ l, isD d) → milF j l + 10 ^ (6 - min (j + l.length) 6) ≤ 10 ^ (6 - min j 6) := by
  intro l
  induction l with
  | nil => intro j _; simp [milF]
  | cons x l ih =>
    intro j h
    have h1 := ih (j + 1) (fun d hd => h d (List.mem_cons_of_mem _ hd))
    have hx := h x (List.mem_cons_self ..)
    unfold isD at hx
    rw [milF, List.length_cons, show j + (l.length + 1) = j + 1 + l.length from by omega]
    by_cases hj : j ≤ 5
    · have h2 := mil_big j hj
      have h3 : 100000 / 10 ^ min j 6 * (x - 48) ≤ 100000 / 10 ^ min j 6 * 9 := Nat.mul_le_mul_left _ (by omega)
      omega
    · have e1 : min j 6 = 6 := by omega
      have e2 : min (j + 1) 6 = 6 := by omega
      have e3 : 100000 / 10 ^ 6 = 0 := by decide
      rw [e2] at h1
      rw [e1, e3]
      omega
theorem unit_next (k : Nat) : 100000 / 10 ^ min k 6 / 10 = 100000 / 10 ^ min (k + 1) 6 := by
  by_cases h : k < 6
  · rcases k with _ | _ | _ | _ | _ | _ | k
    all_goals first | decide | omega
  · rw [show min k 6 = 6 from by omega, show min (k + 1) 6 = 6 from by omega]
theorem unit_le (k : Nat) : 100000 / 10 ^ min k 6 ≤ 100000 := Nat.div_le_self _ _

set_option maxHeartbeats 1000000 in
theorem mil_any (s : ByteArray) (w : World) (hl : s.size ≤ 1000000) (hD : allD (sl s)) :
    Calls Try.prog 57 #[.string s] w fun e w' => e = .returned (.int .i64 ((milF 0 (sl s) : Nat) : Int)) ∧ Chg NoS w w' := by
  have HDD := keepf hD
  clear hD
  have HAT := keepf (fun k (h2 : k < s.size) => sl_at s k h2)
  have HGT := keepf (fun k (h2 : k < s.size) => sl_get (s := s) (k := k) h2)
  have HY := keepf (fun x h W => digit_yes x h W)
  have HSZ := keepf (sl_len s)
  go_enter Try.func57, Try.ntmps57
  go_wp2_with fail
  go_loopw [3, 4] (fun vn vu w' => ∃ k n u : Nat, k ≤ s.size ∧ w' = w.iter s k ∧ vn = .int .i64 (n : Nat) ∧ vu = .int .i64 (u : Nat) ∧ Hid (n = milF 0 ((sl s).take k)) ∧ n ≤ 1000000 ∧ u ≤ 1000000 ∧ Hid (u / 10 = 100000 / 10 ^ min k 6)) (fun _ _ w' => s.size - w'.iterPos w.heap.size)
  case atStart => exact ⟨0, 0, 1000000, Nat.zero_le _, rfl, rfl, rfl, by show 0 = _; simp [milF], by omega, by omega, by show _ = _; decide⟩
  case round =>
    obtain ⟨k, n, u, hk, rfl, rfl, rfl, HN, hn, hu, HU⟩ := hrel
    by_cases hp : k < s.size
    · have hxa := HAT.out k hp
      have HG := HGT.out k hp
      obtain ⟨x, hx⟩ : ∃ x, (sl s).getD k 0 = x := ⟨_, rfl⟩
      rw [hx] at hxa HG
      have HGX := keepf HG
      have hd : isD x := HDD.out x (List.mem_of_getElem? HG)
      clear hx HG
      have hnx : ∀ ty, (Instr.next (.pointer (some ⟨w.heap.size, 0, none⟩)) true ty).run Try.prog (w.iter s k) = .ok (.tuple #[.bool true, .int .i64 k, .int .i32 (x : Nat)]) (w.iter s (k + 1)) := fun ty => by
        rw [run_next_ascii w s k ty hp (by unfold isD at hd; omega), hxa]
      have HDX := keepf hd
      obtain ⟨y, hy⟩ : ∃ y, x - 48 = y := ⟨_, rfl⟩
      have hy9 : y ≤ 9 := by unfold isD at hd; omega
      have HYY := keepf (show ∀ W, Calls Try.prog 67 #[.int .i32 (x : Nat)] W fun e w' => e = .returned (.tuple #[.int .i64 (y : Int), .bool true]) ∧ w' = W from fun W => by rw [← hy]; exact HY.out x hd W)
      obtain ⟨v, hv⟩ : ∃ v : Nat, u / 10 = v := ⟨_, rfl⟩
      have HV : Hid (milF 0 ((sl s).take (k + 1)) = milF 0 ((sl s).take k) + v * y) := by
        show _ = _
        rw [take_snoc HGX.out, milF_snoc, List.length_take, show 0 + min k (sl s).length = k from by rw [HSZ.out]; omega, ← HU.out, hv, hy]
      have HVN : Hid (v / 10 = 100000 / 10 ^ min (k + 1) 6) := by
        show _ = _
        rw [← unit_next, ← HU.out, hv]
      have HVB : Hid (milF 0 ((sl s).take (k + 1)) ≤ 1000000) := by
        have h := milF_bound ((sl s).take (k + 1)) 0 (fun d hd => HDD.out d (List.take_subset _ _ hd))
        have e : (10 : Nat) ^ (6 - min 0 6) = 1000000 := by decide
        rw [e] at h
        exact Nat.le_trans (Nat.le_add_right _ _) h
      have hv6 : v ≤ 100000 := by omega
      have ed : (u : Int).tdiv 10 = (v : Int) := by rw [Int.tdiv_eq_ediv_of_nonneg (by omega)]; omega
      have ed2 : (u : Int) / 10 = (v : Int) := by omega
      clear hxa hd hy hv
      obtain ⟨z, hz⟩ : ∃ z : Nat, z = v * y := ⟨_, rfl⟩
      have hz9 : z ≤ 900000 := by rw [hz]; exact Nat.le_trans (Nat.mul_le_mul hv6 hy9) (by omega)
      have ez : (y : Int) * (v : Int) = (z : Int) := by rw [hz, Int.natCast_mul, Int.mul_comm]
      have HZ := keepf hz
      clear hz
      go_wp2_with (go_at_call 67; refine (HYY.out _).mono ?_; rintro e w' ⟨rfl, rfl⟩)
      go_roundw
      case rel => exact ⟨k + 1, n + z, v, by omega, rfl, by go_num, by go_num, by show n + z = _; have h1 := HV.out; have h2 := HZ.out; have h3 := HN.out; omega, by have h1 := HV.out; have h2 := HZ.out; have h3 := HN.out; have h4 := HVB.out; omega, by omega, HVN⟩
      case measure => simp; omega
    · obtain rfl : s.size = k := by omega
      have hnx : ∀ ty, (Instr.next (.pointer (some ⟨w.heap.size, 0, none⟩)) true ty).run Try.prog (w.iter s s.size) = _ := fun ty => run_next_end w s s.size ty hp
      go_wp2_with fail
      go_ret
      refine ⟨?_, iter_chg _⟩
      have h := HN.out
      rw [List.take_of_length_le (by rw [sl_len]; exact Nat.le_refl _)] at h
      rw [← h]
      rfl
end Go.Proofs.Ytmmehaghcfdjdaa
