/- The document's own Digits. -/
import Derived.Test.YtnkfbjddlbdnfaaDoorStr9
import Derived.Test.YtnkfbjddlbdnfaaDoorProg
import Derived.WalkKit
import Derived.WalkMore
namespace Go.Proofs.YtnkfbjddlbdnfaaDoor
open Go.RowKit
set_option linter.unusedVariables false
set_option linter.unusedSimpArgs false

/-- What digits tell: the number, and the error. -/
def dgOf (l : List Nat) : Int × Int := if l = [] ∨ ∃ d ∈ l, ¬ isD d then (0, 11) else if 2147483647 < valF 0 l then (0, 5) else (((valF 0 l : Nat) : Int), 0)
theorem valF_ge (l : List Nat) : ∀ a, a ≤ valF a l := by
  induction l with
  | nil => intro a; exact Nat.le_refl _
  | cons x l ih =>
    intro a
    have := ih (10 * a + (x - 48))
    show a ≤ valF (10 * a + (x - 48)) l
    omega
theorem valF_part (l : List Nat) (k : Nat) : valF 0 (l.take k) ≤ valF 0 l := by
  have h := valF_app 0 (l.take k) (l.drop k)
  rw [List.take_append_drop] at h
  rw [h]
  exact valF_ge _ _
theorem dg_bad {l : List Nat} (h : l = [] ∨ ∃ d ∈ l, ¬ isD d) : dgOf l = (0, 11) := if_pos h
theorem dg_big {l : List Nat} (h0 : l ≠ []) (h1 : ∀ d ∈ l, isD d) (h : 2147483647 < valF 0 l) : dgOf l = (0, 5) := by
  unfold dgOf
  rw [if_neg (by rintro (h | ⟨d, hd, h⟩); exact h0 h; exact h (h1 d hd)), if_pos h]
theorem dg_ok {l : List Nat} (h0 : l ≠ []) (h1 : ∀ d ∈ l, isD d) (h : ¬ 2147483647 < valF 0 l) : dgOf l = (((valF 0 l : Nat) : Int), 0) := by
  unfold dgOf
  rw [if_neg (by rintro (h | ⟨d, hd, h⟩); exact h0 h; exact h (h1 d hd)), if_neg h]

set_option maxHeartbeats 1000000 in
theorem rdigits_any (s : ByteArray) (w : World) (hl : s.size ≤ 1000000) :
    Calls Tryd.prog 11 #[.string s] w fun e w' => e = .returned (.tuple #[.int .i64 (dgOf (sl s)).1, .int .i64 (dgOf (sl s)).2]) ∧ w = w' := by
  obtain ⟨n, hn⟩ : ∃ n, s.size = n := ⟨_, rfl⟩
  have HLN : Hid ((sl s).length = n) := by show _ = _; rw [sl_len, hn]
  have HAT := keepf (fun k (h : k < n) => (fun h2 => sl_at s k h2 : ∀ h2 : k < s.size, (s[k]'h2).toNat = (sl s).getD k 0))
  have HGT := keepf (fun k (h : k < n) => sl_get (s := s) (k := k) (by rw [hn]; exact h))
  have HLT := keepf (sl_lt s)
  rw [hn] at hl
  by_cases h0 : n = 0
  · have HB : Hid (dgOf (sl s) = (0, 11)) := dg_bad (.inl (List.eq_nil_of_length_eq_zero (by rw [HLN.out]; exact h0)))
    subst h0
    go_enter Tryd.func11, Tryd.ntmps11
    go_wp2_with fail
    go_ret2
    rw [HB.out]
    exact ⟨rfl, rfl⟩
  · have HNE : Hid (sl s ≠ []) := fun h => by
      have := HLN.out
      rw [h] at this
      simp at this
      omega
    have u0 : ((n : Int) == 0) = false := by simp; omega
    clear h0
    go_enter Tryd.func11, Tryd.ntmps11
    go_wp2_with fail
    go_loop [4] (fun vk => ∃ k : Nat, k ≤ n ∧ vk = .int .i64 (k : Nat) ∧ Hid (∀ d ∈ (sl s).take k, isD d)) (fun vk => n - (intOf vk).toNat)
    case atStart => exact ⟨0, Nat.zero_le _, by go_num, fun d hd => by simp at hd⟩
    case round =>
      obtain ⟨k, hk, rfl, HD⟩ := hrel
      by_cases hlt : k < n
      · obtain ⟨x, hx⟩ : ∃ x, (sl s).getD k 0 = x := ⟨_, rfl⟩
        have hxa := HAT.out k hlt
        have HG := HGT.out k hlt
        rw [hx] at hxa HG
        have HGX := keepf HG
        clear hx HG
        have i0 : (k : Int) < n := by omega
        by_cases hd : isD x
        · have d1 : decide ((x : Int) < 48) = false := by unfold isD at hd; simp; omega
          have d1' : decide (x < 48) = false := by unfold isD at hd; simp; omega
          have d2 : decide ((57 : Int) < x) = false := by unfold isD at hd; simp; omega
          have d2' : decide (57 < x) = false := by unfold isD at hd; simp; omega
          have HDX := keepf hd
          clear hd
          go_wp2_with fail
          go_round
          case rel =>
            refine ⟨k + 1, by omega, by go_num, ?_⟩
            show ∀ d ∈ (sl s).take (k + 1), isD d
            rw [take_snoc HGX.out]
            intro d hd
            rcases List.mem_append.1 hd with h | h
            · exact HD.out d h
            · rw [List.mem_singleton] at h
              subst h
              exact HDX.out
          case measure => simp [intOf]; omega
        · have HB : Hid (dgOf (sl s) = (0, 11)) := dg_bad (.inr ⟨x, List.mem_of_getElem? HGX.out, hd⟩)
          by_cases h48 : x < 48
          · have d1 : decide ((x : Int) < 48) = true := by simp; omega
            have d1' : decide (x < 48) = true := by simp; omega
            clear hd
            go_wp2_with fail
            go_ret2
            rw [HB.out]
            exact ⟨rfl, rfl⟩
          · have d1 : decide ((x : Int) < 48) = false := by simp; omega
            have d1' : decide (x < 48) = false := by simp; omega
            have d2 : decide ((57 : Int) < x) = true := by unfold isD at hd; simp; omega
            have d2' : decide (57 < x) = true := by unfold isD at hd; simp; omega
            clear hd
            go_wp2_with fail
            go_ret2
            rw [HB.out]
            exact ⟨rfl, rfl⟩
      · obtain rfl : n = k := by omega
        have HALL : Hid (∀ d ∈ sl s, isD d) := by
          have h := HD.out
          rwa [List.take_of_length_le (by rw [HLN.out]; exact Nat.le_refl _)] at h
        go_wp2_with fail
        go_loop [5, 6] (fun vn vk => ∃ k : Nat, k ≤ n ∧ vk = .int .i64 (k : Nat) ∧ vn = .int .i64 (valF 0 ((sl s).take k) : Nat) ∧ valF 0 ((sl s).take k) ≤ 2147483647) (fun _ vk => n - (intOf vk).toNat)
        case atStart => exact ⟨0, Nat.zero_le _, by go_num, rfl, by simp [valF]⟩
        case round =>
          obtain ⟨k, hk, rfl, rfl, hv⟩ := hrel
          obtain ⟨v, hvv⟩ : ∃ v, v = valF 0 ((sl s).take k) := ⟨_, rfl⟩
          rw [← hvv] at hv ⊢
          have HV := keepf hvv
          clear hvv
          by_cases hlt : k < n
          · obtain ⟨x, hx⟩ : ∃ x, (sl s).getD k 0 = x := ⟨_, rfl⟩
            have hxa := HAT.out k hlt
            have HG := HGT.out k hlt
            rw [hx] at hxa HG
            have hdx := HALL.out x (List.mem_of_getElem? HG)
            unfold isD at hdx
            have HVN : Hid (valF 0 ((sl s).take (k + 1)) = 10 * v + (x - 48)) := by
              show _ = _
              rw [take_snoc HG, valF_app, ← HV.out]
              rfl
            obtain ⟨v2, hv2⟩ : ∃ v2, v2 = 10 * v + (x - 48) := ⟨_, rfl⟩
            have e2 : (10 : Int) * (v : Int) + (x : Int) - 48 = (v2 : Int) := by omega
            have hv29 : v2 ≤ 30000000000 := by omega
            have HV2 := keepf hv2
            clear hx HG hv2
            have i0 : (k : Int) < n := by omega
            by_cases hb : 2147483647 < v2
            · have d3 : decide ((2147483647 : Int) < v2) = true := by simp; omega
              have d3' : decide (2147483647 < v2) = true := by simp; omega
              have HB : Hid (dgOf (sl s) = (0, 5)) := dg_big HNE.out HALL.out (by
                have h1 := valF_part (sl s) (k + 1)
                have h2 := HVN.out
                have h3 := HV2.out
                omega)
              clear hdx
              go_wp2_with fail
              go_ret2
              rw [HB.out]
              exact ⟨rfl, rfl⟩
            · have d3 : decide ((2147483647 : Int) < v2) = false := by simp; omega
              have d3' : decide (2147483647 < v2) = false := by simp; omega
              clear hdx
              go_wp2_with fail
              go_round
              case rel => exact ⟨k + 1, by omega, by go_num, by rw [HVN.out, ← HV2.out], by rw [HVN.out, ← HV2.out]; omega⟩
              case measure => simp [intOf]; omega
          · obtain rfl : n = k := by omega
            have e1 : v = valF 0 (sl s) := by
              have h := HV.out
              rwa [List.take_of_length_le (by rw [HLN.out]; exact Nat.le_refl _)] at h
            have HB : Hid (dgOf (sl s) = (((v : Nat) : Int), 0)) := by
              show _ = _
              rw [dg_ok HNE.out HALL.out (by rw [← e1]; omega), ← e1]
            clear e1
            go_wp2_with fail
            go_ret2
            rw [HB.out]
            exact ⟨rfl, rfl⟩
end Go.Proofs.YtnkfbjddlbdnfaaDoor
