/- The document's own digits of a number, and Pad. -/
import Derived.Test.YtnkfbjddlbdnfaaDoorStr9
import Derived.Test.YtnkfbjddlbdnfaaDoorProg
import Derived.WalkKit
import Derived.WalkMore
import Derived.Laws.DeepStrings4
namespace Go.Proofs.YtnkfbjddlbdnfaaDoor
open Go.RowKit
set_option linter.unusedVariables false
set_option linter.unusedSimpArgs false

theorem dig_extract : ∀ d, d < 10 → (ByteArray.mk #[48, 49, 50, 51, 52, 53, 54, 55, 56, 57]).extract d (d + 1) = sb [48 + d] := by
  intro d h
  rcases d with _ | _ | _ | _ | _ | _ | _ | _ | _ | _ | d
  all_goals first
    | rfl
    | decide
    | omega

set_option maxHeartbeats 1000000 in
theorem rtext_any (n least : Nat) (w : World) (hn : n < 10 ^ 20) (hn63 : n ≤ 9223372036854775807) (hl : least ≤ 20) :
    Calls Tryd.prog 27 #[.int .i64 (n : Nat), .int .i64 (least : Nat)] w fun e w' => e = .returned (.string (sb (txt n least))) ∧ w = w' := by
  have HT := keepf hn
  clear hn
  go_enter Tryd.func27, Tryd.ntmps27
  go_wp2_with fail
  go_loop [0, 5, 6, 7] (fun vm vs vk vd => ∃ (m k : Nat) (s : ByteArray), k ≤ 20 ∧ m ≤ 9223372036854775807 ∧ s.size = k ∧ vm = .int .i64 (m : Nat) ∧ vs = .string s ∧ vk = .int .i64 (k : Nat) ∧ Hid (∃ S : List Nat, s = sb S ∧ S.length = k ∧ m < 10 ^ (20 - k) ∧ txt n least = txt m (least - k) ++ S)) (fun _ _ vk _ => 20 - (intOf vk).toNat)
  case atStart => exact ⟨n, 0, sb [], by omega, hn63, rfl, rfl, rfl, by go_num, ⟨[], rfl, rfl, HT.out, by simp⟩⟩
  case round =>
    obtain ⟨m, k, s, hk, hm, hs, rfl, rfl, rfl, HS⟩ := hrel
    obtain ⟨d, hd⟩ : ∃ d, d = m % 10 := ⟨_, rfl⟩
    have ed : (m : Int) % 10 = (d : Int) := by omega
    have hd10 : d < 10 := by omega
    obtain ⟨q, hq⟩ : ∃ q, q = m / 10 := ⟨_, rfl⟩
    have eq : (m : Int) / 10 = (q : Int) := by omega
    have HDQ := keepf (⟨hd, hq⟩ : d = m % 10 ∧ q = m / 10)
    have hex := dig_extract d hd10
    have hq63 : q ≤ 9223372036854775807 := by omega
    obtain ⟨c, hc⟩ : ∃ c, c = sb [48 + d] := ⟨_, rfl⟩
    rw [← hc] at hex
    have hc1 : c.size = 1 := by rw [hc, sb_size]; rfl
    have HC := keepf hc
    clear hd hq hc
    have hstep : Hid ((m ≠ 0 ∨ k < least) → k < 20 → ∃ S : List Nat, c ++ s = sb S ∧ S.length = k + 1 ∧ q < 10 ^ (20 - (k + 1)) ∧ txt n least = txt q (least - (k + 1)) ++ S) := by
      intro h1 h2
      obtain ⟨S, rfl, h3, h4, h5⟩ := HS.out
      refine ⟨(48 + d) :: S, by rw [HC.out, sb_app]; rfl, by simp [h3], ?_, ?_⟩
      · rw [HDQ.out.2]
        have e : 10 ^ (20 - k) = 10 ^ (20 - (k + 1)) * 10 := by rw [← Nat.pow_succ]; congr 1; omega
        omega
      · rw [h5, txt_step m (least - k) (by omega), ← HDQ.out.1, ← HDQ.out.2, List.append_assoc, show least - (k + 1) = least - k - 1 from by omega]
        rfl
    have hend : Hid (¬ (m ≠ 0 ∨ k < least) ∨ ¬ k < 20 → s = sb (txt n least)) := by
      intro h1
      obtain ⟨S, rfl, h3, h4, h5⟩ := HS.out
      have h6 : m = 0 ∧ least ≤ k := by
        rcases h1 with h1 | h1
        · omega
        · obtain rfl : k = 20 := by omega
          simp at h4
          omega
      rw [h5, h6.1, show least - k = 0 from by omega, txt_none, List.nil_append]
    by_cases h20 : k < 20
    · by_cases hm0 : m = 0
      · have d1 : decide ((0 : Int) < m) = false := by simp; omega
        have d1' : decide (0 < m) = false := by simp; omega
        by_cases hkl : k < least
        · have d2 : decide ((k : Int) < least) = true := by simp; omega
          have d2' : decide (k < least) = true := by simp; omega
          have HN := keepf (hstep.out (.inr hkl) h20)
          clear hm0 hstep hend
          go_wp2_with fail
          go_round
          case rel => exact ⟨q, k + 1, c ++ s, by omega, hq63, by rw [ByteArray.size_append]; omega, rfl, rfl, by go_num, HN.out⟩
          case measure => simp [intOf]; omega
        · have d2 : decide ((k : Int) < least) = false := by simp; omega
          have d2' : decide (k < least) = false := by simp; omega
          have HE := keepf (hend.out (.inl (by omega)))
          clear hm0 hstep hend
          go_wp2_with fail
          go_ret
          rw [← HE.out]
          exact ⟨rfl, rfl⟩
      · have d1 : decide ((0 : Int) < m) = true := by simp; omega
        have d1' : decide (0 < m) = true := by simp; omega
        have HN := keepf (hstep.out (.inl hm0) h20)
        clear hm0 hstep hend
        go_wp2_with fail
        go_round
        case rel => exact ⟨q, k + 1, c ++ s, by omega, hq63, by rw [ByteArray.size_append]; omega, rfl, rfl, by go_num, HN.out⟩
        case measure => simp [intOf]; omega
    · have HE := keepf (hend.out (.inr h20))
      have d3 : decide ((k : Int) < 20) = false := by simp; omega
      have d3' : decide (k < 20) = false := by simp; omega
      clear hstep hend
      go_wp2_with fail
      go_ret
      rw [← HE.out]
      exact ⟨rfl, rfl⟩
end Go.Proofs.YtnkfbjddlbdnfaaDoor
