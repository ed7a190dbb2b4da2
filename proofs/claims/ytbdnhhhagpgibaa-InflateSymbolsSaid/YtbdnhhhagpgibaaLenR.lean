/- The document's own answer: how much room lengths take, and whether they may be. -/
import Derived.Test.YtbdnhhhagpgibaaLens
import Derived.Test.YtbdnhhhagpgibaaOpen
import Derived.Test.YtbdnhhhagpgibaaProg
import Derived.BigQuiet
import Derived.Outline
namespace Go.Proofs.Ytbdnhhhagpgibaa
open Go.RowKit
set_option linter.unusedVariables false

/-- Integers, as cells. -/
def icells (ls : List Int) : List Value := ls.map (Value.int .i64)
theorem icells_len (ls : List Int) : (icells ls).length = ls.length := by simp [icells]
theorem icells_one (ls : List Int) : ∀ u ∈ icells ls, u.oneCell' = true := by
  intro u hu
  obtain ⟨_, _, rfl⟩ := List.mem_map.1 hu
  rfl
theorem icells_get {ls : List Int} {k : Nat} {z : Int} (h : ls[k]? = some z) : (icells ls)[k]? = some (.int .i64 z) := by simp [icells, h]
/-- Integers that int holds. -/
def in64 (ls : List Int) : Prop := ∀ z ∈ ls, -9223372036854775808 ≤ z ∧ z ≤ 9223372036854775807

/-- What room tells. -/
def rmv (ls : List Int) : Int := if May ls then rmOf ls else -1

theorem may_take {ls : List Int} {k : Nat} {z : Int} (h : okL (ls.take k)) (hz : ls[k]? = some z) (h0 : 0 ≤ z) (h1 : z ≤ 15) : okL (ls.take (k + 1)) := by
  rw [take_snoc ls k z hz]
  intro y hy
  rcases List.mem_append.1 hy with h2 | h2
  · exact h y h2
  · simp at h2; subst h2; exact ⟨h0, h1⟩
theorem not_okL {ls : List Int} {k : Nat} {z : Int} (hz : ls[k]? = some z) (h : z < 0 ∨ 15 < z) : ¬ okL ls := by
  intro h2
  have := h2 z (List.mem_of_getElem? hz)
  omega
theorem not_may {ls : List Int} (h : ¬ okL ls) : ¬ May ls := fun h2 => h h2.2.2.1

theorem half (k : Nat) (h : k < 15) : 2 ^ (15 - k) / 2 = 2 ^ (15 - (k + 1)) := by
  rw [show 15 - k = (15 - (k + 1)) + 1 from by omega, Nat.pow_succ]
  omega

set_option maxHeartbeats 1000000 in
theorem rroom_any (ls : List Int) (A : Option Addr) (c : Nat) (w : World) (hL : ls.length ≤ 1000) (hb : in64 ls) (hS : Src w 1 A ls.length c (icells ls)) :
    Calls Try.prog 70 #[.slice A ls.length c] w fun e w' => e = .returned (.int .i64 (rmv ls)) ∧ w = w' := by
  have HS := keepf hS
  have HB := keepf hb
  clear hS hb
  by_cases h0 : ls.length = 0
  · have H : Hid (rmv ls = -1) := by
      show rmv ls = -1
      rw [rmv, if_neg]
      rintro ⟨h, _⟩
      omega
    rw [h0]
    clear HS HB hL h0
    go_enter Try.func70, Try.ntmps70
    go_wp2_with fail
    go_ret
    exact ⟨by rw [H.out]; rfl, rfl⟩
  · by_cases h320 : 320 < ls.length
    · have H : Hid (rmv ls = -1) := by
        show rmv ls = -1
        rw [rmv, if_neg]
        rintro ⟨_, h, _⟩
        omega
      clear HS HB hL
      generalize ls.length = n at *
      have d1 : decide ((n : Int) = 0) = false := by simp; omega
      have d2 : decide ((320 : Int) < n) = true := by simp; omega
      go_enter Try.func70, Try.ntmps70
      go_wp2_with fail
      go_ret
      exact ⟨by rw [H.out]; rfl, rfl⟩
    · obtain ⟨n, hn⟩ : ∃ n, n = ls.length := ⟨_, rfl⟩
      rw [← hn] at h0 h320 hL ⊢
      have d1 : decide ((n : Int) = 0) = false := by simp; omega
      have d2 : decide ((320 : Int) < n) = false := by simp; omega
      have HN := keepf hn
      clear hn
      obtain ⟨b, off, rfl, hcell⟩ := HS.out.plain (by rw [icells_len]; have := HN.out; omega)
      have HC := keepf hcell
      clear hcell HS
      go_enter Try.func70, Try.ntmps70
      go_wp2_with fail
      clear d1 d2
      go_loop [3, 4] (fun v i => ∃ k x : Nat, k ≤ n ∧ x ≤ 10485760 ∧ i = .int .i64 k ∧ v = .int .i64 x ∧ Hid (x = rmOf (ls.take k) ∧ okL (ls.take k))) (fun _ i => n - (intOf i).toNat)
      case atStart => exact ⟨0, 0, Nat.zero_le _, by omega, rfl, rfl, rfl, fun z hz => by simp at hz⟩
      case round =>
        obtain ⟨k, x, hk, hx, rfl, rfl, hI⟩ := hrel
        by_cases hlt : k < n
        · obtain ⟨z, hz⟩ : ∃ z, ls[k]? = some z := ⟨_, List.getElem?_eq_getElem (by have := HN.out; omega)⟩
          have hc := HC.out k _ (icells_get hz)
          have hzb := HB.out z (List.mem_of_getElem? hz)
          have HZ := keepf hz
          clear hz
          by_cases hneg : z < 0
          · have d1 : decide (z < 0) = true := by simpa using hneg
            go_wp2_with fail
            go_ret
            exact ⟨by rw [rmv, if_neg (not_may (not_okL HZ.out (.inl hneg)))]; rfl, rfl⟩
          · have d1 : decide (z < 0) = false := by simpa using hneg
            by_cases hbig : 15 < z
            · have d2 : decide (15 < z) = true := by simpa using hbig
              go_wp2_with fail
              go_ret
              exact ⟨by rw [rmv, if_neg (not_may (not_okL HZ.out (.inr hbig)))]; rfl, rfl⟩
            · have d2 : decide (15 < z) = false := by simpa using hbig
              obtain ⟨m, rfl⟩ := Int.eq_ofNat_of_zero_le (by omega : 0 ≤ z)
              have hm : m ≤ 15 := by omega
              go_wp2_with fail
              clear d1 d2 hneg hbig hzb
              go_loop [5, 6] (fun v i => ∃ j y : Nat, j ≤ m ∧ y ≤ 32768 ∧ i = .int .i64 j ∧ v = .int .i64 y ∧ Hid (y = 2 ^ (15 - j))) (fun _ i => m - (intOf i).toNat)
              case atStart => exact ⟨0, 32768, Nat.zero_le _, Nat.le_refl _, rfl, rfl, rfl⟩
              case round =>
                obtain ⟨j, y, hj, hy, rfl, rfl, hJ⟩ := hrel
                by_cases hjm : j < m
                · go_wp2_with fail
                  go_round
                  case rel => exact ⟨j + 1, y / 2, by omega, by omega, by go_num, by go_num, by show y / 2 = _; rw [hJ.out]; exact half j (by omega)⟩
                  case measure => simp [intOf]; omega
                · obtain rfl : j = m := by omega
                  have hr : rmOf (ls.take (k + 1)) = rmOf (ls.take k) + (if (j : Int) = 0 then 0 else 2 ^ (15 - j)) := by
                    rw [take_snoc ls k j HZ.out, rm_snoc]; simp
                  have hle := rm_le (ls.take (k + 1))
                  have hlen : (ls.take (k + 1)).length ≤ 320 := by have := HN.out; simp; omega
                  have ho := may_take hI.out.2 HZ.out (by omega) (by omega)
                  rw [← hI.out.1, ← hJ.out] at hr
                  have HR := keepf hr
                  have HO := keepf ho
                  have hx2 : rmOf (ls.take (k + 1)) ≤ 10485760 := by omega
                  rw [hr] at hx2
                  clear hle hlen ho hr
                  by_cases hj0 : j = 0
                  · subst hj0
                    go_wp2_with fail
                    go_round
                    case rel => exact ⟨_, _, _, ⟨k + 1, by omega, x, by omega, by go_num, rfl, ⟨by simpa using HR.out.symm, HO.out⟩⟩, rfl, rfl, rfl⟩
                    case measure => simp [intOf]; omega
                  · rw [if_neg (by omega)] at hx2
                    go_wp2_with fail
                    go_round
                    case rel => exact ⟨_, _, _, ⟨k + 1, by omega, x + y, by omega, by go_num, by go_num, ⟨by have := HR.out; rw [if_neg (by omega)] at this; exact this.symm, HO.out⟩⟩, rfl, rfl, rfl⟩
                    case measure => simp [intOf]; omega
        · obtain rfl : k = n := by omega
          have hI2 : x = rmOf ls ∧ okL ls := by have := hI.out; rwa [HN.out, List.take_length] at this
          by_cases hbig : 32768 < x
          · go_wp2_with fail
            go_ret
            have hno : ¬ May ls := by
              rintro ⟨_, _, _, h⟩
              omega
            exact ⟨by rw [rmv, if_neg hno]; rfl, rfl⟩
          · go_wp2_with fail
            go_ret
            have hyes : May ls := ⟨by have := HN.out; omega, by have := HN.out; omega, hI2.2, by omega⟩
            exact ⟨by rw [rmv, if_pos hyes, ← hI2.1]; rfl, rfl⟩

theorem rmay_any (ls : List Int) (A : Option Addr) (c : Nat) (w : World) (hL : ls.length ≤ 1000) (hb : in64 ls) (hS : Src w 1 A ls.length c (icells ls)) :
    Calls Try.prog 64 #[.slice A ls.length c] w fun e w' => e = .returned (.bool (decide (May ls))) ∧ w = w' := by
  have HP := keepf (fun W h => rroom_any ls A c W hL hb h)
  have HS := keepf hS
  clear hS hb
  go_enter Try.func64, Try.ntmps64
  go_wp2_with (go_at_call 70; refine (HP.out _ HS.out).mono ?_; rintro e w' ⟨rfl, rfl⟩)
  go_ret
  refine ⟨?_, rfl⟩
  by_cases h : May ls
  · simp [rmv, h]
  · simp [rmv, h]
end Go.Proofs.Ytbdnhhhagpgibaa
