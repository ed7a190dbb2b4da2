/- The document's own small functions of words of a file: space, delimiters, digits to the base 16, where regular bytes end, and where space and comments end. -/
import Derived.Test.YtmmehaghcfdjdaaLexB
import Derived.BigQuiet
import Derived.Deep.Cut
namespace Go.Proofs.Ytmmehaghcfdjdaa
open Go.RowKit
set_option linter.unusedVariables false
set_option linter.unusedSimpArgs false

theorem u8_ne {c k : Nat} (h : c ≠ k) : ((c : Int) == (k : Int)) = false := by simp; omega
theorem isSp_no {c : Nat} (h0 : c ≠ 0) (h1 : c ≠ 9) (h2 : c ≠ 10) (h3 : c ≠ 12) (h4 : c ≠ 13) (h5 : c ≠ 32) : isSp c = false := by simp [isSp, h0, h1, h2, h3, h4, h5]
theorem isDl_no {c : Nat} (h0 : c ≠ 40) (h1 : c ≠ 41) (h2 : c ≠ 60) (h3 : c ≠ 62) (h4 : c ≠ 91) (h5 : c ≠ 93) (h6 : c ≠ 123) (h7 : c ≠ 125) (h8 : c ≠ 47) (h9 : c ≠ 37) : isDl c = false := by simp [isDl, h0, h1, h2, h3, h4, h5, h6, h7, h8, h9]

theorem rspace_any (c : Nat) (w : World) : Calls Try.prog 14 #[.int .u8 (c : Nat)] w fun e w' => e = .returned (.bool (isSp c)) ∧ w = w' := by
  by_cases h : c = 0 ∨ c = 9 ∨ c = 10 ∨ c = 12 ∨ c = 13 ∨ c = 32
  · rcases h with rfl | rfl | rfl | rfl | rfl | rfl
    all_goals
      go_enter Try.func14, Try.ntmps14
      go_wp2_with fail
      go_ret
      exact ⟨rfl, rfl⟩
  · have HS := keepf (isSp_no (c := c) (by omega) (by omega) (by omega) (by omega) (by omega) (by omega))
    have e0 : ((c : Int) == 0) = false := by simp; omega
    have e1 : ((c : Int) == 9) = false := by simp; omega
    have e2 : ((c : Int) == 10) = false := by simp; omega
    have e3 : ((c : Int) == 12) = false := by simp; omega
    have e4 : ((c : Int) == 13) = false := by simp; omega
    have e5 : ((c : Int) == 32) = false := by simp; omega
    clear h
    go_enter Try.func14, Try.ntmps14
    go_wp2_with fail
    go_ret
    exact ⟨by rw [HS.out]; rfl, rfl⟩
theorem rdelim_any (c : Nat) (w : World) : Calls Try.prog 16 #[.int .u8 (c : Nat)] w fun e w' => e = .returned (.bool (isDl c)) ∧ w = w' := by
  by_cases h : c = 40 ∨ c = 41 ∨ c = 60 ∨ c = 62 ∨ c = 91 ∨ c = 93 ∨ c = 123 ∨ c = 125 ∨ c = 47 ∨ c = 37
  · rcases h with rfl | rfl | rfl | rfl | rfl | rfl | rfl | rfl | rfl | rfl
    all_goals
      go_enter Try.func16, Try.ntmps16
      go_wp2_with fail
      go_ret
      exact ⟨rfl, rfl⟩
  · have HS := keepf (isDl_no (c := c) (by omega) (by omega) (by omega) (by omega) (by omega) (by omega) (by omega) (by omega) (by omega) (by omega))
    have e0 : ((c : Int) == 40) = false := by simp; omega
    have e1 : ((c : Int) == 41) = false := by simp; omega
    have e2 : ((c : Int) == 60) = false := by simp; omega
    have e3 : ((c : Int) == 62) = false := by simp; omega
    have e4 : ((c : Int) == 91) = false := by simp; omega
    have e5 : ((c : Int) == 93) = false := by simp; omega
    have e6 : ((c : Int) == 123) = false := by simp; omega
    have e7 : ((c : Int) == 125) = false := by simp; omega
    have e8 : ((c : Int) == 47) = false := by simp; omega
    have e9 : ((c : Int) == 37) = false := by simp; omega
    clear h
    go_enter Try.func16, Try.ntmps16
    go_wp2_with fail
    go_ret
    exact ⟨by rw [HS.out]; rfl, rfl⟩
/-- A digit to the base 16, or -1. -/
def hexI (c : Nat) : Int := match hexD c with
  | some d => (d : Nat)
  | none => -1
theorem rhex_any (c : Nat) (hc : c < 256) (w : World) : Calls Try.prog 35 #[.int .u8 (c : Nat)] w fun e w' => e = .returned (.int .i64 (hexI c)) ∧ w = w' := by
  by_cases h1 : 48 ≤ c ∧ c ≤ 57
  · have HE := keepf (show hexI c = (c : Int) - 48 from by unfold hexI hexD; rw [if_pos h1]; simp only []; omega)
    obtain ⟨a, b⟩ := h1
    go_enter Try.func35, Try.ntmps35
    go_wp2_with fail
    go_ret
    exact ⟨by rw [HE.out]; rfl, rfl⟩
  by_cases h2 : 97 ≤ c ∧ c ≤ 102
  · have HE := keepf (show hexI c = (c : Int) - 87 from by unfold hexI hexD; rw [if_neg h1, if_pos h2]; simp only []; omega)
    have g1 : ¬ c ≤ 57 := by omega
    obtain ⟨a, b⟩ := h2
    clear h1
    go_enter Try.func35, Try.ntmps35
    go_wp2_with fail
    go_ret
    exact ⟨by rw [HE.out]; rfl, rfl⟩
  by_cases h3 : 65 ≤ c ∧ c ≤ 70
  · have HE := keepf (show hexI c = (c : Int) - 55 from by unfold hexI hexD; rw [if_neg h1, if_neg h2, if_pos h3]; simp only []; omega)
    have g1 : ¬ c ≤ 57 := by omega
    have g2 : ¬ 97 ≤ c := by omega
    obtain ⟨a, b⟩ := h3
    clear h1 h2
    go_enter Try.func35, Try.ntmps35
    go_wp2_with fail
    go_ret
    exact ⟨by rw [HE.out]; rfl, rfl⟩
  · have HE := keepf (show hexI c = -1 from by unfold hexI hexD; rw [if_neg h1, if_neg h2, if_neg h3])
    have k1 : c < 48 ∨ (57 < c ∧ c < 65) ∨ (70 < c ∧ c < 97) ∨ 102 < c := by omega
    clear h1 h2 h3
    rcases k1 with k | ⟨k, j⟩ | ⟨k, j⟩ | k
    all_goals
      go_enter Try.func35, Try.ntmps35
      go_wp2_with fail
      go_ret
      exact ⟨by rw [HE.out]; rfl, rfl⟩
theorem rcut_any (last : Bool) (w : World) : Calls Try.prog 36 #[.bool last] w fun e w' => e = .returned (.int .i64 (cutE last)) ∧ w = w' := by
  cases last
  all_goals
    go_enter Try.func36, Try.ntmps36
    go_wp2_with fail
    go_ret
    exact ⟨rfl, rfl⟩

set_option maxHeartbeats 1000000 in
/-- Where regular bytes end. -/
theorem rrun_any (bs : List Nat) (A : Option Addr) (c p : Nat) (w : World) (hS : Src w 1 A bs.length c (lcells bs)) (hl : bs.length ≤ 1000000) (hc : bs.length ≤ c) (hp : p ≤ bs.length) :
    Calls Try.prog 21 #[.slice A bs.length c, .int .i64 (p : Nat)] w fun e w' => e = .returned (.int .i64 ((p + rgs (bs.drop p) : Nat) : Int)) ∧ w = w' := by
  have HS := keepf hS
  obtain ⟨n, hn⟩ : ∃ n, n = bs.length := ⟨_, rfl⟩
  have HN := keepf hn
  rw [← hn] at hl hp hc ⊢
  clear hS hn
  go_enter Try.func21, Try.ntmps21
  go_upto_region 1 with fail
  go_loopw [1] (fun vk wr => ∃ k : Nat, k ≤ n ∧ vk = .int .i64 (k : Nat) ∧ wr = w ∧ Hid (p + rgs (bs.drop p) = k + rgs (bs.drop k))) (fun vk _ => n - (intOf vk).toNat)
  case atStart => exact ⟨p, hp, rfl, rfl, keepf rfl⟩
  case round =>
    obtain ⟨k, hk, rfl, rfl, HR⟩ := hrel
    by_cases h1 : k < n
    · obtain ⟨x, hx, hd⟩ := drop_at (bs := bs) (k := k) (by rw [← HN.out]; exact h1)
      obtain ⟨b, off, rfl, hcell⟩ := lcell HS.out (Chg.refl _ _) (by rw [← HN.out]; omega)
      have c0 := hcell k x hx
      have HSP := keepf (fun W => rspace_any x W)
      have HDL := keepf (fun W => rdelim_any x W)
      have HD := keepf hd
      have i1 : (k : Int) < n := by omega
      clear hcell hx hd
      by_cases h2 : isSp x = true
      · have HG := keepf (show isRg x = false from by simp [isRg, h2])
        rw [h2] at HSP
        go_wp2_with (go_at_call 14; refine (HSP.out _).mono ?_; rintro e w3 ⟨rfl, rfl⟩)
        go_ret
        refine ⟨ret_l64 (by rw [HR.out, HD.out, rgs, if_neg (by rw [HG.out]; decide)]; rfl), rfl⟩
      · rw [show isSp x = false from by simpa using h2] at HSP
        by_cases h3 : isDl x = true
        · have HG := keepf (show isRg x = false from by simp [isRg, h3])
          rw [h3] at HDL
          go_wp2_with (first
            | (go_at_call 14; refine (HSP.out _).mono ?_; rintro e w3 ⟨rfl, rfl⟩)
            | (go_at_call 16; refine (HDL.out _).mono ?_; rintro e w3 ⟨rfl, rfl⟩))
          go_ret
          refine ⟨ret_l64 (by rw [HR.out, HD.out, rgs, if_neg (by rw [HG.out]; decide)]; rfl), rfl⟩
        · have HG := keepf (show isRg x = true from by simp [isRg, h2, h3])
          rw [show isDl x = false from by simpa using h3] at HDL
          go_wp2_with (first
            | (go_at_call 14; refine (HSP.out _).mono ?_; rintro e w3 ⟨rfl, rfl⟩)
            | (go_at_call 16; refine (HDL.out _).mono ?_; rintro e w3 ⟨rfl, rfl⟩))
          go_roundw
          case rel => exact ⟨k + 1, by omega, by go_num, by simp, keepf (by rw [HR.out, HD.out, rgs, if_pos HG.out]; omega)⟩
          case measure => simp [intOf]; omega
    · obtain rfl : k = n := by omega
      go_wp2_with fail
      go_ret
      exact ⟨ret_l64 (by rw [HR.out, List.drop_of_length_le (by rw [← HN.out]; exact Nat.le_refl _)]; rfl), rfl⟩
/-- Where space and comments end, from any place on. -/
def skipO (bs : List Nat) (p : Int) : Nat := if p < 0 then 0 else if p ≤ bs.length then p.toNat + skp false (bs.drop p.toNat) else bs.length
theorem skp_sp {c : Nat} (l : List Nat) (h : isSp c = true) : skp false (c :: l) = skp false l + 1 := by rw [skp, if_pos h]
theorem skp_37 (l : List Nat) : skp false (37 :: l) = skp true (37 :: l) := by simp [skp, isSp]
theorem skp_no {c : Nat} (l : List Nat) (h : isSp c = false) (h2 : c ≠ 37) : skp false (c :: l) = 0 := by rw [skp, if_neg (by rw [h]; decide), if_neg h2]
theorem skp_com {c : Nat} (l : List Nat) (h1 : c ≠ 10) (h2 : c ≠ 13) : skp true (c :: l) = skp true l + 1 := by
  have e : (!(c == 10 || c == 13)) = true := by simp [h1, h2]
  rw [skp, e]
theorem skp_eol {c : Nat} (l : List Nat) (h : c = 10 ∨ c = 13) : skp true (c :: l) = skp false (c :: l) := by
  rcases h with rfl | rfl <;> simp [skp, isSp]
set_option maxHeartbeats 2000000 in
theorem rskip_in (bs : List Nat) (A : Option Addr) (c p : Nat) (w : World) (hS : Src w 1 A bs.length c (lcells bs)) (hl : bs.length ≤ 1000000) (hc : bs.length ≤ c) (hp : p ≤ bs.length) :
    Calls Try.prog 18 #[.slice A bs.length c, .int .i64 (p : Nat)] w fun e w' => e = .returned (.int .i64 ((p + skp false (bs.drop p) : Nat) : Int)) ∧ w = w' := by
  have HS := keepf hS
  obtain ⟨n, hn⟩ : ∃ n, n = bs.length := ⟨_, rfl⟩
  have HN := keepf hn
  rw [← hn] at hl hp hc ⊢
  clear hS hn
  go_enter Try.func18, Try.ntmps18
  go_upto_region 3 with fail
  go_loopw [1] (fun vk wr => ∃ k : Nat, k ≤ n ∧ vk = .int .i64 (k : Nat) ∧ wr = w ∧ Hid (p + skp false (bs.drop p) = k + skp false (bs.drop k))) (fun vk _ => n - (intOf vk).toNat)
  case atStart => exact ⟨p, hp, rfl, rfl, keepf rfl⟩
  case round =>
    obtain ⟨k, hk, rfl, rfl, HR⟩ := hrel
    by_cases h1 : k < n
    · obtain ⟨x, hx, hd⟩ := drop_at (bs := bs) (k := k) (by rw [← HN.out]; exact h1)
      obtain ⟨b, off, rfl, hcell⟩ := lcell HS.out (Chg.refl _ _) (by rw [← HN.out]; omega)
      have c0 := hcell k x hx
      have HCELL := keepf hcell
      have HSP := keepf (fun W => rspace_any x W)
      have HD := keepf hd
      have HX := keepf hx
      have i1 : (k : Int) < n := by omega
      clear hcell hx hd
      by_cases h2 : isSp x = true
      · have HG := keepf h2
        rw [h2] at HSP
        clear h2
        go_wp2_with (go_at_call 14; refine (HSP.out _).mono ?_; rintro e w3 ⟨rfl, rfl⟩)
        go_roundw
        case rel => exact ⟨k + 1, by omega, by go_num, by simp, keepf (by rw [HR.out, HD.out, skp_sp _ HG.out]; omega)⟩
        case measure => simp [intOf]; omega
      · have HG := keepf (show isSp x = false from by simpa using h2)
        rw [HG.out] at HSP
        clear h2
        by_cases h3 : x = 37
        · have HX3 := keepf h3
          subst h3
          go_upto_region 8 with (go_at_call 14; refine (HSP.out _).mono ?_; rintro e w3 ⟨rfl, rfl⟩)
          clear c0
          go_loopw [1] (fun vj wr2 => ∃ j : Nat, k ≤ j ∧ j ≤ n ∧ vj = .int .i64 (j : Nat) ∧ wr2 = wr ∧ Hid (p + skp false (bs.drop p) = j + skp true (bs.drop j))) (fun vj _ => n - (intOf vj).toNat)
          case atStart => exact ⟨k, Nat.le_refl _, hk, rfl, rfl, keepf (by rw [HR.out, HD.out, skp_37])⟩
          case round =>
            obtain ⟨j, hkj, hj, rfl, rfl, HR2⟩ := hrel
            by_cases h4 : j < n
            · obtain ⟨y, hy, hd2⟩ := drop_at (bs := bs) (k := j) (by rw [← HN.out]; exact h4)
              have c0 := HCELL.out j y hy
              have HD2 := keepf hd2
              have HY := keepf hy
              have i2 : (j : Int) < n := by omega
              clear hy hd2
              by_cases h5 : y = 10 ∨ y = 13
              · have HE := keepf (skp_eol (bs.drop (j + 1)) h5)
                have hjk : k < j := by
                  rcases Nat.lt_or_eq_of_le hkj with h | h
                  · exact h
                  · subst h
                    have h7 := HX.out
                    rw [HY.out] at h7
                    cases h7
                    omega
                rcases h5 with rfl | rfl
                all_goals
                  go_wp2_with fail
                  go_roundw
                  case rel => exact ⟨j, hj, by go_num, by simp, keepf (by rw [HR2.out, HD2.out, HE.out])⟩
                  case measure => simp [intOf]; omega
              · have HE := keepf (skp_com (c := y) (bs.drop (j + 1)) (by omega) (by omega))
                have e0 : ((y : Int) != 10) = true := by simp; omega
                have e1 : ((y : Int) != 13) = true := by simp; omega
                have e2 : ((y : Int) == 10) = false := by simp; omega
                have e3 : ((y : Int) == 13) = false := by simp; omega
                clear h5
                go_wp2_with fail
                go_roundw
                case rel => exact ⟨j + 1, by omega, by omega, by go_num, by simp, keepf (by rw [HR2.out, HD2.out, HE.out]; omega)⟩
                case measure => simp [intOf]; omega
            · obtain rfl : j = n := by omega
              go_wp2_with fail
              go_roundw
              case rel => exact ⟨j, Nat.le_refl _, by go_num, by simp, keepf (by rw [HR2.out, List.drop_of_length_le (by rw [← HN.out]; exact Nat.le_refl _)]; rfl)⟩
              case measure => simp [intOf]; omega
        · have e0 : ((x : Int) != 37) = true := by simp; omega
          have e1 : ((x : Int) == 37) = false := by simp; omega
          have HE := keepf (skp_no (bs.drop (k + 1)) HG.out h3)
          clear h3
          go_wp2_with (go_at_call 14; refine (HSP.out _).mono ?_; rintro e w3 ⟨rfl, rfl⟩)
          go_ret
          exact ⟨ret_l64 (by rw [HR.out, HD.out, HE.out]; rfl), rfl⟩
    · obtain rfl : k = n := by omega
      go_wp2_with fail
      go_ret
      exact ⟨ret_l64 (by rw [HR.out, List.drop_of_length_le (by rw [← HN.out]; exact Nat.le_refl _)]; rfl), rfl⟩
theorem rskip_any (bs : List Nat) (A : Option Addr) (c : Nat) (p : Int) (w : World) (hS : Src w 1 A bs.length c (lcells bs)) (hl : bs.length ≤ 1000000) (hc : bs.length ≤ c) :
    Calls Try.prog 18 #[.slice A bs.length c, .int .i64 p] w fun e w' => e = .returned (.int .i64 (skipO bs p : Nat)) ∧ w = w' := by
  by_cases h0 : p < 0
  · have HE := keepf (show skipO bs p = 0 from if_pos h0)
    obtain ⟨n, hn⟩ : ∃ n, n = bs.length := ⟨_, rfl⟩
    rw [← hn] at hl ⊢
    clear hS hc hn
    go_enter Try.func18, Try.ntmps18
    go_wp2_with fail
    go_ret
    exact ⟨ret_l64 (by rw [HE.out]; rfl), rfl⟩
  · by_cases h1 : p ≤ bs.length
    · have h := rskip_in bs A c p.toNat w hS hl hc (by omega)
      rw [show ((p.toNat : Nat) : Int) = p from by omega] at h
      rwa [show skipO bs p = p.toNat + skp false (bs.drop p.toNat) from by rw [skipO, if_neg h0, if_pos h1]]
    · have HE := keepf (show skipO bs p = bs.length from by rw [skipO, if_neg h0, if_neg h1])
      obtain ⟨n, hn⟩ : ∃ n, n = bs.length := ⟨_, rfl⟩
      rw [← hn] at hl h1 HE ⊢
      clear hS hc hn
      go_enter Try.func18, Try.ntmps18
      go_wp2_with fail
      go_loopw [1] (fun vk wr => vk = .int .i64 p ∧ wr = w) (fun _ _ => 0)
      case atStart => exact ⟨rfl, rfl⟩
      case round =>
        obtain ⟨rfl, rfl⟩ := hrel
        go_wp2_with fail
        go_ret
        exact ⟨ret_l64 (by rw [HE.out]), rfl⟩
end Go.Proofs.Ytmmehaghcfdjdaa
