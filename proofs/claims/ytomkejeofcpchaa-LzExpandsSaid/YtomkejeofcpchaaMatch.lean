/- Match, the program's and the document's: how many bytes repeat. -/
import Derived.Test.YtomkejeofcpchaaSizeT
import Derived.Deep.QuietTactic
import Derived.BigQuiet
import Derived.Deep.Cut
import Derived.IntWalk
namespace Go.Proofs.Ytomkejeofcpchaa
open Go.RowKit
set_option linter.unusedVariables false
set_option linter.unusedSimpArgs false

/-- How many bytes from 'at' on, at most so many, are each the one that stands far ahead. -/
def mtF (bs : List Nat) (far : Nat) : Nat → Nat → Nat
  | 0, _ => 0
  | m + 1, at_ => if at_ < bs.length ∧ bs.getD at_ 0 = bs.getD (at_ - far) 0 then mtF bs far m (at_ + 1) + 1 else 0
def mtI (bs : List Nat) (at_ far most : Int) : Nat := if at_ < 0 ∨ (bs.length : Int) ≤ at_ ∨ far < 1 ∨ at_ < far then 0 else mtF bs far.toNat most.toNat at_.toNat

theorem mtF_le (bs : List Nat) (far : Nat) : ∀ (m p : Nat), mtF bs far m p ≤ m
  | 0, _ => Nat.le_refl _
  | m + 1, p => by
    unfold mtF
    split
    · have := mtF_le bs far m (p + 1); omega
    · omega
theorem mtF_in (bs : List Nat) (far : Nat) : ∀ (m p : Nat), p ≤ bs.length → p + mtF bs far m p ≤ bs.length
  | 0, p, h => by simpa [mtF] using h
  | m + 1, p, h => by
    unfold mtF
    split
    · rename_i h1
      have := mtF_in bs far m (p + 1) (by omega); omega
    · omega
theorem mtF_eq (bs : List Nat) (far : Nat) : ∀ (m p j : Nat), j < mtF bs far m p → bs.getD (p + j) 0 = bs.getD (p + j - far) 0
  | 0, _, j, h => by simp [mtF] at h
  | m + 1, p, j, h => by
    unfold mtF at h
    split at h
    · rename_i h1
      rcases j with _ | j
      · exact h1.2
      · have := mtF_eq bs far m (p + 1) j (by omega)
        rw [show p + (j + 1) = p + 1 + j from by omega]
        exact this
    · omega
/-- As many, at least, as are alike. -/
theorem mtF_ge (bs : List Nat) (far : Nat) : ∀ (m p n : Nat), n ≤ m → p + n ≤ bs.length → (∀ j, j < n → bs.getD (p + j) 0 = bs.getD (p + j - far) 0) → n ≤ mtF bs far m p
  | 0, _, n, h, _, _ => by omega
  | m + 1, p, 0, _, _, _ => Nat.zero_le _
  | m + 1, p, n + 1, h, hl, he => by
    unfold mtF
    rw [if_pos ⟨by omega, he 0 (by omega)⟩]
    have := mtF_ge bs far m (p + 1) n (by omega) (by omega) (fun j hj => by
      have := he (j + 1) (by omega)
      rw [show p + (j + 1) = p + 1 + j from by omega] at this
      exact this)
    omega
theorem mtF_next {bs : List Nat} {far m p : Nat} (hm : 0 < m) (h : p < bs.length) (he : bs.getD p 0 = bs.getD (p - far) 0) : mtF bs far m p = mtF bs far (m - 1) (p + 1) + 1 := by
  obtain ⟨k, rfl⟩ : ∃ k, m = k + 1 := ⟨m - 1, by omega⟩
  rw [mtF, if_pos ⟨h, he⟩]
  rfl
theorem mtF_miss {bs : List Nat} {far m p : Nat} (h : m = 0 ∨ bs.length ≤ p ∨ bs.getD p 0 ≠ bs.getD (p - far) 0) : mtF bs far m p = 0 := by
  rcases m with _ | m
  · rfl
  · rw [mtF, if_neg]
    rintro ⟨h1, h2⟩
    rcases h with h | h | h
    · omega
    · omega
    · exact h h2

theorem byte_cell {w w' : World} {A : Option Addr} {n c : Nat} {bs : List Nat} (h : Src w 1 A n c (ocells bs)) (hc : Chg NoS w w') {k : Nat} (hk : k < bs.length) :
    ∃ b off, A = some ⟨b, off, none⟩ ∧ ∀ j, j < bs.length → w'.cell? ⟨b, off + j, none⟩ = some (.int .u8 (bs.getD j 0 : Nat)) := by
  obtain ⟨b, off, rfl, hcell⟩ := h.plain (by rw [ocells_len]; omega)
  refine ⟨b, off, rfl, fun j hj => ?_⟩
  have e0 := hcell j (.int .u8 (bs.getD j 0 : Nat)) (ocells_at (by rw [List.getD_eq_getElem?_getD, List.getElem?_eq_getElem hj]; rfl))
  exact (hc.cell (p := ⟨b, _, none⟩) (by exact cell_lt e0) (fun h => h)).trans e0

theorem match_none (bs : List Nat) (A : Option Addr) (c : Nat) (p far most : Int) (w : World) (h : p < 0 ∨ (bs.length : Int) ≤ p ∨ far < 1 ∨ p < far) :
    Calls Try.prog 14 #[.slice A bs.length c, .int .i64 p, .int .i64 far, .int .i64 most] w fun e w' => e = .returned (.int .i64 (mtI bs p far most)) ∧ w = w' := by
  have hE := keepf (show mtI bs p far most = 0 from if_pos h)
  have hcase : p < 0 ∨ (¬ p < 0 ∧ (bs.length : Int) ≤ p) ∨ (¬ p < 0 ∧ ¬ (bs.length : Int) ≤ p ∧ far < 1) ∨ (¬ p < 0 ∧ ¬ (bs.length : Int) ≤ p ∧ ¬ far < 1 ∧ p < far) := by omega
  clear h
  obtain ⟨n, hn⟩ : ∃ n, n = bs.length := ⟨_, rfl⟩
  rw [← hn] at hcase ⊢
  clear hn
  rcases hcase with h | ⟨h1, h⟩ | ⟨h1, h2, h⟩ | ⟨h1, h2, h3, h⟩
  all_goals
    go_enter Try.func14, Try.ntmps14
    go_wp2_with fail
    go_ret
    exact ⟨ret_n64 (by rw [hE.out]; rfl), rfl⟩

set_option maxHeartbeats 1000000 in
theorem match_in (bs : List Nat) (A : Option Addr) (c p far : Nat) (most : Int) (w : World) (hS : Src w 1 A bs.length c (ocells bs)) (hl : bs.length ≤ maxLen) (hc : bs.length ≤ c) (hp : p < bs.length) (hf : 1 ≤ far) (hfp : far ≤ p) (hm : most ≤ 9223372036854775807) :
    Calls Try.prog 14 #[.slice A bs.length c, .int .i64 p, .int .i64 far, .int .i64 most] w fun e w' => e = .returned (.int .i64 (mtI bs p far most)) ∧ ∃ q, w' = w.drewN q := by
  have hE := keepf (show mtI bs p far most = mtF bs far most.toNat p from by rw [mtI, if_neg (by omega)]; rfl)
  obtain ⟨b, off, rfl, hcell⟩ := byte_cell hS (Chg.refl _ _) hp
  unfold maxLen at hl
  have HCELL := keepf hcell
  obtain ⟨n, hn⟩ : ∃ n, n = bs.length := ⟨_, rfl⟩
  have HN := keepf hn
  rw [← hn] at hl hp hc ⊢
  have d1 : ¬ ((p : Int) - far = c) := by omega
  have d2 : ((p : Int) - far).toNat = p - far := by omega
  clear hS hn hcell
  go_enter Try.func14, Try.ntmps14
  go_wp2_with fail
  clear d1 d2
  go_loopw [10] (fun vk wr => ∃ k q : Nat, p + k ≤ n ∧ k ≤ most.toNat ∧ vk = .int .i64 k ∧ wr = w.drewN q ∧ Hid (mtF bs far most.toNat p = k + mtF bs far (most.toNat - k) (p + k))) (fun vk _ => n - (intOf vk).toNat)
  case atStart => exact ⟨0, 0, by omega, Nat.zero_le _, rfl, rfl, keepf (by simp)⟩
  case round =>
    obtain ⟨k, q, hk, hkm, rfl, rfl, HR⟩ := hrel
    by_cases h1 : (k : Int) < most
    · have g1 : decide ((k : Int) < most) = true := by simpa using h1
      by_cases h2 : p + k < n
      · have hsum : IntKind.i64.wrap ((p : Int) + k) = (p : Int) + k := by rw [IntKind.wrap_i64]; omega
        have hdif : IntKind.i64.wrap ((n : Int) - p) = (n : Int) - p := by rw [IntKind.wrap_i64]; omega
        have g2 : decide ((k : Int) < (n : Int) - p) = true := by simp; omega
        have i0 : (0 : Int) ≤ (p : Int) + k := by omega
        have i1 : (p : Int) + k < n := by omega
        have i2 : ((p : Int) + k).toNat = p + k := by omega
        have i3 : (k : Int) < ((n - (p - far) : Nat) : Int) := by omega
        have i4 : k < n - (p - far) := by omega
        have c0 := HCELL.out (p + k) (by have := HN.out; omega)
        have c1 := HCELL.out (p + k - far) (by have := HN.out; omega)
        obtain ⟨x, hx⟩ : ∃ x, bs.getD (p + k) 0 = x := ⟨_, rfl⟩
        obtain ⟨y, hy⟩ : ∃ y, bs.getD (p + k - far) 0 = y := ⟨_, rfl⟩
        rw [hx] at c0
        rw [hy, show off + (p + k - far) = off + (p - far) + k from by omega] at c1
        have HX := keepf hx
        have HY := keepf hy
        clear hx hy
        by_cases h3 : x = y
        · subst h3
          go_upto_region 5 with fail
          go_quiet (fail)
          go_wp2_with fail
          go_roundw
          case rel =>
            refine ⟨k + 1, _, by omega, by omega, by go_num, rfl, keepf ?_⟩
            rw [HR.out, mtF_next (by omega) (by have := HN.out; omega) (by rw [HX.out, HY.out]), show most.toNat - k - 1 = most.toNat - (k + 1) from by omega, Nat.add_assoc p k 1]
            omega
          case measure => simp [intOf]; omega
        · have g3 : ((x : Int) == (y : Int)) = false := by simp; omega
          go_upto_region 5 with fail
          go_quiet (fail)
          go_wp2_with fail
          go_ret
          exact ⟨ret_n64 (by rw [hE.out, HR.out, mtF_miss (.inr (.inr (by rw [HX.out, HY.out]; exact h3)))]; simp), q + nq, by first | rfl | rw [World.drewN_drewN]⟩
      · have hdif : IntKind.i64.wrap ((n : Int) - p) = (n : Int) - p := by rw [IntKind.wrap_i64]; omega
        have g2 : decide ((k : Int) < (n : Int) - p) = false := by simp; omega
        have HK := keepf (show bs.length ≤ p + k by have := HN.out; omega)
        go_upto_region 5 with fail
        go_quiet (fail)
        go_wp2_with fail
        go_ret
        exact ⟨ret_n64 (by rw [hE.out, HR.out, mtF_miss (.inr (.inl HK.out))]; simp), q + nq, by first | rfl | rw [World.drewN_drewN]⟩
    · have g1 : decide ((k : Int) < most) = false := by simpa using h1
      have HK := keepf (show most.toNat - k = 0 by omega)
      go_upto_region 5 with fail
      go_quiet (fail)
      go_wp2_with fail
      go_ret
      exact ⟨ret_n64 (by rw [hE.out, HR.out, mtF_miss (.inl HK.out)]; simp), q + nq, by first | rfl | rw [World.drewN_drewN]⟩

theorem match_any (bs : List Nat) (A : Option Addr) (c : Nat) (p far most : Int) (w : World) (hS : Src w 1 A bs.length c (ocells bs)) (hl : bs.length ≤ maxLen) (hc : bs.length ≤ c) (hm : most ≤ 9223372036854775807) :
    Calls Try.prog 14 #[.slice A bs.length c, .int .i64 p, .int .i64 far, .int .i64 most] w fun e w' => e = .returned (.int .i64 (mtI bs p far most)) ∧ ∃ q, w' = w.drewN q := by
  rcases Decidable.em (p < 0 ∨ (bs.length : Int) ≤ p ∨ far < 1 ∨ p < far) with h | h
  · exact (match_none bs A c p far most w h).mono fun e w' ⟨h1, h2⟩ => ⟨h1, 0, by rw [← h2]; rfl⟩
  · obtain ⟨a, rfl⟩ : ∃ a : Nat, p = a := ⟨p.toNat, by omega⟩
    obtain ⟨f, rfl⟩ : ∃ f : Nat, far = f := ⟨far.toNat, by omega⟩
    exact match_in bs A c a f most w hS hl hc (by omega) (by omega) (by omega) hm

theorem rmatch_none (bs : List Nat) (A : Option Addr) (c : Nat) (p far most : Int) (w : World) (h : p < 0 ∨ (bs.length : Int) ≤ p ∨ far < 1 ∨ p < far) :
    Calls Try.prog 15 #[.slice A bs.length c, .int .i64 p, .int .i64 far, .int .i64 most] w fun e w' => e = .returned (.int .i64 (mtI bs p far most)) ∧ w = w' := by
  have hE := keepf (show mtI bs p far most = 0 from if_pos h)
  have hcase : p < 0 ∨ (¬ p < 0 ∧ (bs.length : Int) ≤ p) ∨ (¬ p < 0 ∧ ¬ (bs.length : Int) ≤ p ∧ far < 1) ∨ (¬ p < 0 ∧ ¬ (bs.length : Int) ≤ p ∧ ¬ far < 1 ∧ p < far) := by omega
  clear h
  obtain ⟨n, hn⟩ : ∃ n, n = bs.length := ⟨_, rfl⟩
  rw [← hn] at hcase ⊢
  clear hn
  rcases hcase with h | ⟨h1, h⟩ | ⟨h1, h2, h⟩ | ⟨h1, h2, h3, h⟩
  all_goals
    go_enter Try.func15, Try.ntmps15
    go_wp2_with fail
    go_ret
    exact ⟨ret_n64 (by rw [hE.out]; rfl), rfl⟩

set_option maxHeartbeats 1000000 in
theorem rmatch_in (bs : List Nat) (A : Option Addr) (c p far : Nat) (most : Int) (w : World) (hS : Src w 1 A bs.length c (ocells bs)) (hl : bs.length ≤ maxLen) (hp : p < bs.length) (hf : 1 ≤ far) (hfp : far ≤ p) (hm : most ≤ 9223372036854775807) :
    Calls Try.prog 15 #[.slice A bs.length c, .int .i64 p, .int .i64 far, .int .i64 most] w fun e w' => e = .returned (.int .i64 (mtI bs p far most)) ∧ ∃ q, w' = w.drewN q := by
  have hE := keepf (show mtI bs p far most = mtF bs far most.toNat p from by rw [mtI, if_neg (by omega)]; rfl)
  obtain ⟨b, off, rfl, hcell⟩ := byte_cell hS (Chg.refl _ _) hp
  unfold maxLen at hl
  have HCELL := keepf hcell
  obtain ⟨n, hn⟩ : ∃ n, n = bs.length := ⟨_, rfl⟩
  have HN := keepf hn
  rw [← hn] at hl hp ⊢
  clear hS hn hcell
  go_enter Try.func15, Try.ntmps15
  go_wp2_with fail
  go_loopw [9, 10] (fun vk vp wr => ∃ k q : Nat, p + k ≤ n ∧ k ≤ most.toNat ∧ vk = .int .i64 k ∧ vp = .int .i64 (p + k : Nat) ∧ wr = w.drewN q ∧ Hid (mtF bs far most.toNat p = k + mtF bs far (most.toNat - k) (p + k))) (fun vk _ _ => n - (intOf vk).toNat)
  case atStart => exact ⟨0, 0, by omega, Nat.zero_le _, rfl, rfl, rfl, keepf (by simp)⟩
  case round =>
    obtain ⟨k, q, hk, hkm, rfl, rfl, rfl, HR⟩ := hrel
    obtain ⟨s, hs⟩ : ∃ s, s = p + k := ⟨_, rfl⟩
    have HSS := keepf hs
    rw [← hs] at hk ⊢
    by_cases h2 : s < n
    · by_cases h1 : (k : Int) < most
      · have hdif : IntKind.i64.wrap ((s : Int) - far) = (s : Int) - far := by rw [IntKind.wrap_i64]; omega
        have i0 : (0 : Int) ≤ (s : Int) - far := by omega
        have i1 : (s : Int) - far < n := by omega
        have i2 : ((s : Int) - far).toNat = s - far := by omega
        have c0 := HCELL.out s (by have := HN.out; omega)
        have c1 := HCELL.out (s - far) (by have := HN.out; omega)
        have i3 : far ≤ s := by omega
        obtain ⟨x, hx⟩ : ∃ x, bs.getD s 0 = x := ⟨_, rfl⟩
        obtain ⟨y, hy⟩ : ∃ y, bs.getD (s - far) 0 = y := ⟨_, rfl⟩
        rw [hx] at c0
        rw [hy] at c1
        have HX := keepf hx
        have HY := keepf hy
        clear hx hy hs
        by_cases h3 : x = y
        · subst h3
          go_upto_region 7 with fail
          go_quiet (fail)
          go_wp2_with fail
          go_roundw
          case rel =>
            refine ⟨k + 1, _, by have := HSS.out; omega, by omega, by go_num, by have := HSS.out; rw [show p + (k + 1) = s + 1 from by omega]; go_num, rfl, keepf ?_⟩
            rw [HR.out, ← HSS.out, mtF_next (by omega) (by have := HN.out; omega) (by rw [HX.out, HY.out]), show most.toNat - k - 1 = most.toNat - (k + 1) from by omega, show p + (k + 1) = s + 1 from by have := HSS.out; omega]
            omega
          case measure => have := HSS.out; simp [intOf]; omega
        · have g3 : ((x : Int) == (y : Int)) = false := by simp; omega
          have g4 : ((x : Int) != (y : Int)) = true := by simp; omega
          go_upto_region 7 with fail
          go_quiet (fail)
          go_wp2_with fail
          go_ret
          exact ⟨ret_n64 (by rw [hE.out, HR.out, ← HSS.out, mtF_miss (.inr (.inr (by rw [HX.out, HY.out]; exact h3)))]; simp), q + nq, by first | rfl | rw [World.drewN_drewN]⟩
      · have HK := keepf (show most.toNat - k = 0 by omega)
        clear hs
        go_wp2_with fail
        go_ret
        exact ⟨ret_n64 (by rw [hE.out, HR.out, mtF_miss (.inl HK.out)]; simp), q, rfl⟩
    · have HK := keepf (show bs.length ≤ p + k by have := HN.out; omega)
      clear hs
      go_wp2_with fail
      go_ret
      exact ⟨ret_n64 (by rw [hE.out, HR.out, mtF_miss (.inr (.inl HK.out))]; simp), q, rfl⟩

theorem rmatch_any (bs : List Nat) (A : Option Addr) (c : Nat) (p far most : Int) (w : World) (hS : Src w 1 A bs.length c (ocells bs)) (hl : bs.length ≤ maxLen) (hm : most ≤ 9223372036854775807) :
    Calls Try.prog 15 #[.slice A bs.length c, .int .i64 p, .int .i64 far, .int .i64 most] w fun e w' => e = .returned (.int .i64 (mtI bs p far most)) ∧ ∃ q, w' = w.drewN q := by
  rcases Decidable.em (p < 0 ∨ (bs.length : Int) ≤ p ∨ far < 1 ∨ p < far) with h | h
  · exact (rmatch_none bs A c p far most w h).mono fun e w' ⟨h1, h2⟩ => ⟨h1, 0, by rw [← h2]; rfl⟩
  · obtain ⟨a, rfl⟩ : ∃ a : Nat, p = a := ⟨p.toNat, by omega⟩
    obtain ⟨f, rfl⟩ : ∃ f : Nat, far = f := ⟨far.toNat, by omega⟩
    exact rmatch_in bs A c a f most w hS hl (by omega) (by omega) (by omega) hm
end Go.Proofs.Ytomkejeofcpchaa
