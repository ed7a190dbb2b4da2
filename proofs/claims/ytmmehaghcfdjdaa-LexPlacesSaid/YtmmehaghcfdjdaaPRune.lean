/- strings.ContainsRune at the bytes that a number may begin with. -/
import Derived.Test.YtmmehaghcfdjdaaPLx1
import Derived.Test.YtmmehaghcfdjdaaShelf
import Derived.Laws.Runes
import Derived.Deep.Cut
import Derived.Deep.QuietTactic
namespace Go.Proofs.Ytmmehaghcfdjdaa
open Go.RowKit
set_option linter.unusedVariables false
set_option linter.unusedSimpArgs false

def numStr : ByteArray := ⟨#[48, 49, 50, 51, 52, 53, 54, 55, 56, 57, 43, 45, 46]⟩
theorem enc_val (x : Nat) (h2 : x < 256) : Utf8.valid (x : Int) = true := by
  have h1 : (x : Int) < 55296 := by omega
  have h0 : (0 : Int) ≤ x := by omega
  unfold Utf8.valid
  have e1 : decide ((0 : Int) ≤ x) = true := decide_eq_true h0
  have e2 : decide ((x : Int) < 55296) = true := decide_eq_true h1
  simp [e1, e2, h0, h1]
  try omega
theorem enc_eq (x : Nat) (h : 128 ≤ x) (h2 : x < 256) : Utf8.encode (x : Int) = ⟨#[UInt8.ofNat (192 + x / 64), UInt8.ofNat (128 + x % 64)]⟩ := by
  have hc : ¬ (x : Int).toNat < 128 := by omega
  have hd : (x : Int).toNat < 2048 := by omega
  unfold Utf8.encode
  simp only [enc_val x h2, if_true, hc, hd, if_false]
  rfl
theorem enc_two (x : Nat) (h : 128 ≤ x) (h2 : x < 256) : ∃ (t : ByteArray) (y : Nat), Utf8.encode (x : Int) = t ∧ t.size = 2 ∧ 128 ≤ y ∧ y < 256 ∧ ∀ k : 1 < t.size, (t[1]'k).toNat = y := by
  refine ⟨_, 128 + x % 64, enc_eq x h h2, rfl, by omega, by omega, fun k => ?_⟩
  show (UInt8.ofNat (128 + x % 64)).toNat = _
  simp
  omega
theorem idx_none (l : List UInt8) (y : Nat) (hy : 128 ≤ y) (hy2 : y < 256) (h : ∀ b ∈ l, b.toNat < 128) : Lib.indexByte l (y : Int).toNat.toUInt8 = -1 := by
  induction l with
  | nil => rfl
  | cons x l ih =>
    have hx := h x (List.mem_cons_self ..)
    have h3 : (x == (y : Int).toNat.toUInt8) = false := by
      rw [beq_eq_false_iff_ne]
      rintro rfl
      simp at hx
      omega
    rw [Lib.indexByte]
    rw [ih (fun b hb => h b (List.mem_cons_of_mem _ hb))]
    have h4 : ¬ x = UInt8.ofNat y := by simpa using h3
    simp [h3, h4]
set_option maxRecDepth 100000 in
theorem num_ascii : ∀ x : Fin 128, decide (0 ≤ Lib.indexByte numStr.data.toList ((x.val : Int).toNat.toUInt8)) = isNm x.val := by decide
set_option maxHeartbeats 2000000 in
set_option maxRecDepth 100000 in
theorem idxrune_gen (s s2 : ByteArray) (n : Nat) (hs : s.size = n) (hn : 2 < n) (hn2 : n ≤ 1000) (hs1 : ∀ k : 1 < s.size, (s[1]'k).toNat = 49) (hs2 : s.extract 2 n = s2) (hs3 : ∀ b ∈ s2.data.toList, b.toNat < 128) (x : Nat) (h : 128 ≤ x) (h2 : x < 256) (w : World) : Calls Try.prog 53 #[.string s, .int .i32 (x : Nat)] w fun e w' => e = .returned (.int .i64 (-1)) ∧ Chg NoS w w' := by
  obtain ⟨t, y, ht, hsz, hy1, hy2, g1⟩ := enc_two x h h2
  have hcv : ∀ W, (convert 21 9 (.int .i32 (x : Nat))).run Try.prog W = .ok (.string t) W := fun W => by
    rw [← ht]
    exact run_convert_int_string W _ _ _ _ (by kernel_rfl) Try.underlying9
  clear ht
  have HVR := keepf (fun W => Try.utf8_ValidRune (x : Int) W)
  rw [show Lib.validRune (x : Int) = true from by unfold Lib.validRune; simp; omega] at HVR
  have HIB := keepf (fun W => (show Calls Try.prog 61 #[.string s2, .int .u8 (y : Nat)] W fun e w' => e = .returned (.int .i64 (-1)) ∧ W = w' from by
    have := Try.strings_IndexByte s2 (y : Int) W
    rw [idx_none _ y hy1 hy2 hs3] at this
    exact this.mono fun _ _ ⟨he, hm⟩ => ⟨he, hm.symm⟩))
  have e1 : ((49 : Int) != (y : Int)) = true := by simp; omega
  have e2 : (49 != y) = true := by simp; omega
  have d1 : decide ((x : Int) < 128) = false := by simp; omega
  have d2 : ((x : Int) == 65533) = false := by simp; omega
  have i1 : (2 : Int) ≤ n := by omega
  have i2 : (1 : Int) < n := by omega
  have hw2 : IntKind.i64.wrap 2 = 2 := by decide
  have HHS := keepf hs3
  clear hs3
  go_enter Try.func53, Try.ntmps53
  go_wp2_with (go_at_call 62; refine (HVR.out _).mono ?_; rintro e w2 ⟨rfl, hw⟩; rw [hw]; clear hw)
  go_step3
  go_upto_region 5 with fail
  go_loopw [9] (fun vi wr => vi = .int .i64 1 ∧ wr = w) (fun _ _ => 0)
  case atStart => exact ⟨rfl, rfl⟩
  case round =>
    obtain ⟨rfl, rfl⟩ := hrel
    go_upto_region 6 with fail
    (try go_step3)
    go_upto_region 6 with fail
    go_quiet (fail)
    go_upto_region 7 with fail
    go_quiet ((go_at_call 61; first | exact quiet_left_add (HIB.out _) | exact quiet_left (HIB.out _)))
    go_wp2_with fail
    simp only [Exit.noGoto_ret, Exit.inBlock]
    change bodyPost Try.prog _ (fun e w2 => e = .returned (.int .i64 (-1)) ∧ Chg NoS wr w2) Exit.ret _ _
    go_ret
    exact ⟨rfl, (Chg.refl _ _).drewN _⟩
set_option maxHeartbeats 2000000 in
set_option maxRecDepth 100000 in
/-- Is it a byte that a number may begin with? -/
theorem crune_any (x : Nat) (h2 : x < 256) (w : World) : Calls Try.prog 48 #[.string ⟨#[48, 49, 50, 51, 52, 53, 54, 55, 56, 57, 43, 45, 46]⟩, .int .i32 (x : Nat)] w fun e w' => e = .returned (.bool (isNm x)) ∧ Chg NoS w w' := by
  by_cases h : x < 128
  · have H := Try.strings_ContainsRune_ascii numStr (x : Int) w (by omega) (by omega)
    rw [num_ascii ⟨x, h⟩] at H
    exact H.mono fun _ _ ⟨he, hm⟩ => ⟨he, by rw [hm]; exact Chg.refl _ _⟩
  · have HI := keepf (fun W => idxrune_gen ⟨#[48, 49, 50, 51, 52, 53, 54, 55, 56, 57, 43, 45, 46]⟩ ⟨#[50, 51, 52, 53, 54, 55, 56, 57, 43, 45, 46]⟩ 13 rfl (by decide) (by decide) (fun _ => rfl) (by decide) (by decide) x (by omega) h2 W)
    have HN := keepf (show isNm x = false from by simp [isNm]; omega)
    obtain ⟨s, hs⟩ : ∃ s, (⟨#[48, 49, 50, 51, 52, 53, 54, 55, 56, 57, 43, 45, 46]⟩ : ByteArray) = s := ⟨_, rfl⟩
    rw [hs] at HI ⊢
    clear hs
    go_enter Try.func48, Try.ntmps48
    go_wp2_with (go_at_call 53; refine (HI.out _).mono ?_; rintro e w2 ⟨rfl, hc2⟩; have HC2 := keepf hc2; clear hc2)
    go_ret
    exact ⟨by rw [HN.out]; rfl, HC2.out⟩
end Go.Proofs.Ytmmehaghcfdjdaa
