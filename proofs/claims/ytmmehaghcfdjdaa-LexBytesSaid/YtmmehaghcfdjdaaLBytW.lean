/- The walk of LexBytes: space, delimiters, and where space and comments end. -/
import Derived.Test.YtmmehaghcfdjdaaLWorks
namespace Go.Proofs.Ytmmehaghcfdjdaa
open Go.RowKit
set_option linter.unusedVariables false
set_option linter.unusedSimpArgs false
set_option maxHeartbeats 4000000 in
set_option maxRecDepth 100000 in
theorem lexbytesW (H : LexOk) (bs : List Nat) (A : Option Addr) (c : Nat) (p : Int) (x : Nat) (w : World) (hS : Src w 1 A bs.length c (lcells bs)) (hm : bs.length ≤ maxLen) (hb : ∀ x ∈ bs, x < 256) (hc : bs.length ≤ c) (hx : x < 256) :
    Calls Try.prog 4 #[.slice A bs.length c, .int .i64 p, .int .u8 (x : Nat)] w fun e w' => e = .returned (.bool true) ∧ Chg NoS w w' := by
  have HW := keepf (fun (W : World) (h : Chg NoS w W) => (works_any10 H W).mono fun e w' (k : e = .returned (.bool true) ∧ Chg NoS W w') => (⟨k.1, h.trans k.2 (fun _ _ e => e)⟩ : e = .returned (.bool true) ∧ Chg NoS w w'))
  unfold maxLen at hm
  have hcw := Chg.refl NoS w
  by_cases h4 : bs.length ≤ 400
  · have HSP := keepf (fun (W : World) (h : Chg NoS w W) => (H.space x W hx).mono fun e w' (k : e = .returned (.bool (isSp x)) ∧ Chg NoS W w') => (⟨k.1, h.trans k.2 (fun _ _ e => e)⟩ : e = .returned (.bool (isSp x)) ∧ Chg NoS w w'))
    have HDL := keepf (fun (W : World) (h : Chg NoS w W) => (H.delim x W hx).mono fun e w' (k : e = .returned (.bool (isDl x)) ∧ Chg NoS W w') => (⟨k.1, h.trans k.2 (fun _ _ e => e)⟩ : e = .returned (.bool (isDl x)) ∧ Chg NoS w w'))
    have HSK := keepf (fun (W : World) (h : Chg NoS w W) => (H.skip bs A c p W (Src.below (w0 := w) hS h) (by omega) hc hb).mono fun e w' (k : e = .returned (.int .i64 (skipO bs p : Nat)) ∧ Chg NoS W w') => (⟨k.1, h.trans k.2 (fun _ _ e => e)⟩ : e = .returned (.int .i64 (skipO bs p : Nat)) ∧ Chg NoS w w'))
    have HRS := keepf (fun (W : World) => rspace_any x W)
    have HRD := keepf (fun (W : World) => rdelim_any x W)
    have HRK := keepf (fun (W : World) (h : Chg NoS w W) => rskip_any bs A c p W (Src.below (w0 := w) hS h) (by omega) hc)
    obtain ⟨k, hk⟩ : ∃ k, k = skipO bs p := ⟨_, rfl⟩
    obtain ⟨b1, hb1⟩ : ∃ b1, b1 = isSp x := ⟨_, rfl⟩
    obtain ⟨b2, hb2⟩ : ∃ b2, b2 = isDl x := ⟨_, rfl⟩
    rw [← hk] at HSK HRK
    rw [← hb1] at HSP HRS
    rw [← hb2] at HDL HRD
    obtain ⟨n, hn⟩ : ∃ n, n = bs.length := ⟨_, rfl⟩
    rw [← hn] at HSK HRK h4 hm hc ⊢
    have d4 : decide ((400 : Int) < n) = false := by simp; omega
    have d4' : decide (400 < n) = false := by simp; omega
    clear H hS hb hk hb1 hb2 hn
    go_enter Try.func4, Try.ntmps4
    go_wp2_with (first
      | (go_at_call 13; refine (HSP.out _ (by assumption)).mono ?_; rintro e wq ⟨rfl, hq⟩)
      | (go_at_call 14; refine (HRS.out _).mono ?_; rintro e wq ⟨rfl, rfl⟩)
      | (go_at_call 15; refine (HDL.out _ (by assumption)).mono ?_; rintro e wq ⟨rfl, hq⟩)
      | (go_at_call 16; refine (HRD.out _).mono ?_; rintro e wq ⟨rfl, rfl⟩)
      | (go_at_call 17; refine (HSK.out _ (by assumption)).mono ?_; rintro e wq ⟨rfl, hq⟩)
      | (go_at_call 18; refine (HRK.out _ (by assumption)).mono ?_; rintro e wq ⟨rfl, rfl⟩)
      | (go_at_call 8; refine (HW.out _ (by assumption)).mono ?_; rintro e wq ⟨rfl, hq⟩))
    go_ret
    exact ⟨rfl, by assumption⟩
  · have d4 : decide ((400 : Int) < bs.length) = true := by simp; omega
    have d4' : decide (400 < bs.length) = true := by simp; omega
    obtain ⟨n, hn⟩ : ∃ n, n = bs.length := ⟨_, rfl⟩
    rw [← hn] at hm d4 d4' ⊢
    clear H hS hb hc h4 hn
    go_enter Try.func4, Try.ntmps4
    go_wp2_with (go_at_call 8; refine (HW.out _ (by assumption)).mono ?_; rintro e wx ⟨rfl, hcx⟩)
    go_ret
    exact ⟨rfl, by assumption⟩
end Go.Proofs.Ytmmehaghcfdjdaa
