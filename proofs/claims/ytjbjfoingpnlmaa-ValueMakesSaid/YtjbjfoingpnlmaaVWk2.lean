/- works(): the walk. -/
import Derived.Test.YtjbjfoingpnlmaaVWks
namespace Go.Proofs.Ytjbjfoingpnlmaa
open Go.RowKit
set_option linter.unusedVariables false
set_option linter.unusedSimpArgs false

set_option maxHeartbeats 4000000 in
set_option maxRecDepth 100000 in
theorem works_any11 (w : World) : Calls Try.prog 14 #[] w fun e w' => e = .returned (.bool true) ∧ Chg NoS w w' := by
  have HN := keepf (fun (s : ByteArray) (W : World) (h : Chg NoS w W) => (nameOf_any s W).mono (fun e w' k => (⟨k.1, h.trans k.2 (fun _ _ e => e)⟩ : e = _ ∧ Chg NoS w w')))
  have HI := keepf (fun (W : World) (h : Chg NoS w W) => (intOf_any 7 W).mono (fun e w' k => (⟨k.1, h.trans k.2 (fun _ _ e => e)⟩ : e = _ ∧ Chg NoS w w')))
  have HR := keepf (fun (W : World) (h : Chg NoS w W) => (refTo_any 3 W).mono (fun e w' k => (⟨k.1, h.trans k.2 (fun _ _ e => e)⟩ : e = _ ∧ Chg NoS w w')))
  have g8 : ∀ k n : Int, (-9223372036854775808 ≤ k ∧ k ≤ 9223372036854775807) → (-9223372036854775808 ≤ n ∧ n ≤ 9223372036854775807) → ∀ W, ValIs W (.mk k n ⟨#[]⟩ []) ⟨k, n, ⟨#[]⟩, none, 0, 0⟩ := fun k n hk hn W =>
    .mk ⟨k, n, ⟨#[]⟩, none, 0, 0⟩ [] ⟨hk, hn, Nat.zero_le _, fun _ => ⟨rfl, rfl⟩, Nat.le_refl _, Nat.zero_le _⟩ rfl (.nil _ _)
  have HD : Hid (∀ (W : World), Calls Try.prog 29 #[.slice (some ⟨W.heap.size, 0, none⟩) 4 4] (W.alloc (.cells #[.int .i64 5, .int .i64 0, .string sB, .slice none 0 0, .int .i64 8, .int .i64 3, .string ⟨#[]⟩, .slice none 0 0, .int .i64 5, .int .i64 0, .string sA, .slice none 0 0, .int .i64 2, .int .i64 7, .string ⟨#[]⟩, .slice none 0 0] 24)) (fun e w' => ∃ A cap, e = .returned (.agg #[.int .i64 7, .int .i64 0, .string ⟨#[]⟩, .slice A 4 cap]) ∧ ValIs w' (.mk 7 0 ⟨#[]⟩ wkD) ⟨7, 0, ⟨#[]⟩, A, 4, cap⟩ ∧ Chg NoS (W.alloc (.cells #[.int .i64 5, .int .i64 0, .string sB, .slice none 0 0, .int .i64 8, .int .i64 3, .string ⟨#[]⟩, .slice none 0 0, .int .i64 5, .int .i64 0, .string sA, .slice none 0 0, .int .i64 2, .int .i64 7, .string ⟨#[]⟩, .slice none 0 0] 24)) w')) := by
    show ∀ W : World, _
    intro W
    have hr := row4 (e1 := ⟨5, 0, sB, none, 0, 0⟩) (e2 := ⟨8, 3, ⟨#[]⟩, none, 0, 0⟩) (e3 := ⟨5, 0, sA, none, 0, 0⟩) (e4 := ⟨2, 7, ⟨#[]⟩, none, 0, 0⟩) (Blk.new W 24 #[.int .i64 5, .int .i64 0, .string sB, .slice none 0 0, .int .i64 8, .int .i64 3, .string ⟨#[]⟩, .slice none 0 0, .int .i64 5, .int .i64 0, .string sA, .slice none 0 0, .int .i64 2, .int .i64 7, .string ⟨#[]⟩, .slice none 0 0])
      (nm_is _ sB (by decide)) (g8 8 3 (by decide) (by decide) _) (nm_is _ sA (by decide)) (g8 2 7 (by decide) (by decide) _)
    have h := dictOf_any wkL _ 4 4 _ rfl hr (fun h => (by cases h)) (Nat.le_refl _) (by decide) (by
      intro t ht
      simp only [wkL, List.mem_cons, List.not_mem_nil, or_false] at ht
      rcases ht with rfl | rfl | rfl | rfl <;> decide)
    rw [dict_wk] at h
    refine h.mono ?_
    rintro e w' ⟨c', rfl, hv, hc⟩
    obtain ⟨r1, r2, r3, rg, rl, rr⟩ := hv.inv
    obtain ⟨ck, cn, cs, cA, clen, ccap⟩ := c'
    simp only [] at r1 r2 r3 rl
    subst r1 r2 r3
    have hcl : clen = 4 := rl.symm
    subst hcl
    exact ⟨cA, ccap, rfl, hv, hc⟩
  have hw := Chg.refl NoS w
  have eA : (⟨#[65]⟩ : ByteArray) = sA := rfl
  have eB : (⟨#[66]⟩ : ByteArray) = sB := rfl
  go_enter Try.func14, Try.ntmps14
  go_upto_region 2 with (first
    | (go_at_call 26; with_reducible refine (HN.out _ _ (by assumption)).mono ?_; rintro e w2 ⟨rfl, hc2⟩)
    | (go_at_call 28; with_reducible refine (HR.out _ (by assumption)).mono ?_; rintro e w3 ⟨rfl, hc3⟩)
    | (go_at_call 27; with_reducible refine (HI.out _ (by assumption)).mono ?_; rintro e w5 ⟨rfl, hc5⟩)
    | (go_at_call 29; refine (HD.out _).mono ?_; rintro e w6 ⟨cA, ccap, rfl, hv6, hc6⟩; have HV6 := keepf hv6; have HC6 := keepf ((hc5.alloc _).trans hc6 (fun _ _ e => e)); clear hc6 hv6))
  have HB6 := keepf (Blk.new w6 24 #[.int .i64 7, .int .i64 0, .string ⟨#[]⟩, .slice cA 4 ccap])
  have HC7 := keepf (HC6.out.alloc (.cells #[.int .i64 7, .int .i64 0, .string ⟨#[]⟩, .slice cA 4 ccap] 24))
  have HG : Hid (∀ (W : World), Chg NoS w6 W → Calls Try.prog 19 #[.agg #[.int .i64 7, .int .i64 0, .string ⟨#[]⟩, .slice cA 4 ccap], .string sB] W fun e w' => ∃ A cap, e = .returned (.tuple #[.agg #[.int .i64 8, .int .i64 3, .string ⟨#[]⟩, .slice A 0 cap], .bool true]) ∧ Chg NoS W w') := by
    show ∀ W : World, _
    intro W hW
    have h := get_any ⟨7, 0, ⟨#[]⟩, cA, 4, ccap⟩ wkD sB W (HV6.out.chg hW) (by simp [wkD, sizL, sizT, nmT, ref3, int7])
    rw [get_wk] at h
    refine h.mono ?_
    rintro e w' ⟨c', rfl, hv, hc⟩
    obtain ⟨r1, r2, r3, rg, rl, rr⟩ := hv.inv
    obtain ⟨ck, cn, cs, cA, clen, ccap⟩ := c'
    simp only [] at r1 r2 r3 rl
    subst r1 r2 r3
    have hcl : clen = 0 := rl.symm
    subst hcl
    exact ⟨cA, ccap, rfl, hc⟩
  have HK := keepf (fun (W : World) (h : Chg NoS w6 W) => check_any (.mk 7 0 ⟨#[]⟩ wkD) ⟨7, 0, ⟨#[]⟩, cA, 4, ccap⟩ W (HV6.out.chg h) (by simp [wkD, sizL, sizT, nmT, ref3, int7]))
  rw [check_wk] at HK
  have HP := keepf (fun (W : World) (h : Chg NoS w6 W) => depth_any (.mk 7 0 ⟨#[]⟩ wkD) ⟨7, 0, ⟨#[]⟩, cA, 4, ccap⟩ W (HV6.out.chg h) (by simp [wkD, sizL, sizT, nmT, ref3, int7]))
  rw [depth_wk] at HP
  unfold VC.val at HK HP
  simp only [] at HK HP
  obtain ⟨b, off, rfl⟩ : ∃ b off, cA = some ⟨b, off, none⟩ := (HV6.out.inv.2.2.2.2.2).start
  have HRW := keepf (HV6.out.inv.2.2.2.2.2)
  go_upto_region 3 with (go_at_call 19; refine (HG.out _ ((Chg.refl NoS w6).alloc _)).mono ?_; rintro e w7 ⟨A7, c7, rfl, hc7⟩; have HC8 := keepf (HC7.out.trans hc7 (fun _ _ e => e)); have HB7 := keepf (HB6.out.chg hc7 (fun e => e)); have HC9 := keepf (((Chg.refl NoS w6).alloc _).trans hc7 (fun _ _ e => e)); clear hc7)
  have HB8 := keepf (HB7.out.alloc (.cells #[.int .i64 8, .int .i64 3, .string ⟨#[]⟩, .slice A7 0 c7] 24))
  have HCA := keepf (HC9.out.alloc (.cells #[.int .i64 8, .int .i64 3, .string ⟨#[]⟩, .slice A7 0 c7] 24))
  have HCB := keepf (HC8.out.alloc (.cells #[.int .i64 8, .int .i64 3, .string ⟨#[]⟩, .slice A7 0 c7] 24))
  obtain ⟨eA9, el, ec, _, _, l2, _, _⟩ := HRW.out.nth (j := 0) (t := nmT sA) HCA.out rfl
  simp only [Nat.zero_mul, Nat.add_zero] at l2
  have l3 : (w7.alloc (.cells #[.int .i64 8, .int .i64 3, .string ⟨#[]⟩, .slice A7 0 c7] 24)).cell? ⟨b, off + 2, none⟩ = some (.string sA) := l2
  have p0 := HB8.out.cell 0
  have p1 := HB8.out.cell 1
  have p2 := HB8.out.cell 2
  have p3 := HB8.out.cell 3
  simp at p0 p1 p2 p3
  clear l2 hw hc2 hc3 hc5
  go_wp2_with (first
    | (go_at_call 10; refine (HK.out _ HCA.out).mono ?_; rintro e w8 ⟨rfl, hc8⟩; have HB9 := keepf (HB8.out.chg hc8 (fun e => e)); have HCC := keepf (HCB.out.trans hc8 (fun _ _ e => e)); have HCD := keepf (HCA.out.trans hc8 (fun _ _ e => e)); have q0 := HB9.out.cell 0; have q1 := HB9.out.cell 1; have q2 := HB9.out.cell 2; have q3 := HB9.out.cell 3; simp at q0 q1 q2 q3; clear hc8)
    | (go_at_call 12; refine (HP.out _ HCD.out).mono ?_; rintro e w9 ⟨rfl, hc9⟩; have HCE := keepf (HCC.out.trans hc9 (fun _ _ e => e)); clear hc9))
  go_ret
  exact ⟨rfl, HCE.out⟩
end Go.Proofs.Ytjbjfoingpnlmaa
