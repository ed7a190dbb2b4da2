/- The walk of 'NumBack', from what num's functions are to answer. -/
import Derived.Test.YtnkfbjddlbdnfaaDoorNBk
namespace Go.Proofs.YtnkfbjddlbdnfaaDoor.nback
open Go.RowKit
set_option linter.unusedVariables false

theorem pad_tell {n d : Int} (bn : n ≤ 9223372036854775807) : padOf n d = ([], 2) ∨ (padOf n d = (txt n.toNat d.toNat, 0) ∧ 0 ≤ n ∧ 1 ≤ d ∧ d ≤ 20 ∧ (txt n.toNat d.toNat).length = d.toNat) := by
  by_cases h : n < 0 ∨ d < 1 ∨ 20 < d ∨ d.toNat < (txt n.toNat d.toNat).length
  · exact .inl (pad_bad h)
  · refine .inr ⟨if_neg h, by omega, by omega, by omega, ?_⟩
    have h1 : ¬ d.toNat < (txt n.toNat d.toNat).length := fun e => h (.inr (.inr (.inr e)))
    have h2 := txt_len n.toNat d.toNat
    have h3 : d.toNat ≤ max d.toNat (dn n.toNat).length := Nat.le_max_left _ _
    omega
theorem pad_read {n d : Int} (h0 : 0 ≤ n) (h1 : 1 ≤ d) (hl : (txt n.toNat d.toNat).length = d.toNat) : dgOf (sl (sb (txt n.toNat d.toNat))) = if 2147483647 < n then (0, 5) else (n, 0) := by
  rw [sl_sb _ (dig_lt (txt_dig _ _))]
  have hne : ¬ (txt n.toNat d.toNat = [] ∨ ∃ x ∈ txt n.toNat d.toNat, ¬ isD x) := by
    rintro (h | ⟨x, hx, h⟩)
    · rw [h] at hl
      simp at hl
      omega
    · exact h (txt_dig _ _ x hx)
  unfold dgOf
  rw [if_neg hne, txt_val]
  by_cases hg : 2147483647 < n
  · rw [if_pos hg, if_pos (by omega)]
  · rw [if_neg hg, if_neg (by omega), Int.toNat_of_nonneg h0]

set_option maxHeartbeats 4000000 in
theorem walk (H : NumOk) (k n : Int) (s : ByteArray) (A : Option Addr) (len cap : Nat) (d : Int) (w : World) (hL : LibOk w) (bn : -9223372036854775808 ≤ n ∧ n ≤ 9223372036854775807) (bd : -9223372036854775808 ≤ d ∧ d ≤ 9223372036854775807) :
    Calls Tryd.prog 5 #[.agg #[.int .i64 k, .int .i64 n, .string s, .slice A len cap], .int .i64 d] w fun e w' => e = .returned (.bool true) ∧ Below w.heap.size w w' := by
  have HLW := keepf hL
  clear hL
  have HW := keepf (fun W hLW => works_any9 H W hLW)
  have HPD := keepf (fun W hLW => H.pad n d W hLW bn bd)
  have HDG := keepf (fun (t : ByteArray) W (h : t.size ≤ 100000) => H.digits t W h)
  have HB := keepf (Blk.new w 25 #[.int .i64 k, .int .i64 n, .string s, .slice A len cap])
  have HA := keepf ((Chg.refl NoS w).alloc (.cells #[.int .i64 k, .int .i64 n, .string s, .slice A len cap] 25))
  obtain ⟨W, hW⟩ : ∃ W, W = w.alloc (.cells #[.int .i64 k, .int .i64 n, .string s, .slice A len cap] 25) := ⟨_, rfl⟩
  rw [← hW] at HB HA
  have HPR := keepf (fun W hLW => H.print k n s A len cap W hLW)
  have HPA := keepf (fun (t : ByteArray) W hLW (h : t.size ≤ 100000) => H.parse t W hLW h)
  clear H
  go_enter Tryd.func5, Tryd.ntmps5
  go_upto_region 1 with fail
  rw [← hW]
  clear hW
  obtain ⟨g, hg⟩ : ∃ g, g = w.heap.size := ⟨_, rfl⟩
  rw [← hg] at HB ⊢
  have HG := keepf hg
  clear hg
  have q0 := HB.out.cell 0
  have q1 := HB.out.cell 1
  have q2 := HB.out.cell 2
  have q3 := HB.out.cell 3
  simp at q0 q1 q2 q3
  by_cases hck : s.size = 0 ∧ len = 0 ∧ mayN k n
  · obtain ⟨hs, rfl, hmay⟩ := hck
    obtain rfl := str_nil hs
    have hk0 : 0 ≤ k := by have h := hmay; unfold mayN at h; omega
    obtain ⟨k, rfl⟩ := Int.eq_ofNat_of_zero_le hk0
    obtain ⟨t, ht⟩ : ∃ t, t = sb (tellL k n) := ⟨_, rfl⟩
    have H1 : Hid (∀ W, LibOk W → Calls Tryd.prog 13 #[.agg #[.int .i64 (k : Nat), .int .i64 n, .string ⟨#[]⟩, .slice A 0 cap]] W fun e w' => e = .returned (.tuple #[.string t, .int .i64 0]) ∧ Chg NoS W w') := fun W hLW =>
      (HPR.out W hLW).mono fun e w' h => by
        unfold PrTo at h
        rw [show prOf k n (ByteArray.mk #[]).size 0 = (tellL k n, 0) from pr_tell hmay, ← ht] at h
        exact h
    have H2 : Hid (∀ W, LibOk W → Calls Tryd.prog 8 #[.string t] W fun e w' => e = .returned (.tuple #[.agg #[.int .i64 (k : Nat), .int .i64 n, .string ⟨#[]⟩, .slice none 0 0], .int .i64 0]) ∧ Chg NoS W w') := fun W hLW =>
      (HPA.out t W hLW (by rw [ht]; have := (tell_num hmay).2; omega)).mono fun e w' h => by
        unfold PaTo at h
        rw [ht, (tell_num hmay).1] at h
        exact h
    have HS : Hid (∀ W, Calls Tryd.prog 12 #[.agg #[.int .i64 (k : Nat), .int .i64 n, .string ⟨#[]⟩, .slice none 0 0], .agg #[.int .i64 (k : Nat), .int .i64 n, .string ⟨#[]⟩, .slice A 0 cap]] W fun e w' => e = .returned (.bool true) ∧ Chg NoS W w') := fun W =>
      (same9_any _ _ _ _ _ _ _ _ 0 0 0 cap W).mono fun e w' h => by
        obtain ⟨⟨b, rfl, hb⟩, hc⟩ := h
        obtain rfl : b = true := hb.2 ⟨rfl, rfl, rfl, rfl⟩
        exact ⟨rfl, hc⟩
    clear hs hmay ht hk0
    go_upto_region 3 with (go_at_call 13; refine (H1.out _ (by first | exact HLW.out.chg HC9.out | exact HLW.out.chg HC8.out | exact HLW.out.chg HC7.out | exact HLW.out.chg HC6.out | exact HLW.out.chg HC5.out | exact HLW.out.chg HC4.out | exact HLW.out.chg HC3.out | exact HLW.out.chg HC2.out | exact HLW.out.chg HA.out | exact HLW.out)).mono ?_; rintro e w2 ⟨rfl, hc2⟩; have HB2 := keepf (HB.out.chg hc2 (fun h => h)); have HC2 := keepf (HA.out.trans hc2 (fun _ _ h => h)); clear hc2)
    clear q0 q1 q2 q3
    go_upto_region 4 with (go_at_call 8; refine (H2.out _ (by first | exact HLW.out.chg HC9.out | exact HLW.out.chg HC8.out | exact HLW.out.chg HC7.out | exact HLW.out.chg HC6.out | exact HLW.out.chg HC5.out | exact HLW.out.chg HC4.out | exact HLW.out.chg HC3.out | exact HLW.out.chg HC2.out | exact HLW.out.chg HA.out | exact HLW.out)).mono ?_; rintro e w3 ⟨rfl, hc3⟩; have HB3 := keepf (HB2.out.chg hc3 (fun h => h)); have HC3 := keepf (HC2.out.trans hc3 (fun _ _ h => h)); clear hc3)
    have HV4 := keepf (Blk.new w3 25 #[.int .i64 (k : Nat), .int .i64 n, .string ⟨#[]⟩, .slice none 0 0])
    have HB4 := keepf (HB3.out.alloc (.cells #[.int .i64 (k : Nat), .int .i64 n, .string ⟨#[]⟩, .slice none 0 0] 25))
    have HC4 := keepf (HC3.out.alloc (.cells #[.int .i64 (k : Nat), .int .i64 n, .string ⟨#[]⟩, .slice none 0 0] 25))
    obtain ⟨W4, hW⟩ : ∃ W, W = w3.alloc (.cells #[.int .i64 (k : Nat), .int .i64 n, .string ⟨#[]⟩, .slice none 0 0] 25) := ⟨_, rfl⟩
    rw [← hW] at HB4 HC4 HV4 ⊢
    obtain ⟨g2, hg⟩ : ∃ g, g = w3.heap.size := ⟨_, rfl⟩
    rw [← hg] at HV4 ⊢
    clear hW hg HB2 HC2 HB3 HC3
    have q0 := HB4.out.cell 0
    have q1 := HB4.out.cell 1
    have q2 := HB4.out.cell 2
    have q3 := HB4.out.cell 3
    have y0 := HV4.out.cell 0
    have y1 := HV4.out.cell 1
    have y2 := HV4.out.cell 2
    have y3 := HV4.out.cell 3
    simp at q0 q1 q2 q3 y0 y1 y2 y3
    go_upto_region 6 with (go_at_call 12; refine (HS.out _).mono ?_; rintro e w5 ⟨rfl, hc5⟩; have HB5 := keepf (HB4.out.chg hc5 (fun h => h)); have HC5 := keepf (HC4.out.trans hc5 (fun _ _ h => h)); clear hc5)
    clear q0 q1 q2 q3 y0 y1 y2 y3
    have q1 := HB5.out.cell 1
    simp at q1
    rcases pad_tell (d := d) bn.2 with hp | ⟨hp, h0, hd1, hd2, hpl⟩
    · have H6 : Hid (∀ W, LibOk W → Calls Tryd.prog 15 #[.int .i64 n, .int .i64 d] W fun e w' => e = .returned (.tuple #[.string ⟨#[]⟩, .int .i64 2]) ∧ Chg NoS W w') := fun W hLW =>
        (HPD.out W hLW).mono fun e w' h => by
          rw [hp] at h
          exact h
      clear hp
      go_wp2_with first | (go_at_call 15; refine (H6.out _ (by first | exact HLW.out.chg HC9.out | exact HLW.out.chg HC8.out | exact HLW.out.chg HC7.out | exact HLW.out.chg HC6.out | exact HLW.out.chg HC5.out | exact HLW.out.chg HC4.out | exact HLW.out.chg HC3.out | exact HLW.out.chg HC2.out | exact HLW.out.chg HA.out | exact HLW.out)).mono ?_; rintro e w6 ⟨rfl, hc6⟩; have HC6 := keepf (HC5.out.trans hc6 (fun _ _ h => h)); clear hc6) | (go_at_call 7; refine (HW.out _ (by first | exact HLW.out.chg HC9.out | exact HLW.out.chg HC8.out | exact HLW.out.chg HC7.out | exact HLW.out.chg HC6.out | exact HLW.out.chg HC5.out | exact HLW.out.chg HC4.out | exact HLW.out.chg HC3.out | exact HLW.out.chg HC2.out | exact HLW.out.chg HA.out | exact HLW.out)).mono ?_; rintro e wx ⟨rfl, hcx⟩; have HCx := keepf (HC6.out.trans hcx (fun _ _ e => e)); clear hcx)
      go_ret
      have hgw := HG.out
      subst hgw
      exact ⟨rfl, HCx.out.no_below⟩
    · obtain ⟨p, hpp⟩ : ∃ p, p = sb (txt n.toNat d.toNat) := ⟨_, rfl⟩
      have hps : (p.size : Int) = d := by rw [hpp, sb_size, hpl]; omega
      have H6 : Hid (∀ W, LibOk W → Calls Tryd.prog 15 #[.int .i64 n, .int .i64 d] W fun e w' => e = .returned (.tuple #[.string p, .int .i64 0]) ∧ Chg NoS W w') := fun W hLW =>
        (HPD.out W hLW).mono fun e w' h => by
          rw [hp] at h
          rw [hpp]
          exact h
      have H7 := keepf (fun W => HDG.out p W (by omega))
      rw [show dgOf (sl p) = if 2147483647 < n then (0, 5) else (n, 0) from by rw [hpp]; exact pad_read h0 hd1 hpl] at H7
      clear hp hpp hpl
      go_upto_region 9 with (go_at_call 15; refine (H6.out _ (by first | exact HLW.out.chg HC9.out | exact HLW.out.chg HC8.out | exact HLW.out.chg HC7.out | exact HLW.out.chg HC6.out | exact HLW.out.chg HC5.out | exact HLW.out.chg HC4.out | exact HLW.out.chg HC3.out | exact HLW.out.chg HC2.out | exact HLW.out.chg HA.out | exact HLW.out)).mono ?_; rintro e w6 ⟨rfl, hc6⟩; have HB6 := keepf (HB5.out.chg hc6 (fun h => h)); have HC6 := keepf (HC5.out.trans hc6 (fun _ _ h => h)); clear hc6)
      clear q1
      by_cases hG : 2147483647 < n
      · rw [if_pos hG] at H7
        have c1 : decide ((2147483647 : Int) < n) = true := by simpa using hG
        go_upto_region 10 with (go_at_call 10; refine (H7.out _).mono ?_; rintro e w7 ⟨rfl, hc7⟩; have HB7 := keepf (HB6.out.chg hc7 (fun h => h)); have HC7 := keepf (HC6.out.trans hc7 (fun _ _ h => h)); clear hc7)
        have q1 := HB7.out.cell 1
        simp at q1
        go_wp2_with (go_at_call 7; refine (HW.out _ (by first | exact HLW.out.chg HC9.out | exact HLW.out.chg HC8.out | exact HLW.out.chg HC7.out | exact HLW.out.chg HC6.out | exact HLW.out.chg HC5.out | exact HLW.out.chg HC4.out | exact HLW.out.chg HC3.out | exact HLW.out.chg HC2.out | exact HLW.out.chg HA.out | exact HLW.out)).mono ?_; rintro e wx ⟨rfl, hcx⟩; have HCx := keepf (HC7.out.trans hcx (fun _ _ e => e)); clear hcx)
        go_ret
        have hgw := HG.out
        subst hgw
        exact ⟨rfl, HCx.out.no_below⟩
      · rw [if_neg hG] at H7
        have c1 : decide ((2147483647 : Int) < n) = false := by simpa using hG
        go_upto_region 10 with (go_at_call 10; refine (H7.out _).mono ?_; rintro e w7 ⟨rfl, hc7⟩; have HB7 := keepf (HB6.out.chg hc7 (fun h => h)); have HC7 := keepf (HC6.out.trans hc7 (fun _ _ h => h)); clear hc7)
        have q1 := HB7.out.cell 1
        simp at q1
        go_wp2_with (go_at_call 7; refine (HW.out _ (by first | exact HLW.out.chg HC9.out | exact HLW.out.chg HC8.out | exact HLW.out.chg HC7.out | exact HLW.out.chg HC6.out | exact HLW.out.chg HC5.out | exact HLW.out.chg HC4.out | exact HLW.out.chg HC3.out | exact HLW.out.chg HC2.out | exact HLW.out.chg HA.out | exact HLW.out)).mono ?_; rintro e wx ⟨rfl, hcx⟩; have HCx := keepf (HC7.out.trans hcx (fun _ _ e => e)); clear hcx)
        go_ret
        have hgw := HG.out
        subst hgw
        exact ⟨rfl, HCx.out.no_below⟩
  · have H1 : Hid (∀ W, LibOk W → Calls Tryd.prog 13 #[.agg #[.int .i64 k, .int .i64 n, .string s, .slice A len cap]] W fun e w' => e = .returned (.tuple #[.string ⟨#[]⟩, .int .i64 2]) ∧ Chg NoS W w') := fun W hLW =>
      (HPR.out W hLW).mono fun e w' h => by
        unfold PrTo at h
        rw [show prOf k n s.size len = ([], 2) from if_neg (by rw [show chkOf k n s.size len = 2 from if_neg hck]; decide)] at h
        exact h
    clear hck
    go_upto_region 6 with (go_at_call 13; refine (H1.out _ (by first | exact HLW.out.chg HC9.out | exact HLW.out.chg HC8.out | exact HLW.out.chg HC7.out | exact HLW.out.chg HC6.out | exact HLW.out.chg HC5.out | exact HLW.out.chg HC4.out | exact HLW.out.chg HC3.out | exact HLW.out.chg HC2.out | exact HLW.out.chg HA.out | exact HLW.out)).mono ?_; rintro e w5 ⟨rfl, hc5⟩; have HB5 := keepf (HB.out.chg hc5 (fun h => h)); have HC5 := keepf (HA.out.trans hc5 (fun _ _ h => h)); clear hc5)
    clear q0 q1 q2 q3
    have q1 := HB5.out.cell 1
    simp at q1
    rcases pad_tell (d := d) bn.2 with hp | ⟨hp, h0, hd1, hd2, hpl⟩
    · have H6 : Hid (∀ W, LibOk W → Calls Tryd.prog 15 #[.int .i64 n, .int .i64 d] W fun e w' => e = .returned (.tuple #[.string ⟨#[]⟩, .int .i64 2]) ∧ Chg NoS W w') := fun W hLW =>
        (HPD.out W hLW).mono fun e w' h => by
          rw [hp] at h
          exact h
      clear hp
      go_wp2_with first | (go_at_call 15; refine (H6.out _ (by first | exact HLW.out.chg HC9.out | exact HLW.out.chg HC8.out | exact HLW.out.chg HC7.out | exact HLW.out.chg HC6.out | exact HLW.out.chg HC5.out | exact HLW.out.chg HC4.out | exact HLW.out.chg HC3.out | exact HLW.out.chg HC2.out | exact HLW.out.chg HA.out | exact HLW.out)).mono ?_; rintro e w6 ⟨rfl, hc6⟩; have HC6 := keepf (HC5.out.trans hc6 (fun _ _ h => h)); clear hc6) | (go_at_call 7; refine (HW.out _ (by first | exact HLW.out.chg HC9.out | exact HLW.out.chg HC8.out | exact HLW.out.chg HC7.out | exact HLW.out.chg HC6.out | exact HLW.out.chg HC5.out | exact HLW.out.chg HC4.out | exact HLW.out.chg HC3.out | exact HLW.out.chg HC2.out | exact HLW.out.chg HA.out | exact HLW.out)).mono ?_; rintro e wx ⟨rfl, hcx⟩; have HCx := keepf (HC6.out.trans hcx (fun _ _ e => e)); clear hcx)
      go_ret
      have hgw := HG.out
      subst hgw
      exact ⟨rfl, HCx.out.no_below⟩
    · obtain ⟨p, hpp⟩ : ∃ p, p = sb (txt n.toNat d.toNat) := ⟨_, rfl⟩
      have hps : (p.size : Int) = d := by rw [hpp, sb_size, hpl]; omega
      have H6 : Hid (∀ W, LibOk W → Calls Tryd.prog 15 #[.int .i64 n, .int .i64 d] W fun e w' => e = .returned (.tuple #[.string p, .int .i64 0]) ∧ Chg NoS W w') := fun W hLW =>
        (HPD.out W hLW).mono fun e w' h => by
          rw [hp] at h
          rw [hpp]
          exact h
      have H7 := keepf (fun W => HDG.out p W (by omega))
      rw [show dgOf (sl p) = if 2147483647 < n then (0, 5) else (n, 0) from by rw [hpp]; exact pad_read h0 hd1 hpl] at H7
      clear hp hpp hpl
      go_upto_region 9 with (go_at_call 15; refine (H6.out _ (by first | exact HLW.out.chg HC9.out | exact HLW.out.chg HC8.out | exact HLW.out.chg HC7.out | exact HLW.out.chg HC6.out | exact HLW.out.chg HC5.out | exact HLW.out.chg HC4.out | exact HLW.out.chg HC3.out | exact HLW.out.chg HC2.out | exact HLW.out.chg HA.out | exact HLW.out)).mono ?_; rintro e w6 ⟨rfl, hc6⟩; have HB6 := keepf (HB5.out.chg hc6 (fun h => h)); have HC6 := keepf (HC5.out.trans hc6 (fun _ _ h => h)); clear hc6)
      clear q1
      by_cases hG : 2147483647 < n
      · rw [if_pos hG] at H7
        have c1 : decide ((2147483647 : Int) < n) = true := by simpa using hG
        go_upto_region 10 with (go_at_call 10; refine (H7.out _).mono ?_; rintro e w7 ⟨rfl, hc7⟩; have HB7 := keepf (HB6.out.chg hc7 (fun h => h)); have HC7 := keepf (HC6.out.trans hc7 (fun _ _ h => h)); clear hc7)
        have q1 := HB7.out.cell 1
        simp at q1
        go_wp2_with (go_at_call 7; refine (HW.out _ (by first | exact HLW.out.chg HC9.out | exact HLW.out.chg HC8.out | exact HLW.out.chg HC7.out | exact HLW.out.chg HC6.out | exact HLW.out.chg HC5.out | exact HLW.out.chg HC4.out | exact HLW.out.chg HC3.out | exact HLW.out.chg HC2.out | exact HLW.out.chg HA.out | exact HLW.out)).mono ?_; rintro e wx ⟨rfl, hcx⟩; have HCx := keepf (HC7.out.trans hcx (fun _ _ e => e)); clear hcx)
        go_ret
        have hgw := HG.out
        subst hgw
        exact ⟨rfl, HCx.out.no_below⟩
      · rw [if_neg hG] at H7
        have c1 : decide ((2147483647 : Int) < n) = false := by simpa using hG
        go_upto_region 10 with (go_at_call 10; refine (H7.out _).mono ?_; rintro e w7 ⟨rfl, hc7⟩; have HB7 := keepf (HB6.out.chg hc7 (fun h => h)); have HC7 := keepf (HC6.out.trans hc7 (fun _ _ h => h)); clear hc7)
        have q1 := HB7.out.cell 1
        simp at q1
        go_wp2_with (go_at_call 7; refine (HW.out _ (by first | exact HLW.out.chg HC9.out | exact HLW.out.chg HC8.out | exact HLW.out.chg HC7.out | exact HLW.out.chg HC6.out | exact HLW.out.chg HC5.out | exact HLW.out.chg HC4.out | exact HLW.out.chg HC3.out | exact HLW.out.chg HC2.out | exact HLW.out.chg HA.out | exact HLW.out)).mono ?_; rintro e wx ⟨rfl, hcx⟩; have HCx := keepf (HC7.out.trans hcx (fun _ _ e => e)); clear hcx)
        go_ret
        have hgw := HG.out
        subst hgw
        exact ⟨rfl, HCx.out.no_below⟩
end Go.Proofs.YtnkfbjddlbdnfaaDoor.nback
