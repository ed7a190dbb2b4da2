/- Merged by program: R13T R13F ShVaW NLaid ShTxW RVt8 ShPl. -/
import Derived.Test.YtcehpobjnbgpdaaGreatDoorG03
import Derived.Test.YtcehpobjnbgpdaaGreatDoorG04
import Derived.Test.YtcehpobjnbgpdaaGreatDoorG05
import Derived.Test.YtcehpobjnbgpdaaGreatDoorG13
import Derived.Test.YtcehpobjnbgpdaaGreatDoorG16
import Derived.Test.YtcehpobjnbgpdaaGreatDoorShelf
import Derived.Test.YtcehpobjnbgpdaaGreatDoorRows
import Derived.Lib.LaidTab
import Derived.MakeChecks
/- The document's own Text (layer 13). -/
namespace Go.Proofs.YtcehpobjnbgpdaaGreatDoor
open Go.RowKit
set_option linter.unusedVariables false
set_option linter.unusedSimpArgs false

theorem fine_snoc {l : List Nat} {k : Nat} (h : k < l.length) : fineT (l.take (k + 1)) ↔ fineT (l.take k) ∧ 32 ≤ l.getD k 0 ∧ l.getD k 0 ≤ 126 := by
  have e : l.take (k + 1) = l.take k ++ [l.getD k 0] := take_snoc (by rw [List.getD_eq_getElem?_getD, List.getElem?_eq_getElem h]; rfl)
  rw [e]
  unfold fineT
  constructor
  · intro hf
    exact ⟨fun c hc => hf c (List.mem_append_left _ hc), hf _ (List.mem_append_right _ (List.mem_cons_self ..))⟩
  · rintro ⟨h1, h2⟩ c hc
    rcases List.mem_append.1 hc with h3 | h3
    · exact h1 c h3
    · rw [List.mem_singleton] at h3; rw [h3]; exact h2

set_option maxHeartbeats 8000000 in
set_option maxRecDepth 100000 in
theorem r13text_any (s : ByteArray) (w : World) (hs : s.size ≤ 400000) :
    Calls Tryz.prog 15 #[.string s] w fun e w' => e = .returned (.string (sb (txF (sl s)))) ∧ Chg NoS w w' := by
  have HHX0 := keepf (fun y (hy : y < 256) X => r13hex_any y hy X)
  have HAT := keepf (fun k (h2 : k < s.size) => sl_at s k h2)
  have HEX := keepf (fun k (h2 : k < s.size) => ext_one s k h2)
  have HGL := keepf (getD_lt s)
  obtain ⟨n, hn⟩ : ∃ n, s.size = n := ⟨_, rfl⟩
  have HN := keepf (show (sl s).length = n from by rw [sl_len, hn])
  have HSN := keepf hn
  rw [hn] at hs
  go_enter Tryz.func15, Tryz.ntmps15
  go_upto_region 5 with fail
  go_loopw [3, 4, 5, 6] (fun va vb vf vk wr => ∃ (k m : Nat) (ta tb : ByteArray) (f : Bool), k ≤ n ∧ m ≤ 2 * k + 1 ∧ ta.size = m ∧ tb.size = 2 * k + 1 ∧ va = .string ta ∧ vb = .string tb ∧ vf = .bool f ∧ vk = .int .i64 (k : Nat) ∧ Hid (ta = sb (40 :: esL ((sl s).take k))) ∧ Hid (m = 1 + (esL ((sl s).take k)).length) ∧ Hid (tb = sb (60 :: hxL ((sl s).take k))) ∧ Hid (f = decide (fineT ((sl s).take k))) ∧ Hid (Chg NoS w wr)) (fun _ _ _ vk _ => n - (intOf vk).toNat)
  case atStart => exact ⟨0, 1, _, _, true, by omega, by omega, rfl, rfl, rfl, rfl, rfl, by go_num, rfl, rfl, rfl, rfl, Chg.refl NoS w⟩
  case round =>
    obtain ⟨k, m, ta, tb, f, hk, hm, hta, htb, rfl, rfl, rfl, rfl, HTA, HML, HTB, HFI, HCW⟩ := hrel
    by_cases hlt : k < n
    · have hgt : ∀ h : k < s.size, (s[k]'h).toNat = (sl s).getD k 0 := fun h => HAT.out k h
      have hex := HEX.out k (by rw [HSN.out]; exact hlt)
      have hc256 := HGL.out k
      have HVA := keepf (esL_drop (l := sl s) (k := k) (by rw [HN.out]; exact hlt))
      have HVB := keepf (hxL_drop (l := sl s) (k := k) (by rw [HN.out]; exact hlt))
      have HVF := keepf (fine_snoc (l := sl s) (k := k) (by rw [HN.out]; exact hlt))
      obtain ⟨c, hc⟩ : ∃ c, c = (sl s).getD k 0 := ⟨_, rfl⟩
      rw [← hc] at hgt hex hc256 HVA HVB HVF
      clear hc
      have HHX := keepf (fun X => HHX0.out c hc256 X)
      obtain ⟨y, hy⟩ : ∃ y, y = sb [c] := ⟨_, rfl⟩
      have hy1 : y.size = 1 := by rw [hy, sb_size]; rfl
      rw [← hy] at hex
      obtain ⟨x, hx⟩ : ∃ x, x = sb (hex2 c) := ⟨_, rfl⟩
      have hx2 : x.size = 2 := by rw [hx, sb_size]; rfl
      rw [← hx] at HHX
      have HNB := keepf (show tb ++ x = sb (60 :: hxL ((sl s).take (k + 1))) from by rw [HVB.out, HTB.out, hx, sb_app]; rfl)
      have i1 : ¬ 9223372036854775807 < m + 1 := by omega
      have i2 : ¬ 9223372036854775807 < m + 1 + 1 := by omega
      have i3 : ¬ 9223372036854775807 < 2 * k + 1 + 2 := by omega
      have HY := keepf hy
      clear hy hx
      by_cases h40 : c = 40
      · subst h40
        have HNA := keepf (show ta ++ ⟨#[92]⟩ ++ y = sb (40 :: esL ((sl s).take (k + 1))) from by rw [HVA.out, HTA.out, HY.out, show ByteArray.mk #[92] = sb [92] from rfl, sb_app, sb_app]; simp [esC])
        have HNL := keepf (show m + 1 + 1 = 1 + (esL ((sl s).take (k + 1))).length from by rw [HVA.out, HML.out, List.length_append]; simp [esC]; omega)
        cases f with
        | true =>
          have HNF := keepf (show true = decide (fineT ((sl s).take (k + 1))) from by rw [decide_eq_true (HVF.out.2 ⟨of_decide_eq_true HFI.out.symm, by decide, by decide⟩)])
          go_wp2_with (go_at_call 32; refine (HHX.out _).mono ?_; rintro e w3 ⟨rfl, h3⟩; have HC3 := keepf (HCW.out.trans h3 (fun _ _ e => e)); clear h3)
          go_roundw
          case rel => exact ⟨k + 1, m + 1 + 1, _, _, true, by omega, by omega, by rw [ByteArray.size_append, ByteArray.size_append, hta, hy1]; rfl, by rw [ByteArray.size_append, htb, hx2]; omega, rfl, rfl, rfl, by go_num, HNA.out, HNL.out, HNB.out, HNF.out, HC3.out⟩
          case measure => simp [intOf]; omega
        | false =>
          have HNF := keepf (show false = decide (fineT ((sl s).take (k + 1))) from by rw [decide_eq_false (fun e => of_decide_eq_false HFI.out.symm (HVF.out.1 e).1)])
          go_wp2_with (go_at_call 32; refine (HHX.out _).mono ?_; rintro e w3 ⟨rfl, h3⟩; have HC3 := keepf (HCW.out.trans h3 (fun _ _ e => e)); clear h3)
          go_roundw
          case rel => exact ⟨k + 1, m + 1 + 1, _, _, false, by omega, by omega, by rw [ByteArray.size_append, ByteArray.size_append, hta, hy1]; rfl, by rw [ByteArray.size_append, htb, hx2]; omega, rfl, rfl, rfl, by go_num, HNA.out, HNL.out, HNB.out, HNF.out, HC3.out⟩
          case measure => simp [intOf]; omega
      by_cases h41 : c = 41
      · subst h41
        have HNA := keepf (show ta ++ ⟨#[92]⟩ ++ y = sb (40 :: esL ((sl s).take (k + 1))) from by rw [HVA.out, HTA.out, HY.out, show ByteArray.mk #[92] = sb [92] from rfl, sb_app, sb_app]; simp [esC])
        have HNL := keepf (show m + 1 + 1 = 1 + (esL ((sl s).take (k + 1))).length from by rw [HVA.out, HML.out, List.length_append]; simp [esC]; omega)
        cases f with
        | true =>
          have HNF := keepf (show true = decide (fineT ((sl s).take (k + 1))) from by rw [decide_eq_true (HVF.out.2 ⟨of_decide_eq_true HFI.out.symm, by decide, by decide⟩)])
          go_wp2_with (go_at_call 32; refine (HHX.out _).mono ?_; rintro e w3 ⟨rfl, h3⟩; have HC3 := keepf (HCW.out.trans h3 (fun _ _ e => e)); clear h3)
          go_roundw
          case rel => exact ⟨k + 1, m + 1 + 1, _, _, true, by omega, by omega, by rw [ByteArray.size_append, ByteArray.size_append, hta, hy1]; rfl, by rw [ByteArray.size_append, htb, hx2]; omega, rfl, rfl, rfl, by go_num, HNA.out, HNL.out, HNB.out, HNF.out, HC3.out⟩
          case measure => simp [intOf]; omega
        | false =>
          have HNF := keepf (show false = decide (fineT ((sl s).take (k + 1))) from by rw [decide_eq_false (fun e => of_decide_eq_false HFI.out.symm (HVF.out.1 e).1)])
          go_wp2_with (go_at_call 32; refine (HHX.out _).mono ?_; rintro e w3 ⟨rfl, h3⟩; have HC3 := keepf (HCW.out.trans h3 (fun _ _ e => e)); clear h3)
          go_roundw
          case rel => exact ⟨k + 1, m + 1 + 1, _, _, false, by omega, by omega, by rw [ByteArray.size_append, ByteArray.size_append, hta, hy1]; rfl, by rw [ByteArray.size_append, htb, hx2]; omega, rfl, rfl, rfl, by go_num, HNA.out, HNL.out, HNB.out, HNF.out, HC3.out⟩
          case measure => simp [intOf]; omega
      by_cases h92 : c = 92
      · subst h92
        have HNA := keepf (show ta ++ ⟨#[92]⟩ ++ y = sb (40 :: esL ((sl s).take (k + 1))) from by rw [HVA.out, HTA.out, HY.out, show ByteArray.mk #[92] = sb [92] from rfl, sb_app, sb_app]; simp [esC])
        have HNL := keepf (show m + 1 + 1 = 1 + (esL ((sl s).take (k + 1))).length from by rw [HVA.out, HML.out, List.length_append]; simp [esC]; omega)
        cases f with
        | true =>
          have HNF := keepf (show true = decide (fineT ((sl s).take (k + 1))) from by rw [decide_eq_true (HVF.out.2 ⟨of_decide_eq_true HFI.out.symm, by decide, by decide⟩)])
          go_wp2_with (go_at_call 32; refine (HHX.out _).mono ?_; rintro e w3 ⟨rfl, h3⟩; have HC3 := keepf (HCW.out.trans h3 (fun _ _ e => e)); clear h3)
          go_roundw
          case rel => exact ⟨k + 1, m + 1 + 1, _, _, true, by omega, by omega, by rw [ByteArray.size_append, ByteArray.size_append, hta, hy1]; rfl, by rw [ByteArray.size_append, htb, hx2]; omega, rfl, rfl, rfl, by go_num, HNA.out, HNL.out, HNB.out, HNF.out, HC3.out⟩
          case measure => simp [intOf]; omega
        | false =>
          have HNF := keepf (show false = decide (fineT ((sl s).take (k + 1))) from by rw [decide_eq_false (fun e => of_decide_eq_false HFI.out.symm (HVF.out.1 e).1)])
          go_wp2_with (go_at_call 32; refine (HHX.out _).mono ?_; rintro e w3 ⟨rfl, h3⟩; have HC3 := keepf (HCW.out.trans h3 (fun _ _ e => e)); clear h3)
          go_roundw
          case rel => exact ⟨k + 1, m + 1 + 1, _, _, false, by omega, by omega, by rw [ByteArray.size_append, ByteArray.size_append, hta, hy1]; rfl, by rw [ByteArray.size_append, htb, hx2]; omega, rfl, rfl, rfl, by go_num, HNA.out, HNL.out, HNB.out, HNF.out, HC3.out⟩
          case measure => simp [intOf]; omega
      have e1 : ((c : Int) == 40) = false := by simp; omega
      have e1' : (c == 40) = false := by simp; omega
      have e2 : ((c : Int) == 41) = false := by simp; omega
      have e2' : (c == 41) = false := by simp; omega
      have e3 : ((c : Int) == 92) = false := by simp; omega
      have e3' : (c == 92) = false := by simp; omega
      have HES := keepf (show esC c = [c] from by unfold esC; rw [if_neg (by omega)])
      have HNA := keepf (show ta ++ y = sb (40 :: esL ((sl s).take (k + 1))) from by rw [HVA.out, HTA.out, HY.out, HES.out, sb_app]; rfl)
      have HNL := keepf (show m + 1 = 1 + (esL ((sl s).take (k + 1))).length from by rw [HVA.out, HML.out, HES.out, List.length_append]; simp only [List.length_cons, List.length_nil]; omega)
      clear h40 h41 h92
      cases f with
      | false =>
        have HNF := keepf (show false = decide (fineT ((sl s).take (k + 1))) from by rw [decide_eq_false (fun e => of_decide_eq_false HFI.out.symm (HVF.out.1 e).1)])
        go_wp2_with (go_at_call 32; refine (HHX.out _).mono ?_; rintro e w3 ⟨rfl, h3⟩; have HC3 := keepf (HCW.out.trans h3 (fun _ _ e => e)); clear h3)
        go_roundw
        case rel => exact ⟨k + 1, m + 1, _, _, false, by omega, by omega, by rw [ByteArray.size_append, hta, hy1], by rw [ByteArray.size_append, htb, hx2]; omega, rfl, rfl, rfl, by go_num, HNA.out, HNL.out, HNB.out, HNF.out, HC3.out⟩
        case measure => simp [intOf]; omega
      | true =>
        by_cases h1 : 32 ≤ c
        · have d1 : decide ((32 : Int) ≤ c) = true := by simp; omega
          have d1' : decide (32 ≤ c) = true := by simp; omega
          by_cases h2 : c ≤ 126
          · have d2 : decide ((c : Int) ≤ 126) = true := by simp; omega
            have d2' : decide (c ≤ 126) = true := by simp; omega
            have HNF := keepf (show true = decide (fineT ((sl s).take (k + 1))) from by rw [decide_eq_true (HVF.out.2 ⟨of_decide_eq_true HFI.out.symm, h1, h2⟩)])
            clear h1 h2
            go_wp2_with (go_at_call 32; refine (HHX.out _).mono ?_; rintro e w3 ⟨rfl, h3⟩; have HC3 := keepf (HCW.out.trans h3 (fun _ _ e => e)); clear h3)
            go_roundw
            case rel => exact ⟨k + 1, m + 1, _, _, true, by omega, by omega, by rw [ByteArray.size_append, hta, hy1], by rw [ByteArray.size_append, htb, hx2]; omega, rfl, rfl, rfl, by go_num, HNA.out, HNL.out, HNB.out, HNF.out, HC3.out⟩
            case measure => simp [intOf]; omega
          · have d2 : decide ((c : Int) ≤ 126) = false := by simp; omega
            have d2' : decide (c ≤ 126) = false := by simp; omega
            have HNF := keepf (show false = decide (fineT ((sl s).take (k + 1))) from by rw [decide_eq_false (fun e => h2 (HVF.out.1 e).2.2)])
            clear h1 h2
            go_wp2_with (go_at_call 32; refine (HHX.out _).mono ?_; rintro e w3 ⟨rfl, h3⟩; have HC3 := keepf (HCW.out.trans h3 (fun _ _ e => e)); clear h3)
            go_roundw
            case rel => exact ⟨k + 1, m + 1, _, _, false, by omega, by omega, by rw [ByteArray.size_append, hta, hy1], by rw [ByteArray.size_append, htb, hx2]; omega, rfl, rfl, rfl, by go_num, HNA.out, HNL.out, HNB.out, HNF.out, HC3.out⟩
            case measure => simp [intOf]; omega
        · have d1 : decide ((32 : Int) ≤ c) = false := by simp; omega
          have d1' : decide (32 ≤ c) = false := by simp; omega
          have HNF := keepf (show false = decide (fineT ((sl s).take (k + 1))) from by rw [decide_eq_false (fun e => h1 (HVF.out.1 e).2.1)])
          clear h1
          go_wp2_with (go_at_call 32; refine (HHX.out _).mono ?_; rintro e w3 ⟨rfl, h3⟩; have HC3 := keepf (HCW.out.trans h3 (fun _ _ e => e)); clear h3)
          go_roundw
          case rel => exact ⟨k + 1, m + 1, _, _, false, by omega, by omega, by rw [ByteArray.size_append, hta, hy1], by rw [ByteArray.size_append, htb, hx2]; omega, rfl, rfl, rfl, by go_num, HNA.out, HNL.out, HNB.out, HNF.out, HC3.out⟩
          case measure => simp [intOf]; omega
    · obtain rfl : k = n := by omega
      have ht : (sl s).take k = sl s := List.take_of_length_le (by rw [HN.out]; exact Nat.le_refl _)
      have i1 : ¬ 9223372036854775807 < m + 1 := by omega
      have i3 : ¬ 9223372036854775807 < 2 * k + 1 + 1 := by omega
      cases f with
      | true =>
        have HE := keepf (show ta ++ ⟨#[41]⟩ = sb (txF (sl s)) from by
          have hf := of_decide_eq_true HFI.out.symm
          rw [ht] at hf
          rw [HTA.out, ht, show ByteArray.mk #[41] = sb [41] from rfl, sb_app]
          unfold txF
          rw [if_pos hf]
          rfl)
        clear ht
        go_wp2_with fail
        go_ret
        exact ⟨by rw [← HE.out]; rfl, HCW.out⟩
      | false =>
        have HE := keepf (show tb ++ ⟨#[62]⟩ = sb (txF (sl s)) from by
          have hf := of_decide_eq_false HFI.out.symm
          rw [ht] at hf
          rw [HTB.out, ht, show ByteArray.mk #[62] = sb [62] from rfl, sb_app]
          unfold txF
          rw [if_neg hf]
          rfl)
        clear ht
        go_wp2_with fail
        go_ret
        exact ⟨by rw [← HE.out]; rfl, HCW.out⟩

end Go.Proofs.YtcehpobjnbgpdaaGreatDoor

/- The document's own Form and Value (layer 13). -/
namespace Go.Proofs.YtcehpobjnbgpdaaGreatDoor
open Go.RowKit
set_option linter.unusedVariables false
set_option linter.unusedSimpArgs false

/-- What the document's own form of a value tells. -/
def PF (t : VT) : Prop := ∀ (c : VC) (w : World), ValIs w t c → (formT t).length ≤ 399000 →
  Calls Tryz.prog 29 #[c.val] w fun e w' => e = .returned (.string (sb (formT t))) ∧ Chg NoS w w'

theorem r13print_any (k n : Int) (s : ByteArray) (A : Option Addr) (len cap : Nat) (w : World) (hc : chkOf k n s.size len = 0) :
    Calls Tryz.prog 55 #[.agg #[.int .i64 k, .int .i64 n, .string s, .slice A len cap]] w fun e w' => e = .returned (.tuple #[.string (sb (numF k n)), .int .i64 0]) ∧ Chg NoS w w' := by
  refine (rprint_any k n s A len cap w).mono fun e w' h => ?_
  unfold PrTo prOf at h
  rw [if_pos hc] at h
  exact h

set_option maxHeartbeats 4000000 in
set_option maxRecDepth 100000 in
theorem rform_null (n : Int) (s : ByteArray) (A : Option Addr) (len cap : Nat) (w : World) :
    Calls Tryz.prog 29 #[.agg #[.int .i64 0, .int .i64 n, .string s, .slice A len cap]] w fun e w' => e = .returned (.string (sb ([110, 117, 108, 108]))) ∧ Chg NoS w w' := by
  have HB := keepf (Blk.new w 24 #[.int .i64 0, .int .i64 n, .string s, .slice A len cap])
  have HC0 := keepf ((Chg.refl NoS w).alloc (.cells #[.int .i64 0, .int .i64 n, .string s, .slice A len cap] 24))
  obtain ⟨W1, hW1⟩ : ∃ W1, W1 = w.alloc (.cells #[.int .i64 0, .int .i64 n, .string s, .slice A len cap] 24) := ⟨_, rfl⟩
  obtain ⟨g, hg⟩ : ∃ g, g = w.heap.size := ⟨_, rfl⟩
  rw [← hW1] at HB HC0
  rw [← hg] at HB
  go_enter Tryz.func29, Tryz.ntmps29
  go_upto_region 1 with fail
  rw [← hg, ← hW1]
  clear hg hW1
  have q0 := HB.out.cell 0
  have q1 := HB.out.cell 1
  have q2 := HB.out.cell 2
  have q3 := HB.out.cell 3
  simp at q0 q1 q2 q3
  go_wp2_with fail
  go_ret
  exact ⟨rfl, HC0.out⟩

set_option maxHeartbeats 4000000 in
set_option maxRecDepth 100000 in
theorem rform_true (s : ByteArray) (A : Option Addr) (len cap : Nat) (w : World) :
    Calls Tryz.prog 29 #[.agg #[.int .i64 1, .int .i64 1, .string s, .slice A len cap]] w fun e w' => e = .returned (.string (sb ([116, 114, 117, 101]))) ∧ Chg NoS w w' := by
  have HB := keepf (Blk.new w 24 #[.int .i64 1, .int .i64 1, .string s, .slice A len cap])
  have HC0 := keepf ((Chg.refl NoS w).alloc (.cells #[.int .i64 1, .int .i64 1, .string s, .slice A len cap] 24))
  obtain ⟨W1, hW1⟩ : ∃ W1, W1 = w.alloc (.cells #[.int .i64 1, .int .i64 1, .string s, .slice A len cap] 24) := ⟨_, rfl⟩
  obtain ⟨g, hg⟩ : ∃ g, g = w.heap.size := ⟨_, rfl⟩
  rw [← hW1] at HB HC0
  rw [← hg] at HB
  go_enter Tryz.func29, Tryz.ntmps29
  go_upto_region 1 with fail
  rw [← hg, ← hW1]
  clear hg hW1
  have q0 := HB.out.cell 0
  have q1 := HB.out.cell 1
  have q2 := HB.out.cell 2
  have q3 := HB.out.cell 3
  simp at q0 q1 q2 q3
  go_wp2_with fail
  go_ret
  exact ⟨rfl, HC0.out⟩

set_option maxHeartbeats 4000000 in
set_option maxRecDepth 100000 in
theorem rform_false (s : ByteArray) (A : Option Addr) (len cap : Nat) (w : World) :
    Calls Tryz.prog 29 #[.agg #[.int .i64 1, .int .i64 0, .string s, .slice A len cap]] w fun e w' => e = .returned (.string (sb ([102, 97, 108, 115, 101]))) ∧ Chg NoS w w' := by
  have HB := keepf (Blk.new w 24 #[.int .i64 1, .int .i64 0, .string s, .slice A len cap])
  have HC0 := keepf ((Chg.refl NoS w).alloc (.cells #[.int .i64 1, .int .i64 0, .string s, .slice A len cap] 24))
  obtain ⟨W1, hW1⟩ : ∃ W1, W1 = w.alloc (.cells #[.int .i64 1, .int .i64 0, .string s, .slice A len cap] 24) := ⟨_, rfl⟩
  obtain ⟨g, hg⟩ : ∃ g, g = w.heap.size := ⟨_, rfl⟩
  rw [← hW1] at HB HC0
  rw [← hg] at HB
  go_enter Tryz.func29, Tryz.ntmps29
  go_upto_region 1 with fail
  rw [← hg, ← hW1]
  clear hg hW1
  have q0 := HB.out.cell 0
  have q1 := HB.out.cell 1
  have q2 := HB.out.cell 2
  have q3 := HB.out.cell 3
  simp at q0 q1 q2 q3
  go_wp2_with fail
  go_ret
  exact ⟨rfl, HC0.out⟩

set_option maxHeartbeats 4000000 in
set_option maxRecDepth 100000 in
theorem rform_int (n : Int) (s : ByteArray) (A : Option Addr) (len cap : Nat) (hc : chkOf 2 n s.size len = 0) (w : World) :
    Calls Tryz.prog 29 #[.agg #[.int .i64 2, .int .i64 n, .string s, .slice A len cap]] w fun e w' => e = .returned (.string (sb (numF 2 n))) ∧ Chg NoS w w' := by
  have HB := keepf (Blk.new w 24 #[.int .i64 2, .int .i64 n, .string s, .slice A len cap])
  have HC0 := keepf ((Chg.refl NoS w).alloc (.cells #[.int .i64 2, .int .i64 n, .string s, .slice A len cap] 24))
  obtain ⟨W1, hW1⟩ : ∃ W1, W1 = w.alloc (.cells #[.int .i64 2, .int .i64 n, .string s, .slice A len cap] 24) := ⟨_, rfl⟩
  obtain ⟨g, hg⟩ : ∃ g, g = w.heap.size := ⟨_, rfl⟩
  rw [← hW1] at HB HC0
  rw [← hg] at HB
  have HN := keepf (fun X => r13print_any 2 n s A len cap X hc)
  obtain ⟨S, hS⟩ : ∃ S, S = sb (numF 2 n) := ⟨_, rfl⟩
  rw [← hS] at HN ⊢
  clear hc hS
  go_enter Tryz.func29, Tryz.ntmps29
  go_upto_region 1 with fail
  rw [← hg, ← hW1]
  clear hg hW1
  have q0 := HB.out.cell 0
  have q1 := HB.out.cell 1
  have q2 := HB.out.cell 2
  have q3 := HB.out.cell 3
  simp at q0 q1 q2 q3
  go_wp2_with (go_at_call 55; refine (HN.out _).mono ?_; rintro e w3 ⟨rfl, h3⟩; have HC3 := keepf (HC0.out.trans h3 (fun _ _ e => e)); clear h3)
  go_ret
  exact ⟨rfl, HC3.out⟩

set_option maxHeartbeats 4000000 in
set_option maxRecDepth 100000 in
theorem rform_real (n : Int) (s : ByteArray) (A : Option Addr) (len cap : Nat) (hc : chkOf 3 n s.size len = 0) (w : World) :
    Calls Tryz.prog 29 #[.agg #[.int .i64 3, .int .i64 n, .string s, .slice A len cap]] w fun e w' => e = .returned (.string (sb (numF 3 n))) ∧ Chg NoS w w' := by
  have HB := keepf (Blk.new w 24 #[.int .i64 3, .int .i64 n, .string s, .slice A len cap])
  have HC0 := keepf ((Chg.refl NoS w).alloc (.cells #[.int .i64 3, .int .i64 n, .string s, .slice A len cap] 24))
  obtain ⟨W1, hW1⟩ : ∃ W1, W1 = w.alloc (.cells #[.int .i64 3, .int .i64 n, .string s, .slice A len cap] 24) := ⟨_, rfl⟩
  obtain ⟨g, hg⟩ : ∃ g, g = w.heap.size := ⟨_, rfl⟩
  rw [← hW1] at HB HC0
  rw [← hg] at HB
  have HN := keepf (fun X => r13print_any 3 n s A len cap X hc)
  obtain ⟨S, hS⟩ : ∃ S, S = sb (numF 3 n) := ⟨_, rfl⟩
  rw [← hS] at HN ⊢
  clear hc hS
  go_enter Tryz.func29, Tryz.ntmps29
  go_upto_region 1 with fail
  rw [← hg, ← hW1]
  clear hg hW1
  have q0 := HB.out.cell 0
  have q1 := HB.out.cell 1
  have q2 := HB.out.cell 2
  have q3 := HB.out.cell 3
  simp at q0 q1 q2 q3
  go_wp2_with (go_at_call 55; refine (HN.out _).mono ?_; rintro e w3 ⟨rfl, h3⟩; have HC3 := keepf (HC0.out.trans h3 (fun _ _ e => e)); clear h3)
  go_ret
  exact ⟨rfl, HC3.out⟩

set_option maxHeartbeats 4000000 in
set_option maxRecDepth 100000 in
theorem rform_text (n : Int) (s : ByteArray) (A : Option Addr) (len cap : Nat) (hs : s.size ≤ 400000) (w : World) :
    Calls Tryz.prog 29 #[.agg #[.int .i64 4, .int .i64 n, .string s, .slice A len cap]] w fun e w' => e = .returned (.string (sb (txF (sl s)))) ∧ Chg NoS w w' := by
  have HB := keepf (Blk.new w 24 #[.int .i64 4, .int .i64 n, .string s, .slice A len cap])
  have HC0 := keepf ((Chg.refl NoS w).alloc (.cells #[.int .i64 4, .int .i64 n, .string s, .slice A len cap] 24))
  obtain ⟨W1, hW1⟩ : ∃ W1, W1 = w.alloc (.cells #[.int .i64 4, .int .i64 n, .string s, .slice A len cap] 24) := ⟨_, rfl⟩
  obtain ⟨g, hg⟩ : ∃ g, g = w.heap.size := ⟨_, rfl⟩
  rw [← hW1] at HB HC0
  rw [← hg] at HB
  have HN := keepf (fun X => r13text_any s X hs)
  obtain ⟨S, hS⟩ : ∃ S, S = sb (txF (sl s)) := ⟨_, rfl⟩
  rw [← hS] at HN ⊢
  clear hS
  go_enter Tryz.func29, Tryz.ntmps29
  go_upto_region 1 with fail
  rw [← hg, ← hW1]
  clear hg hW1
  have q0 := HB.out.cell 0
  have q1 := HB.out.cell 1
  have q2 := HB.out.cell 2
  have q3 := HB.out.cell 3
  simp at q0 q1 q2 q3
  go_wp2_with (go_at_call 15; refine (HN.out _).mono ?_; rintro e w3 ⟨rfl, h3⟩; have HC3 := keepf (HC0.out.trans h3 (fun _ _ e => e)); clear h3)
  go_ret
  exact ⟨rfl, HC3.out⟩

set_option maxHeartbeats 4000000 in
set_option maxRecDepth 100000 in
theorem rform_name (n : Int) (s : ByteArray) (A : Option Addr) (len cap : Nat) (hs : textO s) (w : World) :
    Calls Tryz.prog 29 #[.agg #[.int .i64 5, .int .i64 n, .string s, .slice A len cap]] w fun e w' => e = .returned (.string (sb (nmF (sl s)))) ∧ Chg NoS w w' := by
  have HB := keepf (Blk.new w 24 #[.int .i64 5, .int .i64 n, .string s, .slice A len cap])
  have HC0 := keepf ((Chg.refl NoS w).alloc (.cells #[.int .i64 5, .int .i64 n, .string s, .slice A len cap] 24))
  obtain ⟨W1, hW1⟩ : ∃ W1, W1 = w.alloc (.cells #[.int .i64 5, .int .i64 n, .string s, .slice A len cap] 24) := ⟨_, rfl⟩
  obtain ⟨g, hg⟩ : ∃ g, g = w.heap.size := ⟨_, rfl⟩
  rw [← hW1] at HB HC0
  rw [← hg] at HB
  have HN := keepf (fun X => r13name_any s X (by have := hs.2; omega))
  have e1 : nameT s = (nmF (sl s), 0) := by unfold nameT; rw [if_pos hs]
  rw [e1] at HN
  simp only [] at HN
  obtain ⟨S, hS⟩ : ∃ S, S = sb (nmF (sl s)) := ⟨_, rfl⟩
  rw [← hS] at HN ⊢
  clear hS e1 hs
  go_enter Tryz.func29, Tryz.ntmps29
  go_upto_region 1 with fail
  rw [← hg, ← hW1]
  clear hg hW1
  have q0 := HB.out.cell 0
  have q1 := HB.out.cell 1
  have q2 := HB.out.cell 2
  have q3 := HB.out.cell 3
  simp at q0 q1 q2 q3
  go_wp2_with (go_at_call 13; refine (HN.out _).mono ?_; rintro e w3 ⟨rfl, h3⟩; have HC3 := keepf (HC0.out.trans h3 (fun _ _ e => e)); clear h3)
  go_ret
  exact ⟨rfl, HC3.out⟩

set_option maxHeartbeats 4000000 in
set_option maxRecDepth 100000 in
theorem rform_ref (n : Int) (s : ByteArray) (A : Option Addr) (len cap : Nat) (hn1 : 1 ≤ n) (hn2 : n ≤ 4096) (w : World) :
    Calls Tryz.prog 29 #[.agg #[.int .i64 8, .int .i64 n, .string s, .slice A len cap]] w fun e w' => e = .returned (.string (sb (intTxt n ++ [32, 48, 32, 82]))) ∧ Chg NoS w w' := by
  have HB := keepf (Blk.new w 24 #[.int .i64 8, .int .i64 n, .string s, .slice A len cap])
  have HC0 := keepf ((Chg.refl NoS w).alloc (.cells #[.int .i64 8, .int .i64 n, .string s, .slice A len cap] 24))
  obtain ⟨W1, hW1⟩ : ∃ W1, W1 = w.alloc (.cells #[.int .i64 8, .int .i64 n, .string s, .slice A len cap] 24) := ⟨_, rfl⟩
  obtain ⟨g, hg⟩ : ∃ g, g = w.heap.size := ⟨_, rfl⟩
  rw [← hW1] at HB HC0
  rw [← hg] at HB
  have HN := keepf (fun X => r13print_any 2 n ⟨#[]⟩ none 0 0 X (by unfold chkOf; rw [if_pos ⟨rfl, rfl, .inl ⟨rfl, by omega, by omega⟩⟩]))
  obtain ⟨S, hS⟩ : ∃ S, S = sb (numF 2 n) := ⟨_, rfl⟩
  obtain ⟨m, hm⟩ : ∃ m, S.size = m := ⟨_, rfl⟩
  have hm20 : m ≤ 20 := by
    have h1 : (dn n.natAbs).length ≤ 19 := dn_len (by omega)
    have h2 : (signL n).length ≤ 1 := by unfold signL; split <;> simp
    rw [← hm, hS, sb_size]
    show (intTxt n).length ≤ 20
    rw [intTxt, List.length_append, txt_len]
    omega
  have HE := keepf (show S ++ ⟨#[32, 48, 32, 82]⟩ = sb (intTxt n ++ [32, 48, 32, 82]) from by rw [hS, show ByteArray.mk #[32, 48, 32, 82] = sb [32, 48, 32, 82] from rfl, sb_app]; rfl)
  rw [← hS] at HN
  have i1 : ¬ 9223372036854775807 < m + 4 := by omega
  clear hS hn1 hn2
  go_enter Tryz.func29, Tryz.ntmps29
  go_upto_region 1 with fail
  rw [← hg, ← hW1]
  clear hg hW1
  have q0 := HB.out.cell 0
  have q1 := HB.out.cell 1
  have q2 := HB.out.cell 2
  have q3 := HB.out.cell 3
  simp at q0 q1 q2 q3
  go_wp2_with (go_at_call 55; refine (HN.out _).mono ?_; rintro e w3 ⟨rfl, h3⟩; have HC3 := keepf (HC0.out.trans h3 (fun _ _ e => e)); clear h3)
  go_ret
  exact ⟨by rw [← HE.out]; rfl, HC3.out⟩

set_option maxHeartbeats 4000000 in
set_option maxRecDepth 100000 in
theorem rform_array (n : Int) (s : ByteArray) (A : Option Addr) (len cap : Nat) (l : List VT) (hP : ∀ t ∈ l, PF t) (hll : l.length = len) (hm : len ≤ 9223372036854775807) (hl : (formL 0 l).length ≤ 399000) (w : World) (hr : RowIs w A 0 l) :
    Calls Tryz.prog 29 #[.agg #[.int .i64 6, .int .i64 n, .string s, .slice A len cap]] w fun e w' => e = .returned (.string (sb ([91] ++ formL 0 l ++ [93]))) ∧ Chg NoS w w' := by
  have HB := keepf (Blk.new w 24 #[.int .i64 6, .int .i64 n, .string s, .slice A len cap])
  have HC0 := keepf ((Chg.refl NoS w).alloc (.cells #[.int .i64 6, .int .i64 n, .string s, .slice A len cap] 24))
  obtain ⟨W1, hW1⟩ : ∃ W1, W1 = w.alloc (.cells #[.int .i64 6, .int .i64 n, .string s, .slice A len cap] 24) := ⟨_, rfl⟩
  obtain ⟨g, hg⟩ : ∃ g, g = w.heap.size := ⟨_, rfl⟩
  rw [← hW1] at HB HC0
  rw [← hg] at HB
  go_enter Tryz.func29, Tryz.ntmps29
  go_upto_region 1 with fail
  rw [← hg, ← hW1]
  clear hg hW1
  have q0 := HB.out.cell 0
  have q1 := HB.out.cell 1
  have q2 := HB.out.cell 2
  have q3 := HB.out.cell 3
  simp at q0 q1 q2 q3
  have HP := keepf hP
  have HL := keepf hll
  have HR := keepf hr
  have HBL := keepf hl
  clear hP hll hr hl
  go_upto_region 22 with fail
  clear q0 q1 q2 q3
  go_loopw [9, 10] (fun vs vk wr => ∃ (k m : Nat) (ts : ByteArray), k ≤ len ∧ m ≤ 399000 ∧ ts.size = m ∧ vs = .string ts ∧ vk = .int .i64 (k : Nat) ∧ Hid (ts = sb (formL 0 (l.take k))) ∧ Hid (m = (formL 0 (l.take k)).length) ∧ Hid (RowIs w A k (l.drop k)) ∧ Hid (Chg NoS W1 wr)) (fun _ vk _ => len - (intOf vk).toNat)
  case atStart => exact ⟨0, 0, _, by omega, by omega, rfl, rfl, by go_num, by rw [List.take_zero, formL_nil]; rfl, by rw [List.take_zero, formL_nil]; rfl, by rw [List.drop_zero]; exact HR.out, Chg.refl NoS W1⟩
  case round =>
    obtain ⟨k, m, ts, hk, hm3, hts, rfl, rfl, HTS, HML, HRW, HCW⟩ := hrel
    have hbw := HB.out.chg HCW.out (fun h => h)
    have q0 := hbw.cell 0
    have q3 := hbw.cell 3
    simp at q0 q3
    clear hbw
    by_cases hlt : k < len
    · obtain ⟨t', ht', hdd⟩ := drop_vt (l := l) (k := k) (by rw [HL.out]; exact hlt)
      obtain ⟨b, off, rfl⟩ : ∃ b off, A = some ⟨b, off, none⟩ := by
        have h := HR.out
        cases hll : l with
        | nil => rw [hll] at ht'; simp at ht'
        | cons t0 l0 => rw [hll] at h; exact h.start
      have hrw := HRW.out
      rw [hdd] at hrw
      have hcw := HC0.out.trans HCW.out (fun _ _ e => e)
      obtain ⟨ek, en, es, eA, el, ec, c0, c1, c2, c3, hv', hr'⟩ := hrw.at0 hcw
      have HRN := keepf hr'
      have hsn := formL_snoc ht'
      have HV := keepf hsn
      have HVL := keepf (show (formL 0 (l.take (k + 1))).length = m + ((if k = 0 then 0 else 1) + (formT t').length) from by rw [hsn, HML.out, List.length_append, List.length_append, List.length_replicate])
      have hlen := formL_le l (k + 1)
      rw [HVL.out] at hlen
      have hbl := HBL.out
      obtain ⟨S, hS⟩ : ∃ S, S = sb (formT t') := ⟨_, rfl⟩
      obtain ⟨p, hp⟩ : ∃ p, S.size = p := ⟨_, rfl⟩
      have hpl : (formT t').length = p := by rw [← hp, hS, sb_size]
      rw [hpl] at hlen HVL
      have HX := keepf (HP.out t' (List.mem_of_getElem? ht') ⟨ek, en, es, eA, el, ec⟩ wr (hv'.chg hcw) (by rw [hpl]; omega))
      unfold VC.val at HX
      simp only [] at HX
      rw [← hS] at HX
      have i1 : (k : Int) < len := by omega
      by_cases h0 : k = 0
      · subst h0
        simp only [if_true, Nat.zero_add] at hlen HVL
        have HNX := keepf (show ts ++ S = sb (formL 0 (l.take (0 + 1))) from by rw [HV.out, HTS.out, hS, sb_app]; rfl)
        simp only [Nat.zero_mul, Nat.add_zero] at c0 c1 c2 c3
        have j1 : ¬ 9223372036854775807 < m + p := by omega
        clear hrw hv' hr' hdd ht' hsn hcw hpl hS
        go_wp2_with (go_at_call 29; refine HX.out.mono ?_; rintro e w3 ⟨rfl, h3⟩; have HC3 := keepf (HCW.out.trans h3 (fun _ _ e => e)); clear h3)
        go_roundw
        case rel => exact ⟨1, m + p, _, by omega, by omega, by rw [ByteArray.size_append, hts, hp], rfl, by go_num, HNX.out, HVL.out.symm, HRN.out, HC3.out⟩
        case measure => simp [intOf]; omega
      · rw [if_neg h0] at hlen HVL
        have HNX := keepf (show ts ++ ⟨#[32]⟩ ++ S = sb (formL 0 (l.take (k + 1))) from by rw [HV.out, HTS.out, hS, if_neg h0, show ByteArray.mk #[32] = sb [32] from rfl, sb_app, sb_app]; simp)
        have d0 : decide ((0 : Int) < (k : Int)) = true := by simp; omega
        have d0' : decide (0 < k) = true := by simp; omega
        have j1 : ¬ 9223372036854775807 < m + 1 + p := by omega
        have j2 : ¬ 9223372036854775807 < m + 1 := by omega
        clear hrw hv' hr' hdd ht' hsn hcw hpl hS h0
        go_wp2_with (go_at_call 29; refine HX.out.mono ?_; rintro e w3 ⟨rfl, h3⟩; have HC3 := keepf (HCW.out.trans h3 (fun _ _ e => e)); clear h3)
        go_roundw
        case rel => exact ⟨k + 1, m + 1 + p, _, by omega, by omega, by rw [ByteArray.size_append, ByteArray.size_append, hts, hp]; rfl, rfl, by go_num, HNX.out, (show m + 1 + p = _ from by rw [HVL.out]; omega), HRN.out, HC3.out⟩
        case measure => simp [intOf]; omega
    · obtain rfl : k = len := by omega
      have HE := keepf (show ⟨#[91]⟩ ++ ts ++ ⟨#[93]⟩ = sb ([91] ++ formL 0 l ++ [93]) from by rw [HTS.out, List.take_of_length_le (by rw [HL.out]; exact Nat.le_refl _), show ByteArray.mk #[91] = sb [91] from rfl, show ByteArray.mk #[93] = sb [93] from rfl, sb_app, sb_app])
      have HCE := keepf (HC0.out.trans HCW.out (fun _ _ e => e))
      have j1 : ¬ 9223372036854775807 < 1 + m + 1 := by omega
      have j2 : ¬ 9223372036854775807 < 1 + m := by omega
      go_wp2_with fail
      go_ret
      refine ⟨?_, HCE.out⟩
      show Ending.returned (Value.string (⟨#[91]⟩ ++ ts ++ ⟨#[93]⟩)) = _
      rw [HE.out]
      rfl

set_option maxHeartbeats 4000000 in
set_option maxRecDepth 100000 in
theorem rform_dict (n : Int) (s : ByteArray) (A : Option Addr) (len cap : Nat) (l : List VT) (hP : ∀ t ∈ l, PF t) (hll : l.length = len) (hm : len ≤ 9223372036854775807) (hl : (formL 0 l).length ≤ 399000) (w : World) (hr : RowIs w A 0 l) :
    Calls Tryz.prog 29 #[.agg #[.int .i64 7, .int .i64 n, .string s, .slice A len cap]] w fun e w' => e = .returned (.string (sb ([60, 60] ++ formL 0 l ++ [62, 62]))) ∧ Chg NoS w w' := by
  have HB := keepf (Blk.new w 24 #[.int .i64 7, .int .i64 n, .string s, .slice A len cap])
  have HC0 := keepf ((Chg.refl NoS w).alloc (.cells #[.int .i64 7, .int .i64 n, .string s, .slice A len cap] 24))
  obtain ⟨W1, hW1⟩ : ∃ W1, W1 = w.alloc (.cells #[.int .i64 7, .int .i64 n, .string s, .slice A len cap] 24) := ⟨_, rfl⟩
  obtain ⟨g, hg⟩ : ∃ g, g = w.heap.size := ⟨_, rfl⟩
  rw [← hW1] at HB HC0
  rw [← hg] at HB
  go_enter Tryz.func29, Tryz.ntmps29
  go_upto_region 1 with fail
  rw [← hg, ← hW1]
  clear hg hW1
  have q0 := HB.out.cell 0
  have q1 := HB.out.cell 1
  have q2 := HB.out.cell 2
  have q3 := HB.out.cell 3
  simp at q0 q1 q2 q3
  have HP := keepf hP
  have HL := keepf hll
  have HR := keepf hr
  have HBL := keepf hl
  clear hP hll hr hl
  go_upto_region 22 with fail
  clear q0 q1 q2 q3
  go_loopw [9, 10] (fun vs vk wr => ∃ (k m : Nat) (ts : ByteArray), k ≤ len ∧ m ≤ 399000 ∧ ts.size = m ∧ vs = .string ts ∧ vk = .int .i64 (k : Nat) ∧ Hid (ts = sb (formL 0 (l.take k))) ∧ Hid (m = (formL 0 (l.take k)).length) ∧ Hid (RowIs w A k (l.drop k)) ∧ Hid (Chg NoS W1 wr)) (fun _ vk _ => len - (intOf vk).toNat)
  case atStart => exact ⟨0, 0, _, by omega, by omega, rfl, rfl, by go_num, by rw [List.take_zero, formL_nil]; rfl, by rw [List.take_zero, formL_nil]; rfl, by rw [List.drop_zero]; exact HR.out, Chg.refl NoS W1⟩
  case round =>
    obtain ⟨k, m, ts, hk, hm3, hts, rfl, rfl, HTS, HML, HRW, HCW⟩ := hrel
    have hbw := HB.out.chg HCW.out (fun h => h)
    have q0 := hbw.cell 0
    have q3 := hbw.cell 3
    simp at q0 q3
    clear hbw
    by_cases hlt : k < len
    · obtain ⟨t', ht', hdd⟩ := drop_vt (l := l) (k := k) (by rw [HL.out]; exact hlt)
      obtain ⟨b, off, rfl⟩ : ∃ b off, A = some ⟨b, off, none⟩ := by
        have h := HR.out
        cases hll : l with
        | nil => rw [hll] at ht'; simp at ht'
        | cons t0 l0 => rw [hll] at h; exact h.start
      have hrw := HRW.out
      rw [hdd] at hrw
      have hcw := HC0.out.trans HCW.out (fun _ _ e => e)
      obtain ⟨ek, en, es, eA, el, ec, c0, c1, c2, c3, hv', hr'⟩ := hrw.at0 hcw
      have HRN := keepf hr'
      have hsn := formL_snoc ht'
      have HV := keepf hsn
      have HVL := keepf (show (formL 0 (l.take (k + 1))).length = m + ((if k = 0 then 0 else 1) + (formT t').length) from by rw [hsn, HML.out, List.length_append, List.length_append, List.length_replicate])
      have hlen := formL_le l (k + 1)
      rw [HVL.out] at hlen
      have hbl := HBL.out
      obtain ⟨S, hS⟩ : ∃ S, S = sb (formT t') := ⟨_, rfl⟩
      obtain ⟨p, hp⟩ : ∃ p, S.size = p := ⟨_, rfl⟩
      have hpl : (formT t').length = p := by rw [← hp, hS, sb_size]
      rw [hpl] at hlen HVL
      have HX := keepf (HP.out t' (List.mem_of_getElem? ht') ⟨ek, en, es, eA, el, ec⟩ wr (hv'.chg hcw) (by rw [hpl]; omega))
      unfold VC.val at HX
      simp only [] at HX
      rw [← hS] at HX
      have i1 : (k : Int) < len := by omega
      by_cases h0 : k = 0
      · subst h0
        simp only [if_true, Nat.zero_add] at hlen HVL
        have HNX := keepf (show ts ++ S = sb (formL 0 (l.take (0 + 1))) from by rw [HV.out, HTS.out, hS, sb_app]; rfl)
        simp only [Nat.zero_mul, Nat.add_zero] at c0 c1 c2 c3
        have j1 : ¬ 9223372036854775807 < m + p := by omega
        clear hrw hv' hr' hdd ht' hsn hcw hpl hS
        go_wp2_with (go_at_call 29; refine HX.out.mono ?_; rintro e w3 ⟨rfl, h3⟩; have HC3 := keepf (HCW.out.trans h3 (fun _ _ e => e)); clear h3)
        go_roundw
        case rel => exact ⟨1, m + p, _, by omega, by omega, by rw [ByteArray.size_append, hts, hp], rfl, by go_num, HNX.out, HVL.out.symm, HRN.out, HC3.out⟩
        case measure => simp [intOf]; omega
      · rw [if_neg h0] at hlen HVL
        have HNX := keepf (show ts ++ ⟨#[32]⟩ ++ S = sb (formL 0 (l.take (k + 1))) from by rw [HV.out, HTS.out, hS, if_neg h0, show ByteArray.mk #[32] = sb [32] from rfl, sb_app, sb_app]; simp)
        have d0 : decide ((0 : Int) < (k : Int)) = true := by simp; omega
        have d0' : decide (0 < k) = true := by simp; omega
        have j1 : ¬ 9223372036854775807 < m + 1 + p := by omega
        have j2 : ¬ 9223372036854775807 < m + 1 := by omega
        clear hrw hv' hr' hdd ht' hsn hcw hpl hS h0
        go_wp2_with (go_at_call 29; refine HX.out.mono ?_; rintro e w3 ⟨rfl, h3⟩; have HC3 := keepf (HCW.out.trans h3 (fun _ _ e => e)); clear h3)
        go_roundw
        case rel => exact ⟨k + 1, m + 1 + p, _, by omega, by omega, by rw [ByteArray.size_append, ByteArray.size_append, hts, hp]; rfl, rfl, by go_num, HNX.out, (show m + 1 + p = _ from by rw [HVL.out]; omega), HRN.out, HC3.out⟩
        case measure => simp [intOf]; omega
    · obtain rfl : k = len := by omega
      have HE := keepf (show ⟨#[60, 60]⟩ ++ ts ++ ⟨#[62, 62]⟩ = sb ([60, 60] ++ formL 0 l ++ [62, 62]) from by rw [HTS.out, List.take_of_length_le (by rw [HL.out]; exact Nat.le_refl _), show ByteArray.mk #[60, 60] = sb [60, 60] from rfl, show ByteArray.mk #[62, 62] = sb [62, 62] from rfl, sb_app, sb_app])
      have HCE := keepf (HC0.out.trans HCW.out (fun _ _ e => e))
      have j1 : ¬ 9223372036854775807 < 2 + m + 2 := by omega
      have j2 : ¬ 9223372036854775807 < 2 + m := by omega
      go_wp2_with fail
      go_ret
      refine ⟨?_, HCE.out⟩
      show Ending.returned (Value.string (⟨#[60, 60]⟩ ++ ts ++ ⟨#[62, 62]⟩)) = _
      rw [HE.out]
      rfl

/-- The document's own form of a value that may be. -/
theorem pf_any : ∀ (N : Nat) (t : VT), sizT t ≤ N → firstT t = 0 → PF t := by
  intro N
  induction N using Nat.strongRecOn with
  | _ N ih =>
    intro t hN hf c w hv hl
    obtain ⟨k, n, s, l⟩ := t
    rw [sizT_mk] at hN
    obtain ⟨ck, cn, cs, A, len, cap⟩ := c
    obtain ⟨e1, e2, e3, hg, hll, hr⟩ := hv.inv
    simp only [] at e1 e2 e3 hll hr
    subst e1 e2 e3
    have hlm := hg.len
    simp only [] at hlm
    unfold maxLen at hlm
    have hin : ck = 6 ∨ ck = 7 → ∀ x ∈ l, PF x := fun hk x hx => by
      have hfx := first_in hk hf x hx
      obtain ⟨i, hi, rfl⟩ := List.mem_iff_getElem.1 hx
      have := sizL_at (List.getElem?_eq_getElem hi)
      exact ih (N - 1) (by omega) _ (by omega) hfx
    have ho := own_zero hf
    unfold VC.val
    simp only []
    rcases kind_of ho with rfl | rfl | rfl | rfl | rfl | rfl | rfl | rfl | rfl
    · rw [form_0] at hl ⊢
      exact rform_null cn cs A len cap w
    · rw [own_1] at ho
      split at ho
      · next hh =>
        rcases hh.2.2 with rfl | rfl
        · rw [form_1, if_neg (by decide)] at hl ⊢
          exact rform_false cs A len cap w
        · rw [form_1, if_pos rfl] at hl ⊢
          exact rform_true cs A len cap w
      · cases ho
    · rw [own_2, hll] at ho
      rw [form_2] at hl ⊢
      exact rform_int cn cs A len cap ho w
    · rw [own_3, hll] at ho
      rw [form_3] at hl ⊢
      exact rform_real cn cs A len cap ho w
    · rw [form_4] at hl ⊢
      exact rform_text cn cs A len cap (by
        unfold txF at hl
        split at hl
        · have := esL_ge (sl cs)
          rw [sl_len] at this
          simp only [List.length_cons, List.length_append, List.length_nil] at hl
          omega
        · have := hxL_two (sl cs)
          rw [sl_len] at this
          simp only [List.length_cons, List.length_append, List.length_nil] at hl
          omega) w
    · rw [own_5] at ho
      split at ho
      · cases ho
      · next hh =>
        rw [form_5] at hl ⊢
        exact rform_name cn cs A len cap (Decidable.not_not.1 hh) w
    · have e : formT (.mk 6 cn cs l) = [91] ++ formL 0 l ++ [93] := by rw [form_6]; rfl
      rw [e] at hl ⊢
      simp only [List.length_cons, List.length_append, List.length_nil] at hl
      exact rform_array cn cs A len cap l (hin (.inl rfl)) hll hlm (by omega) w hr
    · have e : formT (.mk 7 cn cs l) = [60, 60] ++ formL 0 l ++ [62, 62] := by rw [form_7]; rfl
      rw [e] at hl ⊢
      simp only [List.length_cons, List.length_append, List.length_nil] at hl
      exact rform_dict cn cs A len cap l (hin (.inr rfl)) hll hlm (by omega) w hr
    · rw [own_8] at ho
      split at ho
      · next hh =>
        rw [form_8] at hl ⊢
        exact rform_ref cn cs A len cap hh.2.2.1 hh.2.2.2 w
      · cases ho

set_option maxHeartbeats 4000000 in
set_option maxRecDepth 100000 in
theorem r13value_any (t : VT) (c : VC) (w : World) (hv : ValIs w t c) (hs : sizT t ≤ 1000000) (hl : checkT t = 0 → (formT t).length ≤ 350000) :
    Calls Tryz.prog 10 #[c.val] w fun e w' => e = .returned (.tuple #[.string (sb (showO t)), .int .i64 (checkT t)]) ∧ Chg NoS w w' := by
  have HCK := keepf (fun X (hX : Chg NoS w X) => rcheck11_any t c X (hv.chg hX) (by omega))
  have HFV := keepf (fun (hf : firstT t = 0) (h2 : (formT t).length ≤ 399000) X (hX : Chg NoS w X) => pf_any _ t (Nat.le_refl _) hf c X (hv.chg hX) h2)
  have HSH := keepf (show showO t = if checkT t = 0 then formT t else [] from rfl)
  obtain ⟨ck, cn, cs, A, len, cap⟩ := c
  unfold VC.val at HCK HFV ⊢
  simp only [] at HCK HFV ⊢
  have HB := keepf (Blk.new w 24 #[.int .i64 ck, .int .i64 cn, .string cs, .slice A len cap])
  have HC0 := keepf ((Chg.refl NoS w).alloc (.cells #[.int .i64 ck, .int .i64 cn, .string cs, .slice A len cap] 24))
  obtain ⟨W1, hW1⟩ : ∃ W1, W1 = w.alloc (.cells #[.int .i64 ck, .int .i64 cn, .string cs, .slice A len cap] 24) := ⟨_, rfl⟩
  obtain ⟨g, hg⟩ : ∃ g, g = w.heap.size := ⟨_, rfl⟩
  rw [← hW1] at HB HC0
  rw [← hg] at HB
  obtain ⟨z, hz⟩ : ∃ z, z = checkT t := ⟨_, rfl⟩
  rw [← hz] at HCK HSH hl ⊢
  have HZ := keepf hz
  clear hv hz
  by_cases h0 : z = 0
  · subst h0
    have hlen := hl rfl
    have HE := keepf (show showO t = formT t from by rw [HSH.out, if_pos rfl])
    have hf := first_of HZ.out.symm
    have HFF := keepf (HFV.out hf (by omega))
    rw [HE.out]
    obtain ⟨S, hS⟩ : ∃ S, S = sb (formT t) := ⟨_, rfl⟩
    rw [← hS] at HFF ⊢
    clear hl hf HSH hS
    go_enter Tryz.func10, Tryz.ntmps10
    go_upto_region 1 with fail
    rw [← hg, ← hW1]
    clear hg hW1
    have q0 := HB.out.cell 0
    have q1 := HB.out.cell 1
    have q2 := HB.out.cell 2
    have q3 := HB.out.cell 3
    simp at q0 q1 q2 q3
    go_upto_region 2 with (go_at_call 28; refine (HCK.out _ HC0.out).mono ?_; rintro e w2 ⟨rfl, h2⟩; have HC2 := keepf (HC0.out.trans h2 (fun _ _ e => e)); have HB2 := keepf (HB.out.chg h2 (fun h => h)); clear h2)
    clear q0 q1 q2 q3
    have q0 := HB2.out.cell 0
    have q1 := HB2.out.cell 1
    have q2 := HB2.out.cell 2
    have q3 := HB2.out.cell 3
    simp at q0 q1 q2 q3
    go_wp2_with (go_at_call 29; refine (HFF.out _ HC2.out).mono ?_; rintro e w4 ⟨rfl, h4⟩; have HC4 := keepf (HC2.out.trans h4 (fun _ _ e => e)); clear h4)
    go_ret2
    exact ⟨rfl, HC4.out⟩
  · have HE := keepf (show showO t = [] from by rw [HSH.out, if_neg h0])
    have d0 : (z == 0) = false := by simpa using h0
    have d0' : (z != 0) = true := by simpa using h0
    rw [HE.out]
    clear hl h0 HSH HFV
    go_enter Tryz.func10, Tryz.ntmps10
    go_upto_region 1 with fail
    rw [← hg, ← hW1]
    clear hg hW1
    have q0 := HB.out.cell 0
    have q1 := HB.out.cell 1
    have q2 := HB.out.cell 2
    have q3 := HB.out.cell 3
    simp at q0 q1 q2 q3
    go_wp2_with (go_at_call 28; refine (HCK.out _ HC0.out).mono ?_; rintro e w2 ⟨rfl, h2⟩; have HC2 := keepf (HC0.out.trans h2 (fun _ _ e => e)); clear h2)
    go_ret2
    exact ⟨rfl, HC2.out⟩

end Go.Proofs.YtcehpobjnbgpdaaGreatDoor

/- ShowValues: the walk. -/
namespace Go.Proofs.YtcehpobjnbgpdaaGreatDoor
open Go.RowKit
set_option linter.unusedVariables false
set_option linter.unusedSimpArgs false

theorem form_300 {t : VT} (h : smallB t = true) (hc : checkT t = 0) : (formT t).length ≤ 300000 := by
  obtain ⟨h1, h2⟩ := smallB_true h
  have := form_len _ t (Nat.le_refl _) (first_of hc) h2
  omega

set_option maxHeartbeats 4000000 in
set_option maxRecDepth 100000 in
theorem showValuesW (t : VT) (c : VC) (w : World) (hv : ValIs w t c) (hL : LibOk w) :
    Calls Tryz.prog 3 #[c.val] w fun e w' => e = .returned (.bool true) ∧ Chg NoS w w' := by
  have HS := keepf (fun W (h : Chg NoS w W) => small13_any t c W (hv.chg h))
  have HW := keepf (fun W (h : Chg NoS w W) => works_any13 W (hL.chg h))
  obtain ⟨b, hb⟩ : ∃ b, smallB t = b := ⟨_, rfl⟩
  rw [hb] at HS
  have HSH := keepf (fun (hs : smallB t = true) W (h : Chg NoS w W) => show_any t c W (hL.chg h) (hv.chg h) (by have := (smallB_true hs).1; omega) (fun hc => by have := form_300 hs hc; omega))
  have HLN := keepf (fun (hs : smallB t = true) W (h : Chg NoS w W) => slen_any t c W (hL.chg h) (hv.chg h) (by have := (smallB_true hs).1; omega) (fun hc => by have := form_300 hs hc; omega))
  have HRF := keepf (fun (hs : smallB t = true) W (h : Chg NoS w W) => r13value_any t c W (hv.chg h) (by have := (smallB_true hs).1; omega) (fun hc => by have := form_300 hs hc; omega))
  obtain ⟨S, hS⟩ : ∃ S, S = sb (showO t) := ⟨_, rfl⟩
  obtain ⟨m, hm⟩ : ∃ m, m = (showO t).length := ⟨_, rfl⟩
  have hSm : S.size = m := by rw [hS, sb_size, hm]
  obtain ⟨z, hz⟩ : ∃ z, z = checkT t := ⟨_, rfl⟩
  rw [← hS, ← hz] at HSH HRF
  rw [← hm] at HLN
  obtain ⟨k, n, s, A, len, cap⟩ := c
  unfold VC.val at HS HSH HLN HRF ⊢
  simp only [] at HS HSH HLN HRF ⊢
  have HB := keepf (Blk.new w 24 #[.int .i64 k, .int .i64 n, .string s, .slice A len cap])
  have HC0 := keepf ((Chg.refl NoS w).alloc (.cells #[.int .i64 k, .int .i64 n, .string s, .slice A len cap] 24))
  obtain ⟨W1, hW1⟩ : ∃ W1, W1 = w.alloc (.cells #[.int .i64 k, .int .i64 n, .string s, .slice A len cap] 24) := ⟨_, rfl⟩
  obtain ⟨g, hg⟩ : ∃ g, g = w.heap.size := ⟨_, rfl⟩
  rw [← hW1] at HB HC0
  rw [← hg] at HB
  have HV := keepf (⟨HB.out, HC0.out⟩ : VBx w g #[.int .i64 k, .int .i64 n, .string s, .slice A len cap] W1)
  clear hv hL hS hm hz HB HC0
  cases b with
  | false =>
    clear HSH HLN HRF hb
    go_enter Tryz.func3, Tryz.ntmps3
    go_upto_region 1 with fail
    rw [← hg, ← hW1]
    clear hg hW1
    obtain ⟨q0, q1, q2, q3⟩ := HV.out.cells
    go_wp2_with first
      | (go_at_call 7; refine (HS.out _ HV.out.chg).mono ?_; rintro e w2 ⟨rfl, h2⟩; have HV2 := keepf (HV.out.call h2); clear h2)
      | (go_at_call 8; refine (HW.out _ HV2.out.chg).mono ?_; rintro e w3 ⟨rfl, h3⟩; have HV3 := keepf (HV2.out.call h3); clear h3)
    go_ret
    exact ⟨rfl, HV3.out.chg⟩
  | true =>
    have HS1 := keepf (HSH.out hb)
    have HL1 := keepf (HLN.out hb)
    have HR1 := keepf (HRF.out hb)
    clear HSH HLN HRF hb
    go_enter Tryz.func3, Tryz.ntmps3
    go_upto_region 1 with fail
    rw [← hg, ← hW1]
    clear hg hW1
    obtain ⟨q0, q1, q2, q3⟩ := HV.out.cells
    go_upto_region 3 with (go_at_call 7; refine (HS.out _ HV.out.chg).mono ?_; rintro e w2 ⟨rfl, h2⟩; have HV2 := keepf (HV.out.call h2); clear h2)
    clear q0 q1 q2 q3
    obtain ⟨q0, q1, q2, q3⟩ := HV2.out.cells
    go_upto_region 4 with (go_at_call 9; refine (HS1.out _ HV2.out.chg).mono ?_; rintro e w3 ⟨rfl, h3⟩; have HV3 := keepf (HV2.out.call h3); clear h3)
    clear q0 q1 q2 q3
    obtain ⟨q0, q1, q2, q3⟩ := HV3.out.cells
    go_upto_region 5 with (go_at_call 10; refine (HR1.out _ HV3.out.chg).mono ?_; rintro e w4 ⟨rfl, h4⟩; have HV4 := keepf (HV3.out.call h4); clear h4)
    clear q0 q1 q2 q3
    obtain ⟨q0, q1, q2, q3⟩ := HV4.out.cells
    go_wp2_with first
      | (go_at_call 11; refine (HL1.out _ HV4.out.chg).mono ?_; rintro e w5 ⟨rfl, h5⟩; have HV5 := keepf (HV4.out.call h5); clear h5)
      | (go_at_call 8; refine (HW.out _ HV5.out.chg).mono ?_; rintro e w6 ⟨rfl, h6⟩; have HV6 := keepf (HV5.out.call h6); clear h6)
    go_ret
    exact ⟨rfl, HV6.out.chg⟩

end Go.Proofs.YtcehpobjnbgpdaaGreatDoor

/- What the library reads of the world holds where the row's list is met and the world has its shape. -/
namespace Go.Proofs.YtcehpobjnbgpdaaGreatDoor
open Go.RowKit Go.Lib
set_option linter.unusedVariables false

theorem tab_of_reads {P : Program} {W : World} {name : String} {k : IntKind} {zs : List Int} {g : Nat} {t e : TypeId} {n : Nat}
    (hg : P.globalNamed name = some g) (hty : (P.globals[g]?).map (·.type) = some t) (ht : P.underlying t = some (.array n e)) (he : P.underlying e = some (.int k)) (hce : P.cellsOf e = 1) (hct : P.cellsOf t = n)
    (h : ∃ g' t' cs fuel p, P.globalNamed name = some g' ∧ (P.globals[g']?).map (·.type) = some t' ∧ W.var? P name = some cs ∧ DataW.trod (fun _ => ()) P W 0 (fun _ => true) false fuel t' cs.toList = some (tabData k zs, p)) : TabIs P W name k zs := by
  obtain ⟨g', t', cs, fuel, p, hg', ht', hvar, hd⟩ := h
  obtain rfl := Option.some.inj (hg.symm.trans hg')
  obtain rfl := Option.some.inj (hty.symm.trans ht')
  unfold TabIs
  rw [hvar, ← cells_of_tab ht he hce hct hd]

theorem lib_ok {W : World} (hL : laidMetH Tryz.prog Rows.showValuesRow.laid W) (hsh : W.ShapedOpen Tryz.prog) : LibOk W := by
  rw [MakeChecks.laidMetH_plain _ _ _ (by kernel_rfl)] at hL
  obtain ⟨ps, hv, _⟩ := hL
  obtain ⟨_, _, _, _, _, _, _, _, _, _, hv, _⟩ := hv
  obtain ⟨_, _, _, _, _, _, _, _, _, _, hv, _⟩ := hv
  obtain ⟨g, t, cs, fuel, p, q, h1, h2, h3, h4, _⟩ := hv
  have hr : ∃ g' t' cs fuel p, Tryz.prog.globalNamed "internal/strconv.uint64pow10" = some g' ∧ (Tryz.prog.globals[g']?).map (·.type) = some t' ∧ W.var? Tryz.prog "internal/strconv.uint64pow10" = some cs ∧ DataW.trod (fun _ => ()) Tryz.prog W 0 (fun _ => true) false fuel t' cs.toList = some (tabData .u64 pow10Tab, p) := ⟨g, t, cs, fuel, p, h1, h2, h3, h4⟩
  exact ⟨tab_of_reads (g := 1) (t := 184) (e := 174) (n := 20) (by kernel_rfl) (by kernel_rfl) Tryz.underlying184 Tryz.underlying174 (by kernel_rfl) (by kernel_rfl) hr, Go.Proofs.Tryz.laysM145.s1_3 W hsh⟩

end Go.Proofs.YtcehpobjnbgpdaaGreatDoor

/- ShowTexts: the walk. -/
namespace Go.Proofs.YtcehpobjnbgpdaaGreatDoor
open Go.RowKit
set_option linter.unusedVariables false
set_option linter.unusedSimpArgs false

set_option maxHeartbeats 4000000 in
set_option maxRecDepth 100000 in
theorem showTextsW (s : ByteArray) (w : World) (hs : s.size ≤ maxLen) (hL : LibOk w) :
    Calls Tryz.prog 4 #[.string s] w fun e w' => e = .returned (.bool true) ∧ Chg NoS w w' := by
  have HW := keepf (fun W (h : Chg NoS w W) => works_any13 W (hL.chg h))
  unfold maxLen at hs
  by_cases h3 : s.size ≤ 300
  · have HN := keepf (fun W (h : Chg NoS w W) => sname_any s W (hL.chg h) (by omega))
    have HR := keepf (fun W (h : Chg NoS w W) => r13name_any s W (by omega))
    have HT := keepf (fun W (h : Chg NoS w W) => stext_any s W (by omega))
    have HRT := keepf (fun W (h : Chg NoS w W) => r13text_any s W (by omega))
    obtain ⟨S, hS⟩ : ∃ S, S = sb (nameT s).1 := ⟨_, rfl⟩
    obtain ⟨z, hz⟩ : ∃ z, z = (nameT s).2 := ⟨_, rfl⟩
    obtain ⟨U, hU⟩ : ∃ U, U = sb (txF (sl s)) := ⟨_, rfl⟩
    rw [← hS, ← hz] at HN HR
    rw [← hU] at HT HRT
    obtain ⟨n, hn⟩ : ∃ n, s.size = n := ⟨_, rfl⟩
    rw [hn] at h3 hs
    have d1 : decide ((300 : Int) < n) = false := by simp; omega
    have d1' : decide (300 < n) = false := by simp; omega
    have HC0 := keepf (Chg.refl NoS w)
    clear hL hS hz hU h3
    go_enter Tryz.func4, Tryz.ntmps4
    go_wp2_with first
      | (go_at_call 12; refine (HN.out _ HC0.out).mono ?_; rintro e w2 ⟨rfl, h2⟩; have HC2 := keepf (HC0.out.trans h2 (fun _ _ e => e)); clear h2)
      | (go_at_call 13; refine (HR.out _ HC2.out).mono ?_; rintro e w3 ⟨rfl, h3⟩; have HC3 := keepf (HC2.out.trans h3 (fun _ _ e => e)); clear h3)
      | (go_at_call 14; refine (HT.out _ HC3.out).mono ?_; rintro e w4 ⟨rfl, h4⟩; have HC4 := keepf (HC3.out.trans h4 (fun _ _ e => e)); clear h4)
      | (go_at_call 15; refine (HRT.out _ HC4.out).mono ?_; rintro e w5 ⟨rfl, h5⟩; have HC5 := keepf (HC4.out.trans h5 (fun _ _ e => e)); clear h5)
      | (go_at_call 8; refine (HW.out _ HC5.out).mono ?_; rintro e w6 ⟨rfl, h6⟩; have HC6 := keepf (HC5.out.trans h6 (fun _ _ e => e)); clear h6)
    go_ret
    exact ⟨rfl, HC6.out⟩
  · obtain ⟨n, hn⟩ : ∃ n, s.size = n := ⟨_, rfl⟩
    rw [hn] at h3 hs
    have d1 : decide ((300 : Int) < n) = true := by simp; omega
    have d1' : decide (300 < n) = true := by simp; omega
    clear h3 hL
    go_enter Tryz.func4, Tryz.ntmps4
    go_wp2_with (go_at_call 8; refine (HW.out _ (Chg.refl NoS w)).mono ?_; rintro e w6 ⟨rfl, h6⟩; have HC6 := keepf h6; clear h6)
    go_ret
    exact ⟨rfl, HC6.out⟩

end Go.Proofs.YtcehpobjnbgpdaaGreatDoor

/- The document's own Same, and the law's small and numbers. -/
namespace Go.Proofs.YtcehpobjnbgpdaaGreatDoor
open Go.RowKit
set_option linter.unusedVariables false
set_option linter.unusedSimpArgs false

theorem ret_vb {a b : Bool} (h : a = b) : Ending.returned (.bool a) = .returned (.bool b) := by rw [h]

set_option maxHeartbeats 1000000 in
theorem rsame11_any (t t' : VT) (c c' : VC) (w : World) (hv : ValIs w t c) (hv' : ValIs w t' c') :
    Calls Tryz.prog 18 #[c.val, c'.val] w fun e w' => e = .returned (.bool (decide (cmpT t t' = 0))) ∧ Chg NoS w w' := by
  have HC := keepf (fun W (h : ValIs W t c) (h' : ValIs W t' c') => rcmp_any t t' c c' W h h')
  have HV := keepf hv
  have HV' := keepf hv'
  obtain ⟨z, hz⟩ : ∃ z, cmpT t t' = z := ⟨_, rfl⟩
  rw [hz] at HC ⊢
  obtain ⟨k, n, s, A, len, cap⟩ := c
  obtain ⟨k', n', s', A', len', cap'⟩ := c'
  unfold VC.val at HC ⊢
  simp only [] at HC ⊢
  clear hv hv' hz
  have HB := keepf ((Blk.new w 24 #[.int .i64 k, .int .i64 n, .string s, .slice A len cap]).alloc (.cells #[.int .i64 k', .int .i64 n', .string s', .slice A' len' cap'] 24))
  have HB' := keepf (Blk.new (w.alloc (.cells #[.int .i64 k, .int .i64 n, .string s, .slice A len cap] 24)) 24 #[.int .i64 k', .int .i64 n', .string s', .slice A' len' cap'])
  have hs1 : (w.alloc (.cells #[.int .i64 k, .int .i64 n, .string s, .slice A len cap] 24)).heap.size = w.heap.size + 1 := by simp
  rw [hs1] at HB'
  have HC0 := keepf (((Chg.refl NoS w).alloc (.cells #[.int .i64 k, .int .i64 n, .string s, .slice A len cap] 24)).alloc (.cells #[.int .i64 k', .int .i64 n', .string s', .slice A' len' cap'] 24))
  by_cases h0 : z = 0
  · subst h0
    go_enter Tryz.func18, Tryz.ntmps18
    go_upto_region 1 with fail
    obtain ⟨W0, hW⟩ : ∃ W, W = ((w.alloc (.cells #[.int .i64 k, .int .i64 n, .string s, .slice A len cap] 24)).alloc (.cells #[.int .i64 k', .int .i64 n', .string s', .slice A' len' cap'] 24)) := ⟨_, rfl⟩
    rw [← hW] at HB HB' HC0 ⊢
    clear hW hs1
    have p0 := HB.out.cell 0
    have p1 := HB.out.cell 1
    have p2 := HB.out.cell 2
    have p3 := HB.out.cell 3
    have q0 := HB'.out.cell 0
    have q1 := HB'.out.cell 1
    have q2 := HB'.out.cell 2
    have q3 := HB'.out.cell 3
    simp at p0 p1 p2 p3 q0 q1 q2 q3
    go_wp2_with (go_at_call 38; refine (HC.out _ (HV.out.chg HC0.out) (HV'.out.chg HC0.out)).mono ?_; rintro e w2 ⟨rfl, hc2⟩; have HC2 := keepf (HC0.out.trans hc2 (fun _ _ e => e)); clear hc2)
    go_ret
    exact ⟨rfl, HC2.out⟩
  · have HD := keepf (show decide (z = 0) = false from by simpa using h0)
    have e0 : (z == 0) = false := by simpa using h0
    clear h0
    go_enter Tryz.func18, Tryz.ntmps18
    go_upto_region 1 with fail
    obtain ⟨W0, hW⟩ : ∃ W, W = ((w.alloc (.cells #[.int .i64 k, .int .i64 n, .string s, .slice A len cap] 24)).alloc (.cells #[.int .i64 k', .int .i64 n', .string s', .slice A' len' cap'] 24)) := ⟨_, rfl⟩
    rw [← hW] at HB HB' HC0 ⊢
    clear hW hs1
    have p0 := HB.out.cell 0
    have p1 := HB.out.cell 1
    have p2 := HB.out.cell 2
    have p3 := HB.out.cell 3
    have q0 := HB'.out.cell 0
    have q1 := HB'.out.cell 1
    have q2 := HB'.out.cell 2
    have q3 := HB'.out.cell 3
    simp at p0 p1 p2 p3 q0 q1 q2 q3
    go_wp2_with (go_at_call 38; refine (HC.out _ (HV.out.chg HC0.out) (HV'.out.chg HC0.out)).mono ?_; rintro e w2 ⟨rfl, hc2⟩; have HC2 := keepf (HC0.out.trans hc2 (fun _ _ e => e)); clear hc2)
    go_ret
    exact ⟨ret_vb HD.out.symm, HC2.out⟩

end Go.Proofs.YtcehpobjnbgpdaaGreatDoor

/- Values that stand alike are one: plain mathematics. -/
namespace Go.Proofs.YtcehpobjnbgpdaaGreatDoor
set_option linter.unusedVariables false
set_option linter.unusedSimpArgs false

theorem cmpH_zero_eq {k n k' n' : Int} {s s' : ByteArray} (h : cmpH k n s k' n' s' = 0) : k = k' ∧ n = n' ∧ s = s' := by
  unfold cmpH at h
  split at h
  · cases h
  split at h
  · cases h
  split at h
  · cases h
  split at h
  · cases h
  split at h
  · cases h
  split at h
  · cases h
  · next h1 h2 h3 h4 h5 h6 => exact ⟨Decidable.not_not.1 h2, Decidable.not_not.1 h4, Decidable.not_not.1 h6⟩

mutual
theorem cmpT_zero_eq : ∀ (a b : VT), cmpT a b = 0 → a = b
  | .mk k n s l, .mk k' n' s' l' => by
    rw [cmpT_mk]
    split
    · intro h; contradiction
    · next h =>
      intro h2
      obtain ⟨rfl, rfl, rfl⟩ := cmpH_zero_eq (Decidable.not_not.1 h)
      rw [cmpL_zero_eq l l' h2]
theorem cmpL_zero_eq : ∀ (l l' : List VT), cmpL l l' = 0 → l = l'
  | [], [] => fun _ => rfl
  | [], _ :: _ => by rw [cmpL]; intro h; cases h
  | _ :: _, [] => by rw [cmpL]; intro h; cases h
  | t :: l, t' :: l' => by
    rw [cmpL_cons]
    split
    · intro h; contradiction
    · next h =>
      intro h2
      rw [cmpT_zero_eq t t' (Decidable.not_not.1 h), cmpL_zero_eq l l' h2]
end

/-- Values that may be stand alike just if their forms are alike. -/
theorem same_form {t u : VT} (ht : checkT t = 0) (hu : checkT u = 0) : cmpT t u = 0 ↔ formT t = formT u :=
  ⟨fun h => by rw [cmpT_zero_eq t u h], fun h => by rw [form_inj ht hu h]; exact cmpT_self u⟩

end Go.Proofs.YtcehpobjnbgpdaaGreatDoor

