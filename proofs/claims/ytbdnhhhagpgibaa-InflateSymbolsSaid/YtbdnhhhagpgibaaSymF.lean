/- The document's own fixed lengths and order; rows that are alike. -/
import Derived.Test.YtbdnhhhagpgibaaSymL
namespace Go.Proofs.Ytbdnhhhagpgibaa
open Go.RowKit
set_option linter.unusedVariables false
set_option linter.unusedSimpArgs false

def nS (k : Nat) : Nat := if 144 ≤ k ∧ k < 256 then 9 else if 256 ≤ k ∧ k < 280 then 7 else 8
set_option maxRecDepth 100000 in
theorem fixS_get : ∀ k : Nat, k < 288 → fixS[k]? = some (nS k : Nat) := by decide +kernel
theorem fixS_take (k : Nat) (h : k < 288) : icells (fixS.take (k + 1)) = icells (fixS.take k) ++ [.int .i64 (nS k : Nat)] := by
  rw [List.take_add_one, fixS_get k h]
  simp [icells]
theorem fixD_take (k : Nat) (h : k < 30) : icells (fixD.take (k + 1)) = icells (fixD.take k) ++ [.int .i64 5] := by
  rw [List.take_add_one, fixD, List.getElem?_replicate, if_pos h]
  simp [icells]

/-- A row of the call's own, all of it new: behind w. -/
structure NewRowI (w wr : World) (A : Option Addr) (c : Nat) (n : Nat) (xs : List Value) : Prop where
  o : wr.ownsRow 0 3 1 (.slice A n c) n xs
  c : Chg NoS w wr
  f : ∀ x, A = some x → w.heap.size ≤ x.block
theorem NewRowI.more {w wr w2 : World} {A A2 : Option Addr} {c c2 n : Nat} {xs : List Value} {u : Value} {ob : Obj} (h : NewRowI w wr A c n xs) (ho : w2.ownsRow 0 3 1 (.slice A2 (n + 1) c2) (n + 1) (xs ++ [u]))
    (hg : (wr.alloc ob).grownBy w2 (Value.slice A n c).ownBlock) (hat : (Value.slice A2 (n + 1) c2).ownBlock = (Value.slice A n c).ownBlock ∨ (Value.slice A2 (n + 1) c2).ownBlock = some (wr.alloc ob).heap.size) : NewRowI w w2 A2 c2 (n + 1) (xs ++ [u]) := by
  refine ⟨ho, h.c.trans (((Chg.refl (fun i => (Value.slice A n c).ownBlock = some i) wr).alloc ob).grown hg (fun i e _ => e)) (fun i hi e => ?_), ?_⟩
  · rcases A with _ | a
    · simp [Value.ownBlock] at e
    · have := h.f a rfl
      simp [Value.ownBlock] at e
      omega
  · rintro x rfl
    have hs := h.c.size
    rcases hat with e | e
    · rcases A with _ | a
      · simp [Value.ownBlock] at e
      · have := h.f a rfl
        simp [Value.ownBlock] at e
        omega
    · simp [Value.ownBlock] at e
      omega

set_option maxHeartbeats 4000000 in
set_option maxRecDepth 100000 in
theorem rfixed_any (w : World) : Calls Try.prog 15 #[] w (GotF w) := by
  obtain ⟨i0, hi, hz0, hz1, hz2⟩ := info_parts info_i64
  go_enter Try.func15, Try.ntmps15
  go_wp2_with fail
  go_loopw [2, 4] (fun va vk wr => ∃ (k : Nat) (A : Option Addr) (c : Nat), k ≤ 288 ∧ vk = .int .i64 k ∧ va = .slice A k c ∧ Hid (NewRowI w wr A c k (icells (fixS.take k)))) (fun _ vk _ => 288 - (intOf vk).toNat)
  case atStart => exact ⟨0, none, 0, by omega, rfl, rfl, own_nil _ _ _ _, Chg.refl _ _, fun x h => by cases h⟩
  case round =>
    obtain ⟨k, A, c, hk, rfl, rfl, HR⟩ := hrel
    by_cases hlt : k < 288
    · have htk := fixS_take k hlt
      have HTK := keepf htk
      obtain ⟨v, hv⟩ : ∃ v, v = nS k := ⟨_, rfl⟩
      rw [← hv] at HTK
      clear htk
      have d0 : decide ((k : Int) < 288) = true := by simp; omega
      have d0' : decide (k < 288) = true := by simp; omega
      have hcase : (k < 144 ∧ v = 8) ∨ (144 ≤ k ∧ k < 256 ∧ v = 9) ∨ (256 ≤ k ∧ k < 280 ∧ v = 7) ∨ (280 ≤ k ∧ v = 8) := by
        rw [hv]
        unfold nS
        split
        · omega
        · split <;> omega
      clear hv
      rcases hcase with ⟨h1, rfl⟩ | ⟨h1, h2, rfl⟩ | ⟨h1, h2, rfl⟩ | ⟨h1, rfl⟩
      · have a1 : decide ((144 : Int) ≤ k) = false := by simp; omega
        have a2 : decide (144 ≤ k) = false := by simp; omega
        have a3 : decide ((256 : Int) ≤ k) = false := by simp; omega
        have a4 : decide (256 ≤ k) = false := by simp; omega
        go_wp2_with (at_builtin; go_loud (refine wpList_append_src rfl (.tmp 23) (.tmp 25) 32 rfl 3 i0 (.int .i64 0) 1 8 Try.underlying32 hi hz0 hz1 hz2 rfl (by decide) (.slice A k c) _ _ rfl (own_chg (S := NoS) HR.out.o ((Chg.refl _ _).alloc _) (fun _ _ h => h)) _ _ _ [.int .i64 (8 : Nat)] rfl (src_one _ _ _) (by simp [Value.oneCell']) (by unfold maxLen; omega) (by omega) ?_); intro S2 w2 hown2 hgr hat; obtain ⟨A2, c2, rfl, hA2⟩ := own_slice hown2; have HN := keepf (HR.out.more hown2 hgr hat); clear hown2 hgr hat hA2)
        go_roundw
        case rel => exact ⟨k + 1, A2, c2, by omega, by go_num, by simp, by rw [HTK.out]; exact HN.out⟩
        case measure => simp [intOf]; omega
      · have a1 : decide ((144 : Int) ≤ k) = true := by simp; omega
        have a2 : decide (144 ≤ k) = true := by simp; omega
        have a3 : decide ((256 : Int) ≤ k) = false := by simp; omega
        have a4 : decide (256 ≤ k) = false := by simp; omega
        have a5 : decide ((k : Int) < 256) = true := by simp; omega
        have a6 : decide (k < 256) = true := by simp; omega
        go_wp2_with (at_builtin; go_loud (refine wpList_append_src rfl (.tmp 23) (.tmp 25) 32 rfl 3 i0 (.int .i64 0) 1 8 Try.underlying32 hi hz0 hz1 hz2 rfl (by decide) (.slice A k c) _ _ rfl (own_chg (S := NoS) HR.out.o ((Chg.refl _ _).alloc _) (fun _ _ h => h)) _ _ _ [.int .i64 (9 : Nat)] rfl (src_one _ _ _) (by simp [Value.oneCell']) (by unfold maxLen; omega) (by omega) ?_); intro S2 w2 hown2 hgr hat; obtain ⟨A2, c2, rfl, hA2⟩ := own_slice hown2; have HN := keepf (HR.out.more hown2 hgr hat); clear hown2 hgr hat hA2)
        go_roundw
        case rel => exact ⟨k + 1, A2, c2, by omega, by go_num, by simp, by rw [HTK.out]; exact HN.out⟩
        case measure => simp [intOf]; omega
      · have a1 : decide ((144 : Int) ≤ k) = true := by simp; omega
        have a2 : decide (144 ≤ k) = true := by simp; omega
        have a3 : decide ((256 : Int) ≤ k) = true := by simp; omega
        have a4 : decide (256 ≤ k) = true := by simp; omega
        have a5 : decide ((k : Int) < 256) = false := by simp; omega
        have a6 : decide (k < 256) = false := by simp; omega
        have a7 : decide ((k : Int) < 280) = true := by simp; omega
        have a8 : decide (k < 280) = true := by simp; omega
        go_wp2_with (at_builtin; go_loud (refine wpList_append_src rfl (.tmp 23) (.tmp 25) 32 rfl 3 i0 (.int .i64 0) 1 8 Try.underlying32 hi hz0 hz1 hz2 rfl (by decide) (.slice A k c) _ _ rfl (own_chg (S := NoS) HR.out.o ((Chg.refl _ _).alloc _) (fun _ _ h => h)) _ _ _ [.int .i64 (7 : Nat)] rfl (src_one _ _ _) (by simp [Value.oneCell']) (by unfold maxLen; omega) (by omega) ?_); intro S2 w2 hown2 hgr hat; obtain ⟨A2, c2, rfl, hA2⟩ := own_slice hown2; have HN := keepf (HR.out.more hown2 hgr hat); clear hown2 hgr hat hA2)
        go_roundw
        case rel => exact ⟨k + 1, A2, c2, by omega, by go_num, by simp, by rw [HTK.out]; exact HN.out⟩
        case measure => simp [intOf]; omega
      · have a1 : decide ((144 : Int) ≤ k) = true := by simp; omega
        have a2 : decide (144 ≤ k) = true := by simp; omega
        have a3 : decide ((256 : Int) ≤ k) = true := by simp; omega
        have a4 : decide (256 ≤ k) = true := by simp; omega
        have a5 : decide ((k : Int) < 256) = false := by simp; omega
        have a6 : decide (k < 256) = false := by simp; omega
        have a7 : decide ((k : Int) < 280) = false := by simp; omega
        have a8 : decide (k < 280) = false := by simp; omega
        go_wp2_with (at_builtin; go_loud (refine wpList_append_src rfl (.tmp 23) (.tmp 25) 32 rfl 3 i0 (.int .i64 0) 1 8 Try.underlying32 hi hz0 hz1 hz2 rfl (by decide) (.slice A k c) _ _ rfl (own_chg (S := NoS) HR.out.o ((Chg.refl _ _).alloc _) (fun _ _ h => h)) _ _ _ [.int .i64 (8 : Nat)] rfl (src_one _ _ _) (by simp [Value.oneCell']) (by unfold maxLen; omega) (by omega) ?_); intro S2 w2 hown2 hgr hat; obtain ⟨A2, c2, rfl, hA2⟩ := own_slice hown2; have HN := keepf (HR.out.more hown2 hgr hat); clear hown2 hgr hat hA2)
        go_roundw
        case rel => exact ⟨k + 1, A2, c2, by omega, by go_num, by simp, by rw [HTK.out]; exact HN.out⟩
        case measure => simp [intOf]; omega
    · obtain rfl : k = 288 := by omega
      have hfull : fixS.take 288 = fixS := List.take_of_length_le (by simp [fixS])
      rw [hfull] at HR
      clear hfull
      go_wp2_with fail
      have hst : wr = wr := rfl
      go_loopw [3, 6] (fun va vk w5 => ∃ (k : Nat) (B : Option Addr) (d : Nat), k ≤ 30 ∧ vk = .int .i64 k ∧ va = .slice B k d ∧ Hid (NewRowI wr w5 B d k (icells (fixD.take k)))) (fun _ vk _ => 30 - (intOf vk).toNat)
      case atStart => exact ⟨0, none, 0, by omega, rfl, rfl, own_nil _ _ _ _, Chg.refl _ _, fun x h => by cases h⟩
      case round =>
        obtain ⟨k, B, d, hk, rfl, rfl, HD⟩ := hrel
        by_cases hlt : k < 30
        · have htk := fixD_take k hlt
          have HTK := keepf htk
          clear htk
          go_wp2_with (at_builtin; go_loud (refine wpList_append_src rfl (.tmp 31) (.tmp 32) 32 rfl 3 i0 (.int .i64 0) 1 8 Try.underlying32 hi hz0 hz1 hz2 rfl (by decide) (.slice B k d) _ _ rfl (own_chg (S := NoS) HD.out.o ((Chg.refl _ _).alloc _) (fun _ _ h => h)) _ _ _ [.int .i64 5] rfl (src_one _ _ _) (by simp [Value.oneCell']) (by unfold maxLen; omega) (by omega) ?_); intro S2 w2 hown2 hgr hat; obtain ⟨A2, c2, rfl, hA2⟩ := own_slice hown2; have HN := keepf (HD.out.more hown2 hgr hat); clear hown2 hgr hat hA2)
          go_roundw
          case rel =>
            first
              | exact ⟨k + 1, A2, c2, by omega, by go_num, by simp, by rw [HTK.out]; exact HN.out⟩
              | (exact ⟨k + 1, by omega, by omega, A2, c2, by simp, by rw [HTK.out]; exact HN.out⟩)
          case measure => simp [intOf]; omega
        · obtain rfl : k = 30 := by omega
          have hfull : fixD.take 30 = fixD := List.take_of_length_le (by simp [fixD])
          rw [hfull] at HD
          clear hfull
          go_wp2_with fail
          go_ret2
          exact ⟨A, B, c, d, rfl, own_chg HR.out.o HD.out.c (fun _ _ h => h), HD.out.o, HR.out.c.trans HD.out.c (fun _ _ h => h)⟩

set_option maxRecDepth 100000 in
theorem rorder_any (w : World) : Calls Try.prog 18 #[] w fun e w' => e = .returned (.slice (some ⟨w.heap.size, 0, none⟩) 19 19) ∧ w' = w.alloc (.cells orderCells 3) := by
  go_enter Try.func18, Try.ntmps18
  go_wp2
  go_ret
  exact ⟨rfl, rfl⟩

set_option maxHeartbeats 1000000 in
set_option maxRecDepth 100000 in
theorem same_eq (l : List Int) (n : Nat) (A B : Option Addr) (c d : Nat) (w : World) (hl : l.length = n) (hn : n ≤ 1000) (hA : Src w 1 A n c (icells l)) (hB : Src w 1 B n d (icells l)) :
    Calls Try.prog 16 #[.slice A n c, .slice B n d] w fun e w' => e = .returned (.bool true) ∧ Chg NoS w w' := by
  have HA := keepf hA
  have HB := keepf hB
  have HLn := keepf hl
  clear hA hB hl
  go_enter Try.func16, Try.ntmps16
  go_wp2_with fail
  go_loopw [5] (fun vk wr => ∃ k m : Nat, k ≤ n ∧ vk = .int .i64 k ∧ wr = w.drewN m) (fun vk _ => n - (intOf vk).toNat)
  case atStart => exact ⟨0, 0, Nat.zero_le _, rfl, rfl⟩
  case round =>
    obtain ⟨k, m, hk, rfl, rfl⟩ := hrel
    by_cases hlt : k < n
    · obtain ⟨b1, o1, rfl, h1⟩ := HA.out.plain (by rw [icells_len, HLn.out]; omega)
      obtain ⟨b2, o2, rfl, h2⟩ := HB.out.plain (by rw [icells_len, HLn.out]; omega)
      obtain ⟨z, hz⟩ : ∃ z, l[k]? = some z := ⟨_, List.getElem?_eq_getElem (by rw [HLn.out]; omega)⟩
      have e1 := h1 k _ (icells_get hz)
      have e2 := h2 k _ (icells_get hz)
      have i1 : (k : Int) < n := by omega
      clear h1 h2 hz
      go_upto_region 6 with fail
      go_quiet (fail)
      go_wp2_with fail
      go_roundw
      case rel => exact ⟨k + 1, m + nq, by omega, by go_num, rfl⟩
      case measure => simp [intOf]; omega
    · obtain rfl : k = n := by omega
      go_wp2_with fail
      go_ret
      exact ⟨rfl, (Chg.refl _ _).drewN m⟩
end Go.Proofs.Ytbdnhhhagpgibaa
