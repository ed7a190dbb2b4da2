/- Merged by program: SymL SymF. -/
import Derived.Test.YtmmilchmnimjoaaGreatN09
/- The document's own lengths and distances, fixed lengths and order; rows that are alike. -/
namespace Go.Proofs.YtmmilchmnimjoaaGreat
open Go.RowKit
set_option linter.unusedVariables false
set_option linter.unusedSimpArgs false
def bitsL (k : Nat) : Nat := if 265 ≤ k then (k - 261) / 4 else 0
def sumL : Nat → Nat
  | 0 => 3
  | j + 1 => sumL j + 2 ^ bitsL (257 + j)
def bitsD (k : Nat) : Nat := if 4 ≤ k then (k - 2) / 2 else 0
def sumD : Nat → Nat
  | 0 => 1
  | j + 1 => sumD j + 2 ^ bitsD j
theorem sumL_all : ∀ j : Nat, j < 28 → sumL j ≤ 600 ∧ bitsL (257 + j) ≤ 5 ∧ lenOf (257 + j) = some (sumL j, bitsL (257 + j)) := by decide +kernel
theorem sumD_all : ∀ j : Nat, j < 30 → sumD j ≤ 32768 ∧ bitsD j ≤ 13 ∧ distOf j = some (sumD j, bitsD j) := by decide +kernel
set_option maxRecDepth 100000 in
theorem power_any (n : Nat) (w : World) (hn : n ≤ 13) : Calls Tryz.prog 84 #[.int .i64 n] w fun e w' => e = .returned (.int .i64 (2 ^ n : Nat)) ∧ w = w' := by
  go_enter Tryz.func84, Tryz.ntmps84
  go_wp2
  go_loop [3, 4] (fun x i => ∃ k y : Nat, k ≤ n ∧ y ≤ 8192 ∧ i = .int .i64 k ∧ x = .int .i64 y ∧ Hid (y = 2 ^ k)) (fun _ i => n - (intOf i).toNat)
  case atStart => exact ⟨0, 1, Nat.zero_le _, by omega, rfl, rfl, rfl⟩
  case round =>
    obtain ⟨k, y, hk, hy, rfl, rfl, HY⟩ := hrel
    by_cases hlt : k < n
    · go_wp2
      go_round
      case rel =>
        have h1 : 2 ^ (k + 1) ≤ 2 ^ 13 := Nat.pow_le_pow_right (by decide) (by omega)
        have h2 : 2 ^ (k + 1) = 2 * y := by rw [HY.out, Nat.pow_succ]; omega
        exact ⟨k + 1, 2 * y, by omega, by omega, by go_num, by go_num, h2.symm⟩
      case measure => simp [intOf]; omega
    · obtain rfl : k = n := by omega
      go_wp2
      go_ret
      refine ⟨?_, rfl⟩
      show Ending.returned (.int .i64 (y : Int)) = _
      rw [HY.out]
      simp
def Tells (x n : Int) (ok : Bool) (w : World) (e : Ending) (w' : World) : Prop := e = .returned (.tuple #[.int .i64 x, .int .i64 n, .bool ok]) ∧ w = w'
set_option maxHeartbeats 1000000 in
set_option maxRecDepth 100000 in
theorem rlength_ok (s x n : Nat) (w : World) (h : lenOf s = some (x, n)) :
    Calls Tryz.prog 57 #[.int .i64 s] w (Tells x n true w) := by
  obtain ⟨_, _, h1, h2⟩ := lenOf_le h
  have HL := keepf h
  have d1 : decide ((s : Int) < 257) = false := by simp; omega
  have d1' : decide (s < 257) = false := by simp; omega
  have d2 : decide ((285 : Int) < s) = false := by simp; omega
  have d2' : decide (285 < s) = false := by simp; omega
  clear h
  by_cases h3 : s = 285
  · subst h3
    have hxn : x = 258 ∧ n = 0 := by
      have h := HL.out
      simp [lenOf] at h
      omega
    obtain ⟨rfl, rfl⟩ := hxn
    go_enter Tryz.func57, Tryz.ntmps57
    go_wp2_with fail
    go_ret3
    exact ⟨rfl, rfl⟩
  · have d3 : ((s : Int) == 285) = false := by simp; omega
    have d3' : (s == 285) = false := by simp; omega
    go_enter Tryz.func57, Tryz.ntmps57
    go_wp2_with fail
    go_loop [5, 6] (fun va vk => ∃ k at_ : Nat, 257 ≤ k ∧ k ≤ s ∧ at_ ≤ 600 ∧ vk = .int .i64 k ∧ va = .int .i64 at_ ∧ Hid (at_ = sumL (k - 257))) (fun _ vk => s - (intOf vk).toNat)
    case atStart => exact ⟨257, 3, by omega, by omega, by omega, rfl, rfl, rfl⟩
    case round =>
      obtain ⟨k, at_, hk1, hk2, ha, rfl, rfl, HA⟩ := hrel
      by_cases hlt : k < s
      · have hsum : sumL (k + 1 - 257) = at_ + 2 ^ bitsL k := by
          rw [show k + 1 - 257 = (k - 257) + 1 from by omega, sumL, HA.out, show 257 + (k - 257) = k from by omega]
        have hall := sumL_all (k - 257) (by omega)
        have hall2 := sumL_all (k + 1 - 257) (by omega)
        rw [show 257 + (k - 257) = k from by omega] at hall
        have hq := hall.2.1
        have ha2 := hall2.1
        rw [hsum] at ha2
        have HSum := keepf hsum
        obtain ⟨p, hp⟩ : ∃ p, p = 2 ^ bitsL k := ⟨_, rfl⟩
        rw [← hp] at ha2 HSum
        have HPow := keepf (fun W => power_any (bitsL k) W (by omega))
        rw [← hp] at HPow
        by_cases h265 : 265 ≤ k
        · have hb : bitsL k = (k - 261) / 4 := by unfold bitsL; rw [if_pos h265]
          obtain ⟨q, hqe⟩ : ∃ q, q = bitsL k := ⟨_, rfl⟩
          have e1 : ((k : Int) - 261) / 4 = (q : Int) := by omega
          rw [← hqe] at HPow
          have d5 : decide ((265 : Int) ≤ k) = true := by simp; omega
          have d5' : decide (265 ≤ k) = true := by simp; omega
          clear hsum hall hall2 hq hp hb hqe
          go_wp2_with (go_at_call 84; refine (HPow.out _).mono ?_; rintro e w2 ⟨rfl, rfl⟩)
          go_round
          case rel => exact ⟨k + 1, at_ + p, by omega, by omega, by omega, by go_num, by go_num, HSum.out.symm⟩
          case measure => simp [intOf]; omega
        · have hb : bitsL k = 0 := by unfold bitsL; rw [if_neg h265]
          have d5 : decide ((265 : Int) ≤ k) = false := by simp; omega
          have d5' : decide (265 ≤ k) = false := by simp; omega
          rw [hb] at HPow
          clear hsum hall hall2 hq hp hb
          go_wp2_with (go_at_call 84; refine (HPow.out _).mono ?_; rintro e w2 ⟨rfl, rfl⟩)
          go_round
          case rel => exact ⟨k + 1, at_ + p, by omega, by omega, by omega, by go_num, by go_num, HSum.out.symm⟩
          case measure => simp [intOf]; omega
      · obtain rfl : k = s := by omega
        have hall := (sumL_all (k - 257) (by omega)).2.2
        rw [show 257 + (k - 257) = k from by omega, HL.out] at hall
        simp only [Option.some.injEq, Prod.mk.injEq] at hall
        obtain ⟨hx, hn⟩ := hall
        have HX := keepf hx
        have HN := keepf hn
        clear hx hn
        by_cases h265 : k < 265
        · have d5 : decide ((k : Int) < 265) = true := by simp; omega
          have d5' : decide (k < 265) = true := by simp; omega
          go_wp2_with fail
          go_ret3
          refine ⟨?_, rfl⟩
          have hb : n = 0 := by rw [HN.out]; unfold bitsL; rw [if_neg (by omega)]
          rw [HX.out, hb, ← HA.out]
          rfl
        · have d5 : decide ((k : Int) < 265) = false := by simp; omega
          have d5' : decide (k < 265) = false := by simp; omega
          have hb : n = (k - 261) / 4 := by rw [HN.out]; unfold bitsL; rw [if_pos (by omega)]
          have e1 : ((k : Int) - 261) / 4 = (n : Int) := by omega
          have HB := keepf hb
          clear hb
          go_wp2_with fail
          go_ret3
          refine ⟨?_, rfl⟩
          rw [HX.out, ← HA.out]
          rfl
set_option maxHeartbeats 1000000 in
set_option maxRecDepth 100000 in
theorem rdistance_ok (s x n : Nat) (w : World) (h : distOf s = some (x, n)) :
    Calls Tryz.prog 58 #[.int .i64 s] w (Tells x n true w) := by
  have h2 : s ≤ 29 := by
    rcases Nat.lt_or_ge 29 s with e | e
    · unfold distOf at h; rw [if_pos e] at h; cases h
    · exact e
  have HL := keepf h
  have d1 : decide ((s : Int) < 0) = false := by simp
  have d2 : decide ((29 : Int) < s) = false := by simp; omega
  have d2' : decide (29 < s) = false := by simp; omega
  clear h
  go_enter Tryz.func58, Tryz.ntmps58
  go_wp2_with fail
  go_loop [5, 6] (fun va vk => ∃ k at_ : Nat, k ≤ s ∧ at_ ≤ 32768 ∧ vk = .int .i64 k ∧ va = .int .i64 at_ ∧ Hid (at_ = sumD k)) (fun _ vk => s - (intOf vk).toNat)
  case atStart => exact ⟨0, 1, by omega, by omega, rfl, rfl, rfl⟩
  case round =>
    obtain ⟨k, at_, hk2, ha, rfl, rfl, HA⟩ := hrel
    by_cases hlt : k < s
    · have hsum : sumD (k + 1) = at_ + 2 ^ bitsD k := by rw [sumD, HA.out]
      have hall := sumD_all k (by omega)
      have hall2 := sumD_all (k + 1) (by omega)
      have hq := hall.2.1
      have ha2 := hall2.1
      rw [hsum] at ha2
      have HSum := keepf hsum
      obtain ⟨p, hp⟩ : ∃ p, p = 2 ^ bitsD k := ⟨_, rfl⟩
      rw [← hp] at ha2 HSum
      have HPow := keepf (fun W => power_any (bitsD k) W (by omega))
      rw [← hp] at HPow
      by_cases h4 : 4 ≤ k
      · have hb : bitsD k = (k - 2) / 2 := by unfold bitsD; rw [if_pos h4]
        obtain ⟨q, hqe⟩ : ∃ q, q = bitsD k := ⟨_, rfl⟩
        have e1 : ((k : Int) - 2) / 2 = (q : Int) := by omega
        rw [← hqe] at HPow
        have d5 : decide ((4 : Int) ≤ k) = true := by simp; omega
        have d5' : decide (4 ≤ k) = true := by simp; omega
        clear hsum hall hall2 hq hp hb hqe
        go_wp2_with (go_at_call 84; refine (HPow.out _).mono ?_; rintro e w2 ⟨rfl, rfl⟩)
        go_round
        case rel => exact ⟨k + 1, at_ + p, by omega, by omega, by go_num, by go_num, HSum.out.symm⟩
        case measure => simp [intOf]; omega
      · have hb : bitsD k = 0 := by unfold bitsD; rw [if_neg h4]
        have d5 : decide ((4 : Int) ≤ k) = false := by simp; omega
        have d5' : decide (4 ≤ k) = false := by simp; omega
        rw [hb] at HPow
        clear hsum hall hall2 hq hp hb
        go_wp2_with (go_at_call 84; refine (HPow.out _).mono ?_; rintro e w2 ⟨rfl, rfl⟩)
        go_round
        case rel => exact ⟨k + 1, at_ + p, by omega, by omega, by go_num, by go_num, HSum.out.symm⟩
        case measure => simp [intOf]; omega
    · obtain rfl : k = s := by omega
      have hall := (sumD_all k (by omega)).2.2
      rw [HL.out] at hall
      simp only [Option.some.injEq, Prod.mk.injEq] at hall
      obtain ⟨hx, hn⟩ := hall
      have HX := keepf hx
      have HN := keepf hn
      clear hx hn
      by_cases h4 : k < 4
      · have d5 : decide ((k : Int) < 4) = true := by simp; omega
        have d5' : decide (k < 4) = true := by simp; omega
        go_wp2_with fail
        go_ret3
        refine ⟨?_, rfl⟩
        have hb : n = 0 := by rw [HN.out]; unfold bitsD; rw [if_neg (by omega)]
        rw [HX.out, hb, ← HA.out]
        rfl
      · have d5 : decide ((k : Int) < 4) = false := by simp; omega
        have d5' : decide (k < 4) = false := by simp; omega
        have hb : n = (k - 2) / 2 := by rw [HN.out]; unfold bitsD; rw [if_pos (by omega)]
        have e1 : ((k : Int) - 2) / 2 = (n : Int) := by omega
        have HB := keepf hb
        clear hb
        go_wp2_with fail
        go_ret3
        refine ⟨?_, rfl⟩
        rw [HX.out, ← HA.out]
        rfl
end Go.Proofs.YtmmilchmnimjoaaGreat
/- The document's own fixed lengths and order; rows that are alike. -/
namespace Go.Proofs.YtmmilchmnimjoaaGreat
open Go.RowKit
set_option linter.unusedVariables false
set_option linter.unusedSimpArgs false
def nS (k : Nat) : Nat := if 144 ≤ k ∧ k < 256 then 9 else if 256 ≤ k ∧ k < 280 then 7 else 8
set_option maxRecDepth 100000 in
theorem fixS_get : ∀ k : Nat, k < 288 → fixS[k]? = some (nS k : Nat) := by decide +kernel
theorem fixS_take (k : Nat) (h : k < 288) : icells (fixS.take (k + 1)) = icells (fixS.take k) ++ [.int .i64 (nS k : Nat)] := by
  rw [List.take_add_one, fixS_get k h]
  simp [icells]
theorem fixD_take (k : Nat) (h : k < 30) : icells (fixD.take (k + 1)) = icells (fixD.take k) ++ [.int .i64 5] := by
  rw [List.take_add_one, fixD, List.getElem?_replicate, if_pos h]
  simp [icells]
structure NewRowI (w wr : World) (A : Option Addr) (c : Nat) (n : Nat) (xs : List Value) : Prop where
  o : wr.ownsRow 0 3 1 (.slice A n c) n xs
  c : Chg NoS w wr
  f : ∀ x, A = some x → w.heap.size ≤ x.block
theorem NewRowI.more {w wr w2 : World} {A A2 : Option Addr} {c c2 n : Nat} {xs : List Value} {u : Value} {ob : Obj} (h : NewRowI w wr A c n xs) (ho : w2.ownsRow 0 3 1 (.slice A2 (n + 1) c2) (n + 1) (xs ++ [u]))
    (hg : (wr.alloc ob).grownBy w2 (Value.slice A n c).ownBlock) (hat : (Value.slice A2 (n + 1) c2).ownBlock = (Value.slice A n c).ownBlock ∨ (Value.slice A2 (n + 1) c2).ownBlock = some (wr.alloc ob).heap.size) : NewRowI w w2 A2 c2 (n + 1) (xs ++ [u]) := by
  refine ⟨ho, h.c.trans (((Chg.refl (fun i => (Value.slice A n c).ownBlock = some i) wr).alloc ob).grown hg (fun i e _ => e)) (fun i hi e => ?_), ?_⟩
  · rcases A with _ | a
    · simp [Value.ownBlock] at e
    · have := h.f a rfl
      simp [Value.ownBlock] at e
      omega
  · rintro x rfl
    have hs := h.c.size
    rcases hat with e | e
    · rcases A with _ | a
      · simp [Value.ownBlock] at e
      · have := h.f a rfl
        simp [Value.ownBlock] at e
        omega
    · simp [Value.ownBlock] at e
      omega
set_option maxHeartbeats 4000000 in
set_option maxRecDepth 100000 in
theorem rfixed_any (w : World) : Calls Tryz.prog 36 #[] w (GotF w) := by
  obtain ⟨i0, hi, hz0, hz1, hz2⟩ := info_parts info_i64
  go_enter Tryz.func36, Tryz.ntmps36
  go_wp2_with fail
  go_loopw [2, 4] (fun va vk wr => ∃ (k : Nat) (A : Option Addr) (c : Nat), k ≤ 288 ∧ vk = .int .i64 k ∧ va = .slice A k c ∧ Hid (NewRowI w wr A c k (icells (fixS.take k)))) (fun _ vk _ => 288 - (intOf vk).toNat)
  case atStart => exact ⟨0, none, 0, by omega, rfl, rfl, own_nil _ _ _ _, Chg.refl _ _, fun x h => by cases h⟩
  case round =>
    obtain ⟨k, A, c, hk, rfl, rfl, HR⟩ := hrel
    by_cases hlt : k < 288
    · have htk := fixS_take k hlt
      have HTK := keepf htk
      obtain ⟨v, hv⟩ : ∃ v, v = nS k := ⟨_, rfl⟩
      rw [← hv] at HTK
      clear htk
      have d0 : decide ((k : Int) < 288) = true := by simp; omega
      have d0' : decide (k < 288) = true := by simp; omega
      have hcase : (k < 144 ∧ v = 8) ∨ (144 ≤ k ∧ k < 256 ∧ v = 9) ∨ (256 ≤ k ∧ k < 280 ∧ v = 7) ∨ (280 ≤ k ∧ v = 8) := by
        rw [hv]
        unfold nS
        split
        · omega
        · split <;> omega
      clear hv
      rcases hcase with ⟨h1, rfl⟩ | ⟨h1, h2, rfl⟩ | ⟨h1, h2, rfl⟩ | ⟨h1, rfl⟩
      · have a1 : decide ((144 : Int) ≤ k) = false := by simp; omega
        have a2 : decide (144 ≤ k) = false := by simp; omega
        have a3 : decide ((256 : Int) ≤ k) = false := by simp; omega
        have a4 : decide (256 ≤ k) = false := by simp; omega
        go_wp2_with (at_builtin; go_loud (refine wpList_append_src rfl (.tmp 23) (.tmp 25) 63 rfl 3 i0 (.int .i64 0) 1 8 Tryz.underlying63 hi hz0 hz1 hz2 rfl (by decide) (.slice A k c) _ _ rfl (own_chg (S := NoS) HR.out.o ((Chg.refl _ _).alloc _) (fun _ _ h => h)) _ _ _ [.int .i64 (8 : Nat)] rfl (src_one _ _ _) (by simp [Value.oneCell']) (by unfold maxLen; omega) (by omega) ?_); intro S2 w2 hown2 hgr hat; obtain ⟨A2, c2, rfl, hA2⟩ := own_slice hown2; have HN := keepf (HR.out.more hown2 hgr hat); clear hown2 hgr hat hA2)
        go_roundw
        case rel => exact ⟨k + 1, A2, c2, by omega, by go_num, by simp, by rw [HTK.out]; exact HN.out⟩
        case measure => simp [intOf]; omega
      · have a1 : decide ((144 : Int) ≤ k) = true := by simp; omega
        have a2 : decide (144 ≤ k) = true := by simp; omega
        have a3 : decide ((256 : Int) ≤ k) = false := by simp; omega
        have a4 : decide (256 ≤ k) = false := by simp; omega
        have a5 : decide ((k : Int) < 256) = true := by simp; omega
        have a6 : decide (k < 256) = true := by simp; omega
        go_wp2_with (at_builtin; go_loud (refine wpList_append_src rfl (.tmp 23) (.tmp 25) 63 rfl 3 i0 (.int .i64 0) 1 8 Tryz.underlying63 hi hz0 hz1 hz2 rfl (by decide) (.slice A k c) _ _ rfl (own_chg (S := NoS) HR.out.o ((Chg.refl _ _).alloc _) (fun _ _ h => h)) _ _ _ [.int .i64 (9 : Nat)] rfl (src_one _ _ _) (by simp [Value.oneCell']) (by unfold maxLen; omega) (by omega) ?_); intro S2 w2 hown2 hgr hat; obtain ⟨A2, c2, rfl, hA2⟩ := own_slice hown2; have HN := keepf (HR.out.more hown2 hgr hat); clear hown2 hgr hat hA2)
        go_roundw
        case rel => exact ⟨k + 1, A2, c2, by omega, by go_num, by simp, by rw [HTK.out]; exact HN.out⟩
        case measure => simp [intOf]; omega
      · have a1 : decide ((144 : Int) ≤ k) = true := by simp; omega
        have a2 : decide (144 ≤ k) = true := by simp; omega
        have a3 : decide ((256 : Int) ≤ k) = true := by simp; omega
        have a4 : decide (256 ≤ k) = true := by simp; omega
        have a5 : decide ((k : Int) < 256) = false := by simp; omega
        have a6 : decide (k < 256) = false := by simp; omega
        have a7 : decide ((k : Int) < 280) = true := by simp; omega
        have a8 : decide (k < 280) = true := by simp; omega
        go_wp2_with (at_builtin; go_loud (refine wpList_append_src rfl (.tmp 23) (.tmp 25) 63 rfl 3 i0 (.int .i64 0) 1 8 Tryz.underlying63 hi hz0 hz1 hz2 rfl (by decide) (.slice A k c) _ _ rfl (own_chg (S := NoS) HR.out.o ((Chg.refl _ _).alloc _) (fun _ _ h => h)) _ _ _ [.int .i64 (7 : Nat)] rfl (src_one _ _ _) (by simp [Value.oneCell']) (by unfold maxLen; omega) (by omega) ?_); intro S2 w2 hown2 hgr hat; obtain ⟨A2, c2, rfl, hA2⟩ := own_slice hown2; have HN := keepf (HR.out.more hown2 hgr hat); clear hown2 hgr hat hA2)
        go_roundw
        case rel => exact ⟨k + 1, A2, c2, by omega, by go_num, by simp, by rw [HTK.out]; exact HN.out⟩
        case measure => simp [intOf]; omega
      · have a1 : decide ((144 : Int) ≤ k) = true := by simp; omega
        have a2 : decide (144 ≤ k) = true := by simp; omega
        have a3 : decide ((256 : Int) ≤ k) = true := by simp; omega
        have a4 : decide (256 ≤ k) = true := by simp; omega
        have a5 : decide ((k : Int) < 256) = false := by simp; omega
        have a6 : decide (k < 256) = false := by simp; omega
        have a7 : decide ((k : Int) < 280) = false := by simp; omega
        have a8 : decide (k < 280) = false := by simp; omega
        go_wp2_with (at_builtin; go_loud (refine wpList_append_src rfl (.tmp 23) (.tmp 25) 63 rfl 3 i0 (.int .i64 0) 1 8 Tryz.underlying63 hi hz0 hz1 hz2 rfl (by decide) (.slice A k c) _ _ rfl (own_chg (S := NoS) HR.out.o ((Chg.refl _ _).alloc _) (fun _ _ h => h)) _ _ _ [.int .i64 (8 : Nat)] rfl (src_one _ _ _) (by simp [Value.oneCell']) (by unfold maxLen; omega) (by omega) ?_); intro S2 w2 hown2 hgr hat; obtain ⟨A2, c2, rfl, hA2⟩ := own_slice hown2; have HN := keepf (HR.out.more hown2 hgr hat); clear hown2 hgr hat hA2)
        go_roundw
        case rel => exact ⟨k + 1, A2, c2, by omega, by go_num, by simp, by rw [HTK.out]; exact HN.out⟩
        case measure => simp [intOf]; omega
    · obtain rfl : k = 288 := by omega
      have hfull : fixS.take 288 = fixS := List.take_of_length_le (by simp [fixS])
      rw [hfull] at HR
      clear hfull
      go_wp2_with fail
      have hst : wr = wr := rfl
      go_loopw [3, 6] (fun va vk w5 => ∃ (k : Nat) (B : Option Addr) (d : Nat), k ≤ 30 ∧ vk = .int .i64 k ∧ va = .slice B k d ∧ Hid (NewRowI wr w5 B d k (icells (fixD.take k)))) (fun _ vk _ => 30 - (intOf vk).toNat)
      case atStart => exact ⟨0, none, 0, by omega, rfl, rfl, own_nil _ _ _ _, Chg.refl _ _, fun x h => by cases h⟩
      case round =>
        obtain ⟨k, B, d, hk, rfl, rfl, HD⟩ := hrel
        by_cases hlt : k < 30
        · have htk := fixD_take k hlt
          have HTK := keepf htk
          clear htk
          go_wp2_with (at_builtin; go_loud (refine wpList_append_src rfl (.tmp 31) (.tmp 32) 63 rfl 3 i0 (.int .i64 0) 1 8 Tryz.underlying63 hi hz0 hz1 hz2 rfl (by decide) (.slice B k d) _ _ rfl (own_chg (S := NoS) HD.out.o ((Chg.refl _ _).alloc _) (fun _ _ h => h)) _ _ _ [.int .i64 5] rfl (src_one _ _ _) (by simp [Value.oneCell']) (by unfold maxLen; omega) (by omega) ?_); intro S2 w2 hown2 hgr hat; obtain ⟨A2, c2, rfl, hA2⟩ := own_slice hown2; have HN := keepf (HD.out.more hown2 hgr hat); clear hown2 hgr hat hA2)
          go_roundw
          case rel =>
            first
              | exact ⟨k + 1, A2, c2, by omega, by go_num, by simp, by rw [HTK.out]; exact HN.out⟩
              | (exact ⟨k + 1, by omega, by omega, A2, c2, by simp, by rw [HTK.out]; exact HN.out⟩)
          case measure => simp [intOf]; omega
        · obtain rfl : k = 30 := by omega
          have hfull : fixD.take 30 = fixD := List.take_of_length_le (by simp [fixD])
          rw [hfull] at HD
          clear hfull
          go_wp2_with fail
          go_ret2
          exact ⟨A, B, c, d, rfl, own_chg HR.out.o HD.out.c (fun _ _ h => h), HD.out.o, HR.out.c.trans HD.out.c (fun _ _ h => h)⟩
set_option maxRecDepth 100000 in
theorem rorder_any (w : World) : Calls Tryz.prog 59 #[] w fun e w' => e = .returned (.slice (some ⟨w.heap.size, 0, none⟩) 19 19) ∧ w' = w.alloc (.cells orderCells 3) := by
  go_enter Tryz.func59, Tryz.ntmps59
  go_wp2
  go_ret
  exact ⟨rfl, rfl⟩
end Go.Proofs.YtmmilchmnimjoaaGreat
