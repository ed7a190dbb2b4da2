/- Merged by program: ZSum ConB. -/
import Derived.Test.YtmmilchmnimjoaaGreatN00
import Derived.Test.YtmmilchmnimjoaaGreatN30
import Derived.Lib.AppendZeros
/- Sums of bytes that lie in memory, by the program; a sum's four bytes, read again. -/
namespace Go.Proofs.YtmmilchmnimjoaaGreat
open Go.RowKit
set_option linter.unusedVariables false
set_option linter.unusedSimpArgs false
theorem asum_src (bs : List Nat) (A : Option Addr) (c : Nat) (w : World) (hS : Src w 1 A bs.length c (ucells bs)) (hc : bs.length ≤ c) (hb : ∀ x ∈ bs, x < 256) (hl : bs.length ≤ 1048576) :
    Calls Tryz.prog 27 #[.slice A bs.length c] w fun e w' => e = .returned (.int .u32 (sumA bs : Nat)) ∧ Chg NoS w w' :=
  adlerSum_any w ⟨A, bs.length, c, bs⟩ ⟨hS, rfl, hc, hb, fun _ _ _ h => h⟩ hl
theorem val4_b4 {b0 b1 b2 b3 x : Nat} (h0 : b0 < 256) (h1 : b1 < 256) (h2 : b2 < 256) (h3 : b3 < 256) (hx : x < 4294967296) : val4 b0 b1 b2 b3 = x ↔ [b0, b1, b2, b3] = b4 x := by
  unfold val4 b4
  simp only [List.cons.injEq, and_true]
  omega
theorem aval_src (l : List Nat) (h4 : l.length = 4) (A : Option Addr) (c : Nat) (w : World) (hS : Src w 1 A 4 c (ucells l)) (hb : ∀ x ∈ l, x < 256) :
    Calls Tryz.prog 32 #[.slice A 4 c] w fun e w' => ∃ v : Nat, e = .returned (.tuple #[.int .u32 (v : Nat), .int .i64 0]) ∧ Chg NoS w w' ∧ v < 4294967296 ∧ ∀ x, x < 4294967296 → (v = x ↔ l = b4 x) := by
  obtain ⟨b0, b1, b2, b3, rfl⟩ : ∃ b0 b1 b2 b3, l = [b0, b1, b2, b3] := by
    rcases l with _ | ⟨b0, _ | ⟨b1, _ | ⟨b2, _ | ⟨b3, _ | ⟨b5, l⟩⟩⟩⟩⟩
    · cases h4
    · cases h4
    · cases h4
    · cases h4
    · exact ⟨_, _, _, _, rfl⟩
    · simp at h4
  obtain ⟨b, off, rfl, hcell⟩ := hS.plain (by simp [ucells])
  have k0 := hb b0 (by simp)
  have k1 := hb b1 (by simp)
  have k2 := hb b2 (by simp)
  have k3 := hb b3 (by simp)
  refine (val_some b off c b0 b1 b2 b3 w k0 k1 k2 k3 (hcell 0 _ rfl) (hcell 1 _ rfl) (hcell 2 _ rfl) (hcell 3 _ rfl)).mono ?_
  rintro e w' ⟨rfl, q, rfl⟩
  exact ⟨_, rfl, (Chg.refl _ _).drewN q, by unfold val4; omega, fun x hx => val4_b4 k0 k1 k2 k3 hx⟩
end Go.Proofs.YtmmilchmnimjoaaGreat
/- Rows of bytes: Grow and Concat of the library at them. (Written by wip/tools/mkconb.py.) -/
namespace Go.Proofs.YtmmilchmnimjoaaGreat
open Go.RowKit
set_option linter.unusedVariables false
set_option linter.unusedSimpArgs false
abbrev OwnBy (w : World) (A : Option Addr) (c : Nat) (L : List Nat) : Prop := w.ownsRow 0 5 1 (.slice A L.length c) L.length (ucells L)
def NewBy (w : World) (L : List Nat) (e : Ending) (w' : World) : Prop :=
  ∃ A c, e = .returned (.slice A L.length c) ∧ OwnBy w' A c L ∧ Chg NoS w w' ∧ ∀ a, A = some a → w.heap.size ≤ a.block
theorem ucells_appB (L M : List Nat) : ucells (L ++ M) = ucells L ++ ucells M := by simp [ucells]
theorem growB_any (n : Nat) (w : World) (hn : n ≤ 100000) : Calls Tryz.prog 43 #[.slice none 0 0, .int .i64 n] w (NewBy w []) := by
  obtain ⟨i0, hi, hz0, hz1, hz2⟩ := info_parts info_u8
  rcases Nat.eq_zero_or_pos n with rfl | h0
  · go_enter Tryz.func43, Tryz.ntmps43
    go_wp2_with fail
    go_ret
    exact ⟨none, 0, rfl, own_nil _ _ _ _, Chg.refl _ _, fun a h => by cases h⟩
  · obtain ⟨cc, hcc⟩ : ∃ cc, cc = grownCap w n 0 5 := ⟨_, rfl⟩
    have hc1 : n ≤ cc := hcc ▸ grownCap_ge _ _ _ _
    have hc2 : cc ≤ maxLen := hcc ▸ grownCap_le_maxLen _ _ _ _ (by unfold maxLen; omega)
    have hrun := fun ty => Go.Lib.run_append_nil_zeros (P := Tryz.prog) w 22 3 ty 5 i0 _ .i64 .i64 Tryz.underlying22 Tryz.underlying3 hi hz0 n h0 (by rw [hz1]; omega) (by omega) (by rw [hz2]; omega)
    rw [← hcc] at hrun
    have HR := keepf hrun
    have HC2 := keepf hc2
    clear hrun hcc hc2
    have d1 : decide ((n : Int) < 0) = false := by simp
    have d2 : decide (0 < (n : Int)) = true := by simp; omega
    go_enter Tryz.func43, Tryz.ntmps43
    go_wp2_with (first
      | (at_builtin; go_loud (refine Go.Lib.wpList_append_run _ rfl (.tmp 20) (.tmp 21) 22 3 rfl _ _ rfl rfl _ _ (HR.out _) ?_)))
    go_ret
    refine ⟨some ⟨w.heap.size, 0, none⟩, cc, rfl, ⟨rfl, .inr ⟨w.heap.size, cc, _, rfl, Nat.zero_le _, heap_alloc_new w.drew _, Nat.zero_le _, HC2.out, ?_, rfl⟩⟩, ((Chg.refl _ w).drew).alloc _, ?_⟩
    · rw [Array.size_append, size_zeroCells, size_zeroCells]
      show n * 1 + (cc - n) * 1 = cc * 1
      omega
    · rintro a h; injection h with h; subst h; exact Nat.le_refl _
theorem take_moreB {α : Type} (L : List α) (k : Nat) (x : α) (h : L[k]? = some x) : L.take (k + 1) = L.take k ++ [x] := by
  rw [List.take_add_one, h]
  rfl
abbrev SlB := Option Addr × Nat × List Nat
def slvB (x : SlB) : Value := .slice x.1 x.2.2.length x.2.1
def allB (Xs : List SlB) : List Nat := Xs.flatMap (·.2.2)
theorem allB_take (Xs : List SlB) (k : Nat) : (allB (Xs.take k)).length ≤ (allB Xs).length := by
  have h : allB (Xs.take k) ++ allB (Xs.drop k) = allB Xs := by unfold allB; rw [← List.flatMap_append, List.take_append_drop]
  have h2 := congrArg List.length h
  rw [List.length_append] at h2
  omega
theorem allB_snoc (Xs : List SlB) (x : SlB) : allB (Xs ++ [x]) = allB Xs ++ x.2.2 := by simp [allB]
set_option maxHeartbeats 1000000 in
theorem concatB_any (Xs : List SlB) (A : Option Addr) (c : Nat) (w : World) (hX : Xs.length ≤ 100) (h0 : 0 < Xs.length) (hT : (allB Xs).length ≤ 100000) (hS : Src w 1 A Xs.length c (Xs.map slvB)) (hall : ∀ x ∈ Xs, Src w 1 x.1 x.2.2.length x.2.1 (ucells x.2.2)) :
    Calls Tryz.prog 25 #[.slice A Xs.length c] w (NewBy w (allB Xs)) := by
  obtain ⟨i0, hi, hz0, hz1, hz2⟩ := info_parts info_u8
  obtain ⟨b, off, rfl, hcell⟩ := hS.plain (by simpa using h0)
  have HC := keepf hcell
  have HALL := keepf hall
  have HT := keepf hT
  obtain ⟨n, hn⟩ : ∃ n, n = Xs.length := ⟨_, rfl⟩
  have HN := keepf hn
  rw [← hn] at hX ⊢
  have hle : Hid (∀ k, (allB (Xs.take k)).length ≤ 100000) := fun k => Nat.le_trans (allB_take Xs k) hT
  have HTK : Hid (Xs.take n = Xs) := by show _ = _; rw [hn, List.take_length]
  clear hn hS hcell hall h0 hT
  go_enter Tryz.func25, Tryz.ntmps25
  go_wp2_with fail
  go_loop [3, 11] (fun v i => ∃ k : Nat, k ≤ n ∧ i = .int .i64 k ∧ v = .int .i64 (allB (Xs.take k)).length) (fun _ i => n - (intOf i).toNat)
  case atStart => exact ⟨0, Nat.zero_le _, rfl, by simp [allB]⟩
  case round =>
    obtain ⟨k, hk, rfl, rfl⟩ := hrel
    by_cases hlt : k < n
    · obtain ⟨x, hx⟩ : ∃ x, Xs[k]? = some x := ⟨_, List.getElem?_eq_getElem (by have := HN.out; omega)⟩
      have hc := HC.out k (slvB x) (by simp [hx])
      unfold slvB at hc
      have e1 := hle.out (k + 1)
      rw [take_moreB Xs k x hx, allB_snoc, List.length_append] at e1
      obtain ⟨s, hs⟩ : ∃ s, s = (allB (Xs.take k)).length := ⟨_, rfl⟩
      obtain ⟨m, hm⟩ : ∃ m, m = x.2.2.length := ⟨_, rfl⟩
      have e2 : (allB (Xs.take (k + 1))).length = s + m := by rw [take_moreB Xs k x hx, allB_snoc, List.length_append, hs, hm]
      rw [← hs] at e1 ⊢
      rw [← hm] at e1 hc
      have E2 := keepf e2
      clear hs hm e2
      have d1 : decide ((s : Int) + m < 0) = false := by simp; omega
      go_wp2_with fail
      go_round
      case rel => exact ⟨k + 1, by omega, by go_num, by rw [E2.out]; go_num⟩
      case measure => simp [intOf]; omega
    · obtain rfl : n = k := by omega
      rw [HTK.out]
      obtain ⟨s, hs⟩ : ∃ s, s = (allB Xs).length := ⟨_, rfl⟩
      have HSS := keepf hs
      rw [← hs]
      have hsl : s ≤ 100000 := by have := HT.out; omega
      clear hs
      go_wp2_with (go_at_call 43; refine (growB_any s _ hsl).mono ?_; rintro e w3 ⟨A3, c3, rfl, ho3, hc3, hf3⟩; have HO3 := keepf ho3; have HC3 := keepf hc3; have HF3 := keepf hf3; clear ho3 hc3 hf3)
      go_loopw [6, 27] (fun va vb wr => ∃ k : Nat, ∃ A2 : Option Addr, ∃ c2 : Nat, k ≤ n ∧ vb = .int .i64 k ∧ va = .slice A2 (allB (Xs.take k)).length c2 ∧ Hid (OwnBy wr A2 c2 (allB (Xs.take k))) ∧ Hid (Chg NoS w wr) ∧ Hid (∀ a, A2 = some a → w.heap.size ≤ a.block)) (fun _ vb _ => n - (intOf vb).toNat)
      case atStart => exact ⟨0, A3, c3, Nat.zero_le _, rfl, by simp [allB], keepf (by simpa [allB] using HO3.out), HC3.out, HF3.out⟩
      case round =>
        obtain ⟨k, A2, c2, hk, rfl, rfl, HO, HC1, HF⟩ := hrel
        by_cases hlt : k < n
        · obtain ⟨x, hx⟩ : ∃ x, Xs[k]? = some x := ⟨_, List.getElem?_eq_getElem (by have := HN.out; omega)⟩
          have hc := (HC1.out.cell (p := ⟨b, off + k, none⟩) (by exact cell_lt (HC.out k (slvB x) (by simp [hx]))) (fun h => h)).trans (HC.out k (slvB x) (by simp [hx]))
          unfold slvB at hc
          have HX := keepf (take_moreB Xs k x hx)
          have HSx := keepf ((HALL.out x (List.mem_of_getElem? hx)).below (w0 := w) HC1.out)
          have hlen := hle.out (k + 1)
          rw [HX.out, allB_snoc, List.length_append] at hlen
          have HLN := keepf hlen
          obtain ⟨xa, xc, xl⟩ := x
          clear hlen hx
          go_wp2_with (first
            | (at_builtin; go_loud (refine wpList_append_src rfl (.tmp 31) (.tmp 32) 22 rfl 5 i0 (.int .u8 0) 1 1 Tryz.underlying22 hi hz0 hz1 hz2 rfl (by decide) (.slice A2 (allB (Xs.take k)).length c2) _ _ rfl HO.out _ _ _ (ucells xl) rfl HSx.out (ucells_one _) (by have := HLN.out; unfold maxLen; simp at this; omega) (by have := HLN.out; simp at this; omega) ?_); intro S2 w2 hown2 hgr hat; obtain ⟨A4, c4, rfl, hA4⟩ := own_slice hown2; have HG2 := keepf hgr; have HO2 := keepf hown2; have HA2 := keepf hat; clear hgr hown2 hat hA4))
          go_roundw
          case rel =>
            refine ⟨k + 1, A4, c4, by omega, by go_num, ?_, ?_, HC1.out.grown HG2.out ?_, ?_⟩
            · rw [HX.out, allB_snoc]; simp
            · have h2 := HO2.out
              rw [HX.out, allB_snoc]
              show w2.ownsRow _ _ _ _ _ (ucells _)
              rw [ucells_appB, List.length_append]
              exact h2
            · intro i hi hlt2
              rcases A2 with _ | a2
              · simp [Value.ownBlock] at hi
              · have h3 := HF.out a2 rfl
                simp [Value.ownBlock] at hi
                omega
            · rintro a rfl
              have hs := HC1.out.size
              rcases HA2.out with h3 | h3
              · rcases A2 with _ | a2
                · simp [Value.ownBlock] at h3
                · have h4 := HF.out a2 rfl
                  simp [Value.ownBlock] at h3
                  omega
              · simp [Value.ownBlock] at h3
                omega
          case measure => simp [intOf]; omega
        · obtain rfl : n = k := by omega
          rw [HTK.out] at HO ⊢
          go_wp2_with fail
          go_ret
          exact ⟨A2, c2, rfl, HO.out, HC1.out, HF.out⟩
end Go.Proofs.YtmmilchmnimjoaaGreat
