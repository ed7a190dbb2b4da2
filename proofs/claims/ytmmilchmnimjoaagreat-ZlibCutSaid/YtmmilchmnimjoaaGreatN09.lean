/- Merged by program: Fix ConI Fixed BlockP Inf WorkI. -/
import Derived.Test.YtmmilchmnimjoaaGreatN06
import Derived.Test.YtmmilchmnimjoaaGreatN08
import Derived.Laws.CopyOwn
import Derived.Laws.MakeOwn
import Derived.Lib.AppendZeros
/- So many times one number: the library's Repeat at one number; same. -/
namespace Go.Proofs.YtmmilchmnimjoaaGreat
open Go.RowKit
set_option linter.unusedVariables false
set_option linter.unusedSimpArgs false
def rpI (m k : Nat) (v : Int) : List Value := icells (List.replicate k v ++ List.replicate (m - k) 0)
theorem rpI_len (m k : Nat) (v : Int) (h : k ≤ m) : (rpI m k v).length = m := by simp [rpI, icells]; omega
theorem rpI_all (m : Nat) (v : Int) : rpI m m v = icells (List.replicate m v) := by simp [rpI]
theorem rpI_splice (m k c : Nat) (v : Int) (h : k + c ≤ m) : splice (rpI m k v) k (icells (List.replicate c v)) = rpI m (k + c) v := by
  unfold splice rpI
  have h1 : (icells (List.replicate c v)).length = c := by simp [icells]
  rw [h1]
  simp only [icells, List.map_append, List.map_replicate]
  rw [List.take_append_of_le_length (by simp), List.drop_append, List.drop_of_length_le (by simp), List.length_replicate, List.take_of_length_le (by simp), List.nil_append, List.drop_replicate, ← List.append_assoc, List.replicate_append_replicate]
  congr 2
  omega
theorem rpI_get (m k j : Nat) (v : Int) (h : j < k) : (rpI m k v)[j]? = some (.int .i64 v) := by
  simp [rpI, icells, List.getElem?_append_left, h]
theorem own_full {w : World} {e : TypeId} {g m : Nat} {xs : List Value} (h : w.ownsRow 0 e 1 (.slice (some ⟨g, 0, none⟩) m m) m xs) : w.heap[g]? = some (.cells xs.toArray e (0, 0)) := by
  rcases h.2 with ⟨h', h0⟩ | ⟨g', cap', cur, h', hb, hh, h1, h2, h3, h4⟩
  · simp at h'
  · simp only [Value.slice.injEq, Option.some.injEq, Addr.mk.injEq, and_true, true_and] at h'
    obtain ⟨rfl, rfl⟩ := h'
    rw [hh, ← h4, Nat.mul_one]
    rw [List.take_of_length_le (by simp; omega)]
theorem full_own {w : World} {e : TypeId} {g m : Nat} {xs : List Value} (h : w.heap[g]? = some (.cells xs.toArray e (0, 0))) (hl : xs.length = m) (hm : m ≤ maxLen) : w.ownsRow 0 e 1 (.slice (some ⟨g, 0, none⟩) m m) m xs :=
  ⟨by omega, .inr ⟨g, m, xs.toArray, rfl, Nat.zero_le _, h, Nat.le_refl _, hm, by simp [hl], by rw [Nat.mul_one, ← hl]; simp⟩⟩
theorem icells_rep_one (c : Nat) (v : Int) : ∀ u ∈ icells (List.replicate c v), u.oneCell' = true := icells_one _
set_option maxHeartbeats 1000000 in
set_option maxRecDepth 100000 in
theorem repeatI (gx m : Nat) (v : Int) (w : World) (hx : w.cell? ⟨gx, 0, none⟩ = some (.int .i64 v)) (hm : 1 ≤ m) (hm2 : m ≤ 100000) :
    Calls Tryz.prog 122 #[.slice (some ⟨gx, 0, none⟩) 1 1, .int .i64 m] w (NewRow w 3 1 m (icells (List.replicate m v))) := by
  obtain ⟨i0, hi, hz0, hz1, hz2⟩ := info_parts info_i64
  have HX := keepf hx
  have lx : gx < w.heap.size := cell_lt hx
  have HLX := keepf lx
  have d0 : decide ((m : Int) < 0) = false := by simp
  have hq : 1 * m / 18446744073709551616 = 0 := by omega
  have hr : 1 * m % 18446744073709551616 = m := by omega
  have HMul := keepf (fun W => Tryz.bits_Mul 1 m (by omega) (by omega) W)
  rw [hq, hr] at HMul
  have hsz : (Tryz.prog.info? 3).map (·.size) = some 1 := by kernel_rfl
  clear hx lx hq hr
  go_enter Tryz.func122, Tryz.ntmps122
  go_upto_region 7 with (first
    | (go_at_call 141; refine (HMul.out _).mono ?_; rintro e w1 ⟨rfl, rfl⟩)
    | (at_make; go_loud (refine wpList_make_full _ rfl (.tmp 29) (.tmp 29) 63 rfl 0 3 i0 (.int .i64 0) 1 Tryz.underlying63 hi hz0 hz1 .i64 .i64 _ _ m rfl rfl rfl rfl (by rw [hz2]; omega) (by unfold maxLen; omega) (Nat.zero_le _) ?_); intro w2 hown2 hgr; have HO2 := keepf hown2; have HG2 := keepf hgr; clear hown2 hgr))
  have hz : (madeCells (Value.int .i64 0).cells (m * 1)).toList = rpI m 0 v := by
    rw [Nat.mul_one]
    exact (toList_madeCells_one _ _).trans (by simp [rpI, icells])
  have hb2 := own_full HO2.out
  rw [hz] at hb2
  have hc2 : Chg NoS w1 w2 := (Chg.refl NoS w1).grown HG2.out (fun _ e _ => by cases e)
  obtain ⟨gn, hgn⟩ : ∃ gn, gn = w1.heap.size := ⟨_, rfl⟩
  have hx2 : w2.cell? ⟨gx, 0, none⟩ = some (.int .i64 v) := (hc2.cell (p := ⟨gx, 0, none⟩) HLX.out (fun h => h)).trans HX.out
  rw [← hgn] at hb2 ⊢
  have HB2 := keepf hb2
  have HGN := keepf hgn
  have hpos : 0 < (icells (List.replicate 1 v)).length → (some (⟨gn, 0, none⟩ : Addr) = some ⟨gn, 0, none⟩ ∧ ∃ ad, some (⟨gx, 0, none⟩ : Addr) = some ad ∧ ∀ j u, (icells (List.replicate 1 v))[j]? = some u → w2.cell? (ad.add j) = some u) := fun _ => ⟨rfl, _, rfl, fun j u hu => by
    have hj : j = 0 := by
      have := (List.getElem?_eq_some_iff.1 hu).1
      simp [icells] at this
      omega
    subst hj
    simp [icells] at hu
    subst hu
    rw [Addr.add_mid]
    exact hx2⟩
  have HPos := keepf hpos
  have hmin1 : (icells (List.replicate 1 v)).length = Nat.min 1 m := by
    show _ = min 1 m
    rw [Nat.min_eq_left hm]
    simp [icells]
  have HMin1 := keepf hmin1
  have hfit1 : 0 + (icells (List.replicate 1 v)).length ≤ (rpI m 0 v).length := by
    rw [rpI_len m 0 v (by omega)]
    simp [icells]
    omega
  have HFit1 := keepf hfit1
  have hspl1 := rpI_splice m 0 1 v (by omega)
  have HSpl1 := keepf hspl1
  have HBel := keepf hc2.no_below
  rw [← HGN.out] at HBel
  clear hz hb2 hc2 hgn hx2 hpos hmin1 hfit1 hspl1 HO2 HG2 HX
  go_wp2_with (first
    | (go_loud (refine wpList_copy_splice rfl (.tmp 31) (.tmp 32) 63 63 rfl 3 Tryz.underlying63 hsz _ _ _ _ _ _ rfl rfl gn 0 (rpI m 0 v) 3 HB2.out (icells (List.replicate 1 v)) HMin1.out HPos.out HFit1.out (icells_rep_one _ _) gn w1 HBel.out (Nat.le_refl _) ?_; intro w3 hb3 hbel3; rw [HSpl1.out] at hb3; have HB3 := hb3; have HBel3 := keepf hbel3; clear hb3 hbel3)))
  go_loopw [8] (fun vi wr => ∃ k : Nat, 1 ≤ k ∧ k ≤ m ∧ vi = .int .i64 k ∧ Hid (wr.heap[gn]? = some (.cells (rpI m k v).toArray 3 (0, 0))) ∧ Hid (Below gn w1 wr)) (fun vi _ => m - (intOf vi).toNat)
  case atStart => exact ⟨1, by omega, hm, by simp [icells, goInt], keepf HB3.out, HBel3.out⟩
  case round =>
    obtain ⟨k, hk1, hkm, rfl, HBk, HBelk⟩ := hrel
    by_cases hlt : k < m
    · have hs1 := fun W => slice_toI (some ⟨gn, 0, none⟩) m m k (by omega) W
      have hs2 := fun W => slice_fromI gn 0 m m k (by omega) (by omega) W
      rw [show 0 + k = k from by omega] at hs2
      go_upto_region 9 with fail
      obtain ⟨c, hc⟩ : ∃ c, c = min k (m - k) := ⟨_, rfl⟩
      have hpos : 0 < (icells (List.replicate c v)).length → (some (⟨gn, k, none⟩ : Addr) = some ⟨gn, k, none⟩ ∧ ∃ ad, some (⟨gn, 0, none⟩ : Addr) = some ad ∧ ∀ j u, (icells (List.replicate c v))[j]? = some u → wr.drew.cell? (ad.add j) = some u) := fun _ => ⟨rfl, _, rfl, fun j u hu => by
        have hj : j < c := by
          have := (List.getElem?_eq_some_iff.1 hu).1
          simpa [icells] using this
        have hu2 : u = .int .i64 v := by
          simp [icells, hj] at hu
          exact hu.symm
        rw [Addr.add_mid, hu2]
        have h1 := cell_of_row wr gn (0 + j) _ _ _ HBk.out
        rw [List.getElem?_toArray, Nat.zero_add, rpI_get m k j v (by omega)] at h1
        rw [Nat.zero_add]
        exact h1⟩
      have HPos2 := keepf hpos
      have hmin : (icells (List.replicate c v)).length = Nat.min k (m - k) := by show _ = min k (m - k); rw [← hc]; simp [icells]
      have HMin := keepf hmin
      have hfit : k + (icells (List.replicate c v)).length ≤ (rpI m k v).length := by
        rw [rpI_len m k v (by omega)]
        simp [icells]
        omega
      have HFit := keepf hfit
      have HCk := keepf (show k + c ≤ m by omega)
      have HC1 := keepf (show 1 ≤ c by omega)
      have hwr : IntKind.i64.wrap ((k : Int) + c) = (k : Int) + c := by rw [IntKind.wrap_i64]; omega
      have hc100 : c ≤ m := by omega
      clear hpos hmin hfit hc
      first
        | (go_loud (go_region_held3 (fun _ => True)
            (trivial)
            ((refine step_copy_splice (by rfl) _ _ 63 63 (by rfl) 3 Tryz.underlying63 hsz _ _ _ _ _ _ (by rfl) (by rfl) gn k (rpI m k v) 3 HBk.out (icells (List.replicate c v)) HMin.out HPos2.out HFit.out (icells_rep_one _ _) gn w1 (HBelk.out.trans ((Below.refl _ _).drew)) (Nat.le_refl _) ?_; intro w3 hb3 hbel3; rw [rpI_splice m k c v HCk.out] at hb3))))
        | fail "region"
      have hlc : (icells (List.replicate c v)).length = c := by simp [icells]
      rw [hlc, hwr]
      have HB3' := hb3
      have HBel3' := keepf hbel3
      clear hb3 hbel3 hlc hwr
      go_wp2_with fail
      go_roundw
      case rel => exact ⟨k + c, by omega, HCk.out, by go_num, HB3', HBel3'.out⟩
      case measure => simp [intOf]; have := HC1.out; omega
    · obtain rfl : k = m := by omega
      go_wp2_with fail
      go_ret
      have hB := HBk.out
      rw [rpI_all] at hB
      have hbl := HBelk.out
      rw [HGN.out] at hbl
      exact ⟨_, _, rfl, full_own hB (by simp [icells]) (by unfold maxLen; omega), Chg.of_below hbl, fun i hi e => by
        simp [Value.ownBlock] at e
        have := HGN.out
        omega⟩
set_option maxRecDepth 100000 in
theorem same_any (n : Nat) (x : Int) (w : World) (hn : 1 ≤ n) (hn2 : n ≤ 100000) :
    Calls Tryz.prog 101 #[.int .i64 n, .int .i64 x] w (NewRow w 3 1 n (icells (List.replicate n x))) := by
  have HR := keepf (repeatI w.heap.size n x (w.alloc (.cells #[.int .i64 x] 3)) (by rw [(Blk.new w 3 _).cell]; rfl) hn hn2)
  go_enter Tryz.func101, Tryz.ntmps101
  go_wp2_with (go_at_call 122; refine HR.out.mono ?_; rintro e w2 ⟨A, c, rfl, ho2, hc2, hf2⟩; have HO2 := keepf ho2; have HC2 := keepf hc2; have HF2 := keepf hf2; clear ho2 hc2 hf2)
  go_ret
  exact ⟨A, c, rfl, HO2.out, ((Chg.refl NoS w).alloc _).trans HC2.out (fun _ _ h => h), fun i hi => HF2.out i (by simp; omega)⟩
end Go.Proofs.YtmmilchmnimjoaaGreat
/- Rows of integers: Grow and Concat of the library at them. -/
namespace Go.Proofs.YtmmilchmnimjoaaGreat
open Go.RowKit
set_option linter.unusedVariables false
set_option linter.unusedSimpArgs false
def NewI (w : World) (L : List Int) (e : Ending) (w' : World) : Prop :=
  ∃ A c, e = .returned (.slice A L.length c) ∧ OwnI w' A c L ∧ Chg NoS w w' ∧ ∀ a, A = some a → w.heap.size ≤ a.block
theorem icells_app (L M : List Int) : icells (L ++ M) = icells L ++ icells M := by simp [icells]
theorem growI_any (n : Nat) (w : World) (hn : n ≤ 100000) : Calls Tryz.prog 121 #[.slice none 0 0, .int .i64 n] w (NewI w []) := by
  obtain ⟨i0, hi, hz0, hz1, hz2⟩ := info_parts info_i64
  rcases Nat.eq_zero_or_pos n with rfl | h0
  · go_enter Tryz.func121, Tryz.ntmps121
    go_wp2_with fail
    go_ret
    exact ⟨none, 0, rfl, own_nil _ _ _ _, Chg.refl _ _, fun a h => by cases h⟩
  · obtain ⟨cc, hcc⟩ : ∃ cc, cc = grownCap w n 0 3 := ⟨_, rfl⟩
    have hc1 : n ≤ cc := hcc ▸ grownCap_ge _ _ _ _
    have hc2 : cc ≤ maxLen := hcc ▸ grownCap_le_maxLen _ _ _ _ (by unfold maxLen; omega)
    have hrun := fun ty => Go.Lib.run_append_nil_zeros (P := Tryz.prog) w 63 3 ty 3 i0 _ .i64 .i64 Tryz.underlying63 Tryz.underlying3 hi hz0 n h0 (by rw [hz1]; omega) (by omega) (by rw [hz2]; omega)
    rw [← hcc] at hrun
    have HR := keepf hrun
    have HC2 := keepf hc2
    clear hrun hcc hc2
    have d1 : decide ((n : Int) < 0) = false := by simp
    have d2 : decide (0 < (n : Int)) = true := by simp; omega
    go_enter Tryz.func121, Tryz.ntmps121
    go_wp2_with (first
      | (at_builtin; go_loud (refine Go.Lib.wpList_append_run _ rfl (.tmp 20) (.tmp 21) 63 3 rfl _ _ rfl rfl _ _ (HR.out _) ?_)))
    go_ret
    refine ⟨some ⟨w.heap.size, 0, none⟩, cc, rfl, ⟨rfl, .inr ⟨w.heap.size, cc, _, rfl, Nat.zero_le _, heap_alloc_new w.drew _, Nat.zero_le _, HC2.out, ?_, rfl⟩⟩, ((Chg.refl _ w).drew).alloc _, ?_⟩
    · rw [Array.size_append, size_zeroCells, size_zeroCells]
      show n * 1 + (cc - n) * 1 = cc * 1
      omega
    · rintro a h; injection h with h; subst h; exact Nat.le_refl _
theorem take_moreI {α : Type} (L : List α) (k : Nat) (x : α) (h : L[k]? = some x) : L.take (k + 1) = L.take k ++ [x] := by
  rw [List.take_add_one, h]
  rfl
abbrev SlI := Option Addr × Nat × List Int
def slvI (x : SlI) : Value := .slice x.1 x.2.2.length x.2.1
def allI (Xs : List SlI) : List Int := Xs.flatMap (·.2.2)
theorem allI_take (Xs : List SlI) (k : Nat) : (allI (Xs.take k)).length ≤ (allI Xs).length := by
  have h : allI (Xs.take k) ++ allI (Xs.drop k) = allI Xs := by unfold allI; rw [← List.flatMap_append, List.take_append_drop]
  have h2 := congrArg List.length h
  rw [List.length_append] at h2
  omega
theorem allI_snoc (Xs : List SlI) (x : SlI) : allI (Xs ++ [x]) = allI Xs ++ x.2.2 := by simp [allI]
set_option maxHeartbeats 1000000 in
theorem concatI_any (Xs : List SlI) (A : Option Addr) (c : Nat) (w : World) (hX : Xs.length ≤ 100) (h0 : 0 < Xs.length) (hT : (allI Xs).length ≤ 100000) (hS : Src w 1 A Xs.length c (Xs.map slvI)) (hall : ∀ x ∈ Xs, Src w 1 x.1 x.2.2.length x.2.1 (icells x.2.2)) :
    Calls Tryz.prog 100 #[.slice A Xs.length c] w (NewI w (allI Xs)) := by
  obtain ⟨i0, hi, hz0, hz1, hz2⟩ := info_parts info_i64
  obtain ⟨b, off, rfl, hcell⟩ := hS.plain (by simpa using h0)
  have HC := keepf hcell
  have HALL := keepf hall
  have HT := keepf hT
  obtain ⟨n, hn⟩ : ∃ n, n = Xs.length := ⟨_, rfl⟩
  have HN := keepf hn
  rw [← hn] at hX ⊢
  have hle : Hid (∀ k, (allI (Xs.take k)).length ≤ 100000) := fun k => Nat.le_trans (allI_take Xs k) hT
  have HTK : Hid (Xs.take n = Xs) := by show _ = _; rw [hn, List.take_length]
  clear hn hS hcell hall h0 hT
  go_enter Tryz.func100, Tryz.ntmps100
  go_wp2_with fail
  go_loop [3, 11] (fun v i => ∃ k : Nat, k ≤ n ∧ i = .int .i64 k ∧ v = .int .i64 (allI (Xs.take k)).length) (fun _ i => n - (intOf i).toNat)
  case atStart => exact ⟨0, Nat.zero_le _, rfl, by simp [allI]⟩
  case round =>
    obtain ⟨k, hk, rfl, rfl⟩ := hrel
    by_cases hlt : k < n
    · obtain ⟨x, hx⟩ : ∃ x, Xs[k]? = some x := ⟨_, List.getElem?_eq_getElem (by have := HN.out; omega)⟩
      have hc := HC.out k (slvI x) (by simp [hx])
      unfold slvI at hc
      have e1 := hle.out (k + 1)
      rw [take_moreI Xs k x hx, allI_snoc, List.length_append] at e1
      obtain ⟨s, hs⟩ : ∃ s, s = (allI (Xs.take k)).length := ⟨_, rfl⟩
      obtain ⟨m, hm⟩ : ∃ m, m = x.2.2.length := ⟨_, rfl⟩
      have e2 : (allI (Xs.take (k + 1))).length = s + m := by rw [take_moreI Xs k x hx, allI_snoc, List.length_append, hs, hm]
      rw [← hs] at e1 ⊢
      rw [← hm] at e1 hc
      have E2 := keepf e2
      clear hs hm e2
      have d1 : decide ((s : Int) + m < 0) = false := by simp; omega
      go_wp2_with fail
      go_round
      case rel => exact ⟨k + 1, by omega, by go_num, by rw [E2.out]; go_num⟩
      case measure => simp [intOf]; omega
    · obtain rfl : n = k := by omega
      rw [HTK.out]
      obtain ⟨s, hs⟩ : ∃ s, s = (allI Xs).length := ⟨_, rfl⟩
      have HSS := keepf hs
      rw [← hs]
      have hsl : s ≤ 100000 := by have := HT.out; omega
      clear hs
      go_wp2_with (go_at_call 121; refine (growI_any s _ hsl).mono ?_; rintro e w3 ⟨A3, c3, rfl, ho3, hc3, hf3⟩; have HO3 := keepf ho3; have HC3 := keepf hc3; have HF3 := keepf hf3; clear ho3 hc3 hf3)
      go_loopw [6, 27] (fun va vb wr => ∃ k : Nat, ∃ A2 : Option Addr, ∃ c2 : Nat, k ≤ n ∧ vb = .int .i64 k ∧ va = .slice A2 (allI (Xs.take k)).length c2 ∧ Hid (OwnI wr A2 c2 (allI (Xs.take k))) ∧ Hid (Chg NoS w wr) ∧ Hid (∀ a, A2 = some a → w.heap.size ≤ a.block)) (fun _ vb _ => n - (intOf vb).toNat)
      case atStart => exact ⟨0, A3, c3, Nat.zero_le _, rfl, by simp [allI], keepf (by simpa [allI] using HO3.out), HC3.out, HF3.out⟩
      case round =>
        obtain ⟨k, A2, c2, hk, rfl, rfl, HO, HC1, HF⟩ := hrel
        by_cases hlt : k < n
        · obtain ⟨x, hx⟩ : ∃ x, Xs[k]? = some x := ⟨_, List.getElem?_eq_getElem (by have := HN.out; omega)⟩
          have hc := (HC1.out.cell (p := ⟨b, off + k, none⟩) (by exact cell_lt (HC.out k (slvI x) (by simp [hx]))) (fun h => h)).trans (HC.out k (slvI x) (by simp [hx]))
          unfold slvI at hc
          have HX := keepf (take_moreI Xs k x hx)
          have HSx := keepf ((HALL.out x (List.mem_of_getElem? hx)).below (w0 := w) HC1.out)
          have hlen := hle.out (k + 1)
          rw [HX.out, allI_snoc, List.length_append] at hlen
          have HLN := keepf hlen
          obtain ⟨xa, xc, xl⟩ := x
          clear hlen hx
          go_wp2_with (first
            | (at_builtin; go_loud (refine wpList_append_src rfl (.tmp 31) (.tmp 32) 63 rfl 3 i0 (.int .i64 0) 1 8 Tryz.underlying63 hi hz0 hz1 hz2 rfl (by decide) (.slice A2 (allI (Xs.take k)).length c2) _ _ rfl HO.out _ _ _ (icells xl) rfl HSx.out (icells_one _) (by have := HLN.out; unfold maxLen; simp at this; omega) (by have := HLN.out; simp at this; omega) ?_); intro S2 w2 hown2 hgr hat; obtain ⟨A4, c4, rfl, hA4⟩ := own_slice hown2; have HG2 := keepf hgr; have HO2 := keepf hown2; have HA2 := keepf hat; clear hgr hown2 hat hA4))
          go_roundw
          case rel =>
            refine ⟨k + 1, A4, c4, by omega, by go_num, ?_, ?_, HC1.out.grown HG2.out ?_, ?_⟩
            · rw [HX.out, allI_snoc]; simp
            · have h2 := HO2.out
              rw [HX.out, allI_snoc]
              show w2.ownsRow _ _ _ _ _ (icells _)
              rw [icells_app, List.length_append]
              exact h2
            · intro i hi hlt2
              rcases A2 with _ | a2
              · simp [Value.ownBlock] at hi
              · have h3 := HF.out a2 rfl
                simp [Value.ownBlock] at hi
                omega
            · rintro a rfl
              have hs := HC1.out.size
              rcases HA2.out with h3 | h3
              · rcases A2 with _ | a2
                · simp [Value.ownBlock] at h3
                · have h4 := HF.out a2 rfl
                  simp [Value.ownBlock] at h3
                  omega
              · simp [Value.ownBlock] at h3
                omega
          case measure => simp [intOf]; omega
        · obtain rfl : n = k := by omega
          rw [HTK.out] at HO ⊢
          go_wp2_with fail
          go_ret
          exact ⟨A2, c2, rfl, HO.out, HC1.out, HF.out⟩
end Go.Proofs.YtmmilchmnimjoaaGreat
/- The fixed lengths, and their codes. -/
namespace Go.Proofs.YtmmilchmnimjoaaGreat
open Go.RowKit
set_option linter.unusedVariables false
set_option linter.unusedSimpArgs false
def GotF (w : World) (e : Ending) (w' : World) : Prop :=
  ∃ (A B : Option Addr) (c d : Nat), e = .returned (.tuple #[.slice A 288 c, .slice B 30 d]) ∧ w'.ownsRow 0 3 1 (.slice A 288 c) 288 (icells fixS) ∧ w'.ownsRow 0 3 1 (.slice B 30 d) 30 (icells fixD) ∧ Chg NoS w w'
set_option maxHeartbeats 1000000 in
set_option maxRecDepth 100000 in
theorem fixed_any (w : World) : Calls Tryz.prog 74 #[] w (GotF w) := by
  go_enter Tryz.func74, Tryz.ntmps74
  have H1 := keepf (fun W => same_any 144 8 W (by omega) (by omega))
  have H2 := keepf (fun W => same_any 112 9 W (by omega) (by omega))
  have H3 := keepf (fun W => same_any 24 7 W (by omega) (by omega))
  have H4 := keepf (fun W => same_any 8 8 W (by omega) (by omega))
  have H5 := keepf (fun W => same_any 30 5 W (by omega) (by omega))
  have hcc : ∀ (W : World) (A1 A2 A3 A4 : Option Addr) (c1 c2 c3 c4 : Nat), OwnI W A1 c1 (List.replicate 144 8) → OwnI W A2 c2 (List.replicate 112 9) → OwnI W A3 c3 (List.replicate 24 7) → OwnI W A4 c4 (List.replicate 8 8) →
      Calls Tryz.prog 100 #[.slice (some ⟨W.heap.size, 0, none⟩) 4 4] (W.alloc (.cells #[.slice A1 144 c1, .slice A2 112 c2, .slice A3 24 c3, .slice A4 8 c4] 63)) (NewI (W.alloc (.cells #[.slice A1 144 c1, .slice A2 112 c2, .slice A3 24 c3, .slice A4 8 c4] 63)) fixS) := by
    intro W A1 A2 A3 A4 c1 c2 c3 c4 h1 h2 h3 h4
    have hc : Chg NoS W (W.alloc (.cells #[.slice A1 144 c1, .slice A2 112 c2, .slice A3 24 c3, .slice A4 8 c4] 63)) := (Chg.refl NoS W).alloc _
    have hall : allI [(A1, c1, List.replicate 144 8), (A2, c2, List.replicate 112 9), (A3, c3, List.replicate 24 7), (A4, c4, List.replicate 8 8)] = fixS := by
      simp [allI, fixS]
    have h := concatI_any [(A1, c1, List.replicate 144 8), (A2, c2, List.replicate 112 9), (A3, c3, List.replicate 24 7), (A4, c4, List.replicate 8 8)] (some ⟨W.heap.size, 0, none⟩) 4 (W.alloc (.cells #[.slice A1 144 c1, .slice A2 112 c2, .slice A3 24 c3, .slice A4 8 c4] 63)) (by simp) (by simp) (by rw [hall]; simp [fixS]) ?_ ?_
    · rw [hall] at h
      exact h
    · refine ⟨rfl, fun h => (by cases h), fun ad had j u hu => ?_⟩
      cases had
      rw [Addr.add_mid, Nat.zero_add, (Blk.new W 63 _).cell]
      match j, hu with
      | 0, hu => simpa [slvI] using hu
      | 1, hu => simpa [slvI] using hu
      | 2, hu => simpa [slvI] using hu
      | 3, hu => simpa [slvI] using hu
      | j + 4, hu => simp at hu
    · intro x hx
      simp only [List.mem_cons, List.not_mem_nil, or_false] at hx
      rcases hx with rfl | rfl | rfl | rfl
      · exact (src_own h1).below (w0 := W) hc
      · exact (src_own h2).below (w0 := W) hc
      · exact (src_own h3).below (w0 := W) hc
      · exact (src_own h4).below (w0 := W) hc
  have HCC := keepf hcc
  clear hcc
  go_wp2_with (first
    | (go_at_call 101; refine (H1.out _).mono ?_; rintro e w2 ⟨A2, c2, rfl, ho2, hc2, _⟩; have HO2 := keepf ho2; have HC2 := keepf hc2; clear ho2 hc2)
    | (go_at_call 101; refine (H2.out _).mono ?_; rintro e w3 ⟨A3, c3, rfl, ho3, hc3, _⟩; have HO3 := keepf ho3; have HC3 := keepf hc3; clear ho3 hc3)
    | (go_at_call 101; refine (H3.out _).mono ?_; rintro e w4 ⟨A4, c4, rfl, ho4, hc4, _⟩; have HO4 := keepf ho4; have HC4 := keepf hc4; clear ho4 hc4)
    | (go_at_call 101; refine (H4.out _).mono ?_; rintro e w5 ⟨A5, c5, rfl, ho5, hc5, _⟩; have HR := keepf (HCC.out w5 A2 A3 A4 A5 c2 c3 c4 c5 (own_chg (own_chg (own_chg HO2.out HC3.out (fun _ _ h => h)) HC4.out (fun _ _ h => h)) hc5 (fun _ _ h => h)) (own_chg (own_chg HO3.out HC4.out (fun _ _ h => h)) hc5 (fun _ _ h => h)) (own_chg HO4.out hc5 (fun _ _ h => h)) ho5); have HC5 := keepf hc5; clear ho5 hc5)
    | (go_at_call 100; refine HR.out.mono ?_; rintro e w6 ⟨A6, c6, rfl, ho6, hc6, _⟩; have HO6 := keepf ho6; have HC6 := keepf hc6; clear ho6 hc6)
    | (go_at_call 101; refine (H5.out _).mono ?_; rintro e w7 ⟨A7, c7, rfl, ho7, hc7, _⟩; have HO7 := keepf ho7; have HC7 := keepf hc7; clear ho7 hc7))
  go_ret2
  have hS : fixS.length = 288 := by simp [fixS]
  have h6 : w6.ownsRow 0 3 1 (.slice A6 fixS.length c6) fixS.length (icells fixS) := HO6.out
  rw [hS] at h6 ⊢
  refine ⟨A6, A7, c6, c7, rfl, own_chg h6 HC7.out (fun _ _ h => h), HO7.out, ?_⟩
  have h := ((HC2.out.trans HC3.out (fun _ _ h => h)).trans HC4.out (fun _ _ h => h)).trans HC5.out (fun _ _ h => h)
  exact ((h.alloc _).trans HC6.out (fun _ _ h => h)).trans HC7.out (fun _ _ h => h)
set_option maxRecDepth 100000 in
theorem fixS_may : May fixS := by
  refine ⟨by simp [fixS], by simp [fixS], ?_, ?_⟩
  · intro z hz
    simp only [fixS, List.mem_append, List.mem_replicate] at hz
    omega
  · decide +kernel
set_option maxRecDepth 100000 in
theorem fixD_may : May fixD := by
  refine ⟨by simp [fixD], by simp [fixD], ?_, ?_⟩
  · intro z hz
    simp only [fixD, List.mem_replicate] at hz
    omega
  · decide +kernel
def GotX (w : World) (g gr : Nat) (bs : List Nat) (a : Nat) (S : Value) (most : Nat) (out : List Nat) (So : Value) (e : Ending) (w' : World) : Prop :=
  ∃ (c : Nat) (fx' : Value), e = .returned (.tuple #[.pointer (some ⟨c, 0, none⟩), .int .i64 0]) ∧ Pk w' g gr bs a S most out So fx' ∧ Mv g gr w So w' So ∧ Cd w' c fixS fixD
set_option maxHeartbeats 1000000 in
set_option maxRecDepth 100000 in
theorem pfixed (w : World) (g gr a most : Nat) (bs out : List Nat) (S So fx : Value) (hP : Pk w g gr bs a S most out So fx) :
    Calls Tryz.prog 48 #[.pointer (some ⟨g, 0, none⟩)] w (GotX w g gr bs a S most out So) := by
  have c3 := hP.c3
  have f3 := hP.blk.frozen 3
  rcases hP.fix with rfl | ⟨c, rfl, hcd⟩
  · have HP := keepf hP
    have HC3 := keepf c3
    clear hP
    go_enter Tryz.func48, Tryz.ntmps48
    go_upto_region 3 with (first
      | (go_at_call 74; refine (fixed_any _).mono ?_; rintro e w2 ⟨A, B, c, d, rfl, hoA, hoB, hc2⟩; have HN := keepf (newCodes_any fixS fixD A B c d w2 (src_own hoA) (src_own hoB) (fun z hz => by have := fixS_may.2.2.1 z hz; omega) (fun z hz => by have := fixD_may.2.2.1 z hz; omega) (by simp [fixS]) (by simp [fixD])); have HC2 := keepf hc2; clear hoA hoB hc2)
      | (go_at_call 73; refine HN.out.mono ?_; rintro e w4 ⟨p4, k, rfl, hc4, hk4⟩; have HC4 := keepf (HC2.out.trans hc4 (fun _ _ h => h)); have HK4 := keepf hk4; clear hc4 hk4))
    rcases HK4.out with ⟨rfl, hm1, hm2, cg, rfl, hcd, hge⟩ | ⟨rfl, rfl, hm⟩
    · have hP4 := HP.out.news HC4.out
      have c34 := hP4.c3
      have f34 := hP4.blk.frozen 3
      have HP4 := keepf hP4
      have HCD := keepf hcd
      clear hP4 hm1 hm2 hcd hge c3 f3
      go_wp2_with fail
      go_ret2
      have hset : Chg (fun i => i = g) w4 (w4.setCell ⟨g, 3, none⟩ (.pointer (some ⟨cg, 0, none⟩))) := (Chg.refl (fun i => i = g) w4).setCell (p := ⟨g, 3, none⟩) (fun _ => rfl) _
      have hKP : Chg (KP g gr So) w4 (w4.setCell ⟨g, 3, none⟩ (.pointer (some ⟨cg, 0, none⟩))) := hset.mono (fun i _ e => .inl e)
      have hcd5 := HP4.out.cd HCD.out hKP
      refine ⟨cg, .pointer (some ⟨cg, 0, none⟩), rfl, ⟨?_, ⟨HP4.out.rd.1.chg hset (fun e => HP4.out.ne e.symm), own_chg HP4.out.rd.2 hset (fun i hi e => own_ne_blk HP4.out.rd.2 HP4.out.blk (by decide) (by rw [hi, e]))⟩, own_chg HP4.out.own hset (fun i hi e => own_ne_blk HP4.out.own HP4.out.blk (by decide) (by rw [hi, e])), HP4.out.sep, .inr ⟨cg, rfl, hcd5⟩, HP4.out.le, HP4.out.len, HP4.out.byt, HP4.out.mst, HP4.out.ole⟩, ((Mv.refl _ _ _ _).news HC4.out).trans (Mv.of hKP), hcd5⟩
      have h := HP4.out.blk.set_ 3 (.pointer (some ⟨cg, 0, none⟩))
      simpa using h
    · exfalso
      rcases hm with h | h
      · exact h fixS_may
      · exact h fixD_may
  · have HP := keepf hP
    have HCD := keepf hcd
    clear hP hcd
    go_enter Tryz.func48, Tryz.ntmps48
    go_wp2_with fail
    go_ret2
    exact ⟨c, _, rfl, HP.out, Mv.refl _ _ _ _, HCD.out⟩
end Go.Proofs.YtmmilchmnimjoaaGreat
/- All blocks. -/
namespace Go.Proofs.YtmmilchmnimjoaaGreat
open Go.RowKit
set_option linter.unusedVariables false
set_option linter.unusedSimpArgs false
def BlkR (w : World) (g gr : Nat) (bs : List Nat) (a : Nat) (S : Value) (most : Nat) (out : List Nat) (So : Value) (n : Nat) (w' : World) : Prop :=
  ∃ (b : Nat) (out' : List Nat) (So' fx' : Value), n = 8 * bs.length - b ∧ Pk w' g gr bs b S most out' So' fx' ∧ Mv g gr w So w' So' ∧ Leads bs most ⟨a, out, .head⟩ ⟨b, out', .head⟩
def BlkJ (w : World) (g gr : Nat) (bs : List Nat) (a : Nat) (S : Value) (most : Nat) (out : List Nat) (So : Value) (n : Nat) (x : Act) (w' : World) : Prop :=
  x.defers = [] ∧ x.tmps.size = 61 ∧ x.tmps.getD 0 undef = .pointer (some ⟨g, 0, none⟩) ∧ BlkR w g gr bs a S most out So n w'
theorem BlkJ.elim {w : World} {g gr : Nat} {bs : List Nat} {a : Nat} {S : Value} {most : Nat} {out : List Nat} {So : Value} {n : Nat} {x : Act} {w' : World} {C : Act → Prop} (h : BlkJ w g gr bs a S most out So n x w')
    (k : BlkR w g gr bs a S most out So n w' → ∀ f : Nat → Value, C { tmps := #[.pointer (some ⟨g, 0, none⟩), f 1, f 2, f 3, f 4, f 5, f 6, f 7, f 8, f 9, f 10, f 11, f 12, f 13, f 14, f 15, f 16, f 17, f 18, f 19, f 20, f 21, f 22, f 23, f 24, f 25, f 26, f 27, f 28, f 29, f 30, f 31, f 32, f 33, f 34, f 35, f 36, f 37, f 38, f 39, f 40, f 41, f 42, f 43, f 44, f 45, f 46, f 47, f 48, f 49, f 50, f 51, f 52, f 53, f 54, f 55, f 56, f 57, f 58, f 59, f 60], defers := [] }) : C x := by
  obtain ⟨t, d⟩ := x
  obtain ⟨h1, h2, h3, hR⟩ := h
  simp only at h1 h2 h3
  subst h1
  have h5 := k hR (fun i => t.getD i undef)
  rw [← h3] at h5
  rw [arr_any t 61 h2]
  exact h5
def GotA (w : World) (g gr : Nat) (bs : List Nat) (a : Nat) (S : Value) (most : Nat) (out : List Nat) (So : Value) (e : Ending) (w' : World) : Prop :=
  ∃ (k : Int) (b : Nat) (out' : List Nat) (So' fx' : Value), e = .returned (.int .i64 k) ∧ Pk w' g gr bs b S most out' So' fx' ∧ Mv g gr w So w' So' ∧
    ((k = 0 ∧ Runs bs most ⟨a, out, .head⟩ (.ok out' b)) ∨ (k ≠ 0 ∧ Runs bs most ⟨a, out, .head⟩ (.err k)))
theorem end_head {bs : List Nat} {most b : Nat} {out : List Nat} : Step bs most ⟨b, out, .plain 0 0⟩ (.inl ⟨b, out, .head⟩) := .plain (by simp [stPlain])
theorem end_last {bs : List Nat} {most b last : Nat} {out : List Nat} (h : last ≠ 0) : Step bs most ⟨b, out, .plain 0 last⟩ (.inr (.ok out b)) := .plain (by simp [stPlain, h])
set_option maxHeartbeats 4000000 in
set_option maxRecDepth 100000 in
theorem pblocks (w : World) (g gr a most : Nat) (bs out : List Nat) (S So fx : Value) (hP : Pk w g gr bs a S most out So fx) :
    Calls Tryz.prog 30 #[.pointer (some ⟨g, 0, none⟩)] w (GotA w g gr bs a S most out So) := by
  have HP := keepf hP
  clear hP
  go_enter Tryz.func30, Tryz.ntmps30
  go_wp2
  refine wp_scope_hops 0 1 (BlkJ w g gr bs a S most out So) rfl rfl ?pass ?first
  case first =>
    intro hpass
    have HPass := keepf hpass
    clear hpass
    go_wp2
    go_step3
    rename_i hK
    refine hK _ _ (HPass.out _ _ _ ⟨rfl, rfl, rfl, a, out, So, fx, rfl, HP.out, Mv.refl _ _ _ _, Leads.refl _⟩)
  case pass =>
    intro n x w1 hx
    refine BlkJ.elim hx (C := fun y => Code.wp _ _ _ y w1) ?_
    rintro ⟨b, out1, So1, fx1, rfl, hP1, hm1, hl1⟩
    clear hx
    intro f
    have c0 := hP1.c0
    have HP1 := keepf hP1
    have HM1 := keepf hm1
    have HL1 := keepf hl1
    have HG1 := keepf (pget w1 g gr b 1 most bs out1 S So1 fx1 hP1 (by omega))
    clear hP1 hm1 hl1
    go_upto_region 5 with (go_at_call 46; refine HG1.out.mono ?_; rintro e w2 ⟨L, b2, k, rfl, hP2, hm2, hx2, hk⟩; have c02 := hP2.c0; have HP2 := keepf hP2; have HM2 := keepf (HM1.out.trans hm2); have HX2 := keepf hx2; have HK2 := keepf hk; clear hP2 hm2 hx2 hk)
    rcases HK2.out with ⟨rfl, rfl, hle2, hLe⟩ | ⟨rfl, rfl, rfl, hlt⟩
    · have HLE := keepf hLe
      have HLT2 := keepf hle2
      have HG2 := keepf (pget w2 g gr _ 2 most bs out1 S So1 fx1 HP2.out (by omega))
      have hL2 : L < 2 := by simpa using HX2.out
      clear hLe hle2 c0 HG1 HK2 HX2
      go_upto_region 8 with (go_at_call 46; refine HG2.out.mono ?_; rintro e w3 ⟨kd, b3, k, rfl, hP3, hm3, hx3, hk⟩; have HP3 := keepf hP3; have HM3 := keepf (HM2.out.trans hm3); have HX3 := keepf hx3; have HK3 := keepf hk; clear hP3 hm3 hx3 hk)
      rcases HK3.out with ⟨rfl, rfl, hle3, hke⟩ | ⟨rfl, rfl, rfl, hlt⟩
      · have hkd : kd < 4 := by simpa using HX3.out
        have hst : Step bs most ⟨b, out1, .head⟩ (if kd = 0 then .inl ⟨b + 3, out1, .stored L⟩ else if kd = 1 then .inl ⟨b + 3, out1, .coded fixS fixD L⟩ else if kd = 2 then .inl ⟨b + 3, out1, .own L⟩ else .inr (.err 11)) := .head (by
          unfold stHead
          rw [if_neg (by omega), ← HLE.out, ← hke])
        have HST := keepf hst
        have e3 : b + 1 + 2 = b + 3 := by omega
        rw [e3] at HP3
        have HLT3 := keepf (show b + 3 ≤ 8 * bs.length by omega)
        clear hst e3 hle3 hke HG2 HK3 HX3 HLE HLT2 HP2 HM2 c02
        by_cases k0 : kd = 0
        · subst k0
          have HPL := keepf (pplain w3 g gr (b + 3) most bs out1 S So1 fx1 HP3.out)
          have hlead : Leads bs most ⟨a, out, .head⟩ ⟨b + 3, out1, .stored L⟩ := HL1.out.then (by have := HST.out; rw [if_pos rfl] at this; exact this)
          have HLd := keepf hlead
          clear hlead HST
          go_wp2_with (go_at_call 47; refine HPL.out.mono ?_; rintro e w4 ⟨k, b4, out4, So4, rfl, hP4, hm4, hk4⟩; have HP4 := keepf hP4; have HM4 := keepf (HM3.out.trans hm4); have HK4 := keepf hk4; clear hP4 hm4 hk4)
          go_step3
          refine Or.inr ⟨rfl, ?_⟩
          rcases HK4.out with ⟨rfl, hb4, hl4⟩ | ⟨hk, hr4⟩
          · by_cases hL : L = 0
            · subst hL
              go_wp2_with fail
              go_step3
              refine ⟨rfl, 8 * bs.length - b4, by have := HLT3.out; omega, ?_⟩
              exact ⟨rfl, rfl, rfl, b4, out4, So4, fx1, rfl, HP4.out, HM4.out, (HLd.out.trans (hl4 0)).then end_head⟩
            · have dL : ((L : Int) == 0) = false := by simp; omega
              have dL' : (L == 0) = false := by simp; omega
              have HRu := keepf ((HLd.out.trans (hl4 L)).stop (end_last hL))
              clear hl4 hb4
              go_wp2_with fail
              simp only [Exit.jump]
              go_ret
              exact ⟨0, b4, out4, So4, fx1, rfl, HP4.out, HM4.out, .inl ⟨rfl, HRu.out⟩⟩
          · have dk : (k == 0) = false := by simpa using hk
            have HRu := keepf (HLd.out _ (hr4 L))
            have HK := keepf hk
            clear hr4 hk
            go_wp2_with fail
            simp only [Exit.jump]
            go_ret
            exact ⟨k, b4, out4, So4, fx1, rfl, HP4.out, HM4.out, .inr ⟨HK.out, HRu.out⟩⟩
        · have dk0 : ((kd : Int) == 0) = false := by simp; omega
          have dk0' : (kd == 0) = false := by simp; omega
          by_cases k1 : kd = 1
          · subst k1
            have HPX := keepf (pfixed w3 g gr (b + 3) most bs out1 S So1 fx1 HP3.out)
            have hlead : Leads bs most ⟨a, out, .head⟩ ⟨b + 3, out1, .coded fixS fixD L⟩ := HL1.out.then (by have := HST.out; rw [if_neg k0, if_pos rfl] at this; exact this)
            have HLd := keepf hlead
            clear hlead HST
            go_upto_region 21 with (first
              | (go_at_call 48; refine HPX.out.mono ?_; rintro e w4 ⟨c, fx4, rfl, hP4, hm4, hcd4⟩; have HS := keepf (psymbols w4 g gr (b + 3) most c bs out1 fixS fixD S So1 fx4 hP4 hcd4); have HM4 := keepf (HM3.out.trans hm4); clear hP4 hm4 hcd4)
              | (go_at_call 50; refine HS.out.mono ?_; rintro e w5 ⟨k, b5, out5, So5, rfl, hP5, hm5, hk5⟩; have HP5 := keepf hP5; have HM5 := keepf (HM4.out.trans hm5); have HK5 := keepf hk5; clear hP5 hm5 hk5)
              | go_step3)
            rcases HK5.out with ⟨rfl, hb5, hl5⟩ | ⟨hk, hr5⟩
            · by_cases hL : L = 0
              · subst hL
                go_wp2_with fail
                go_step3
                refine Or.inl ⟨rfl, 8 * bs.length - b5, by have := HLT3.out; skip; omega, ?_⟩
                exact ⟨rfl, rfl, rfl, b5, out5, So5, fx4, rfl, HP5.out, HM5.out, (HLd.out.trans (hl5 0)).then end_head⟩
              · have dL : ((L : Int) == 0) = false := by simp; omega
                have dL' : (L == 0) = false := by simp; omega
                have HRu := keepf ((HLd.out.trans (hl5 L)).stop (end_last hL))
                clear hl5 hb5
                go_wp2_with fail
                simp only [hop]
                go_ret
                exact ⟨0, b5, out5, So5, fx4, rfl, HP5.out, HM5.out, .inl ⟨rfl, HRu.out⟩⟩
            · have dk : (k == 0) = false := by simpa using hk
              have HRu := keepf (HLd.out _ (hr5 L))
              have HK := keepf hk
              clear hr5 hk
              go_wp2_with fail
              simp only [hop]
              go_ret
              exact ⟨k, b5, out5, So5, fx4, rfl, HP5.out, HM5.out, .inr ⟨HK.out, HRu.out⟩⟩
          · have dk1 : ((kd : Int) == 1) = false := by simp; omega
            have dk1' : (kd == 1) = false := by simp; omega
            by_cases k2 : kd = 2
            · subst k2
              have HPO := keepf (pownCodes w3 g gr (b + 3) most bs out1 S So1 fx1 HP3.out)
              have hlead : Leads bs most ⟨a, out, .head⟩ ⟨b + 3, out1, .own L⟩ := HL1.out.then (by have := HST.out; rw [if_neg k0, if_neg k1, if_pos rfl] at this; exact this)
              have HLd0 := keepf hlead
              clear hlead HST
              go_upto_region 18 with (go_at_call 49; refine HPO.out.mono ?_; rintro e w4 ⟨b4, hP4, hm4, hab4, hk4⟩; have HP4 := keepf hP4; have HM4 := keepf (HM3.out.trans hm4); have HB4 := keepf hab4; clear hP4 hm4 hab4; rcases hk4 with ⟨c, ls, ds, rfl, hcd4, hl4⟩ | ⟨k, hk, rfl, hr4⟩)
              · have HS := keepf (psymbols w4 g gr b4 most c bs out1 ls ds S So1 fx1 HP4.out hcd4)
                have HLd := keepf (HLd0.out.trans (hl4 L))
                clear hcd4 hl4
                obtain ⟨fx4, hfx4⟩ : ∃ fx4, fx4 = fx1 := ⟨_, rfl⟩
                rw [← hfx4] at HS
                clear hfx4
                go_upto_region 21 with (first
                  | (go_at_call 50; refine HS.out.mono ?_; rintro e w5 ⟨k, b5, out5, So5, rfl, hP5, hm5, hk5⟩; have HP5 := keepf hP5; have HM5 := keepf (HM4.out.trans hm5); have HK5 := keepf hk5; clear hP5 hm5 hk5)
                  | go_step3)
                rcases HK5.out with ⟨rfl, hb5, hl5⟩ | ⟨hk, hr5⟩
                · by_cases hL : L = 0
                  · subst hL
                    go_wp2_with fail
                    go_step3
                    refine Or.inl ⟨rfl, 8 * bs.length - b5, by have := HLT3.out; have := HB4.out; omega, ?_⟩
                    exact ⟨rfl, rfl, rfl, b5, out5, So5, fx4, rfl, HP5.out, HM5.out, (HLd.out.trans (hl5 0)).then end_head⟩
                  · have dL : ((L : Int) == 0) = false := by simp; omega
                    have dL' : (L == 0) = false := by simp; omega
                    have HRu := keepf ((HLd.out.trans (hl5 L)).stop (end_last hL))
                    clear hl5 hb5
                    go_wp2_with fail
                    simp only [hop]
                    go_ret
                    exact ⟨0, b5, out5, So5, fx4, rfl, HP5.out, HM5.out, .inl ⟨rfl, HRu.out⟩⟩
                · have dk : (k == 0) = false := by simpa using hk
                  have HRu := keepf (HLd.out _ (hr5 L))
                  have HK := keepf hk
                  clear hr5 hk
                  go_wp2_with fail
                  simp only [hop]
                  go_ret
                  exact ⟨k, b5, out5, So5, fx4, rfl, HP5.out, HM5.out, .inr ⟨HK.out, HRu.out⟩⟩
              · have HRu := keepf (HLd0.out _ (hr4 L))
                clear hr4
                rcases hk with rfl | rfl | rfl
                all_goals
                  go_wp2_with fail
                  simp only [hop]
                  go_ret
                  exact ⟨_, b4, out1, So1, fx1, rfl, HP4.out, HM4.out, .inr ⟨by omega, HRu.out⟩⟩
            · have dk2 : ((kd : Int) == 2) = false := by simp; omega
              have dk2' : (kd == 2) = false := by simp; omega
              have HRu := keepf (HL1.out.stop (by have := HST.out; rw [if_neg k0, if_neg k1, if_neg k2] at this; exact this))
              clear HST
              go_wp2_with fail
              simp only [hop]
              go_ret
              exact ⟨11, _, out1, So1, fx1, rfl, HP3.out, HM3.out, .inr ⟨by omega, HRu.out⟩⟩
      · have HRu := keepf (HL1.out.stop (.head (by unfold stHead; rw [if_pos (by omega)])))
        go_wp2_with fail
        simp only [hop]
        go_ret
        exact ⟨10, _, out1, So1, fx1, rfl, HP3.out, HM3.out, .inr ⟨by omega, HRu.out⟩⟩
    · have HRu := keepf (HL1.out.stop (.head (by unfold stHead; rw [if_pos (by omega)])))
      go_wp2_with fail
      simp only [hop]
      go_ret
      exact ⟨10, _, out1, So1, fx1, rfl, HP2.out, HM2.out, .inr ⟨by omega, HRu.out⟩⟩
end Go.Proofs.YtmmilchmnimjoaaGreat
/- What Inflate tells, of any bytes. -/
namespace Go.Proofs.YtmmilchmnimjoaaGreat
open Go.RowKit
set_option linter.unusedVariables false
set_option linter.unusedSimpArgs false
theorem rep_byte (far : Nat) : ∀ (n : Nat) (out : List Nat), (∀ x ∈ out, x < 256) → ∀ x ∈ rep far n out, x < 256
  | 0, out, h => h
  | n + 1, out, h => by
    rw [rep]
    refine rep_byte far n _ (fun x hx => ?_)
    rcases List.mem_append.1 hx with h1 | h1
    · exact h x h1
    · rw [List.mem_singleton.1 h1, List.getD_eq_getElem?_getD]
      rcases Nat.lt_or_ge (out.length - far) out.length with h2 | h2
      · rw [List.getElem?_eq_getElem h2]
        exact h _ (List.getElem_mem h2)
      · rw [List.getElem?_eq_none h2]
        decide
theorem Step.bytes {bs : List Nat} {most : Nat} {s t : St} (h : Step bs most s (.inl t)) (hs : ∀ x ∈ s.out, x < 256) : ∀ x ∈ t.out, x < 256 := by
  cases h with
  | head e =>
    unfold stHead at e
    repeat' split at e
    all_goals first
      | cases e; done
      | (injection e with e; subst e; exact hs)
  | stored e =>
    unfold stStored at e
    repeat' split at e
    all_goals first
      | cases e; done
      | (injection e with e; subst e; exact hs)
  | plain e =>
    unfold stPlain at e
    repeat' split at e
    all_goals first
      | cases e; done
      | (injection e with e; subst e; exact hs)
      | (injection e with e
         subst e
         intro x hx
         rcases List.mem_append.1 hx with h1 | h1
         · exact hs x h1
         · rw [List.mem_singleton.1 h1]; exact obf_lt _ 8)
  | own e =>
    unfold stOwn at e
    repeat' split at e
    all_goals first
      | cases e; done
      | (injection e with e; subst e; exact hs)
  | kinds e =>
    unfold stKinds at e
    repeat' split at e
    all_goals first
      | cases e; done
      | (injection e with e; subst e; exact hs)
  | lensEnd h e =>
    unfold stEnd at e
    repeat' split at e
    all_goals first
      | cases e; done
      | (injection e with e; subst e; exact hs)
  | lens h o e =>
    unfold stLens stRun at e
    repeat' split at e
    all_goals first
      | cases e; done
      | (injection e with e; subst e; exact hs)
  | coded o e =>
    unfold stCoded at e
    repeat' split at e
    all_goals first
      | cases e; done
      | (injection e with e; subst e; exact hs)
      | (injection e with e
         subst e
         intro x hx
         rcases List.mem_append.1 hx with h1 | h1
         · exact hs x h1
         · rw [List.mem_singleton.1 h1]; assumption)
  | dist o e =>
    unfold stDist at e
    repeat' split at e
    all_goals first
      | cases e; done
      | (injection e with e; subst e; exact rep_byte _ _ _ hs)
theorem Runs.bytes {bs : List Nat} {most : Nat} {s : St} {out : List Nat} {a : Nat} (h : Runs bs most s (.ok out a)) (hs : ∀ x ∈ s.out, x < 256) : ∀ x ∈ out, x < 256 := by
  generalize hr : Res.ok out a = r at h
  induction h with
  | stop h =>
    subst hr
    obtain ⟨_, h2, _⟩ := h.last
    subst h2
    exact hs
  | go h k ih => exact ih (h.bytes hs) hr
def st0 : St := ⟨0, [], .head⟩
def InfTo (w : World) (bs : List Nat) (most : Nat) (e : Ending) (w' : World) : Prop :=
  ∃ (A : Option Addr) (c n : Nat) (k : Int) (out : List Nat), e = .returned (.tuple #[.slice A out.length c, .int .i64 n, .int .i64 k]) ∧ Chg NoS w w' ∧ w'.ownsRow 0 5 1 (.slice A out.length c) out.length (ucells out) ∧ (∀ x ∈ out, x < 256) ∧ out.length ≤ most ∧
    ((k = 0 ∧ ∃ b, b ≤ 8 * bs.length ∧ n = (b + 7) / 8 ∧ Runs bs most st0 (.ok out b)) ∨ (k ≠ 0 ∧ out = [] ∧ n = 0 ∧ Runs bs most st0 (.err k)))
set_option maxHeartbeats 1000000 in
set_option maxRecDepth 100000 in
theorem inflate_any (bs : List Nat) (A : Option Addr) (c most : Nat) (w : World) (hS : Src w 1 A bs.length c (ucells bs)) (hL : bs.length ≤ 100000) (hb : ∀ b ∈ bs, b < 256) (hm : most ≤ 16777216) :
    Calls Tryz.prog 17 #[.slice A bs.length c, .int .i64 most] w (InfTo w bs most) := by
  have HRd := keepf (read_any false bs A c w hS (by omega))
  have HB := keepf hb
  have d1 : decide ((most : Int) < 0) = false := by simp
  have d2 : decide ((16777216 : Int) < most) = false := by simp; omega
  have d2' : decide (16777216 < most) = false := by simp; omega
  clear hS hb
  go_enter Tryz.func17, Tryz.ntmps17
  go_upto_region 4 with (go_at_call 29; refine HRd.out.mono ?_; rintro e w2 ⟨gr, S, rfl, hr, hc2, hgr, hS2⟩; have HR := keepf hr; have HC2 := keepf hc2; have HGR := keepf hgr; have HS2 := keepf hS2; clear hr hc2 hgr hS2)
  have hblk := Blk.new w2 52 #[.pointer (some ⟨gr, 0, none⟩), .int .i64 most, .slice none 0 0, .pointer none]
  have hc3 : Chg NoS w2 (w2.alloc (.cells #[.pointer (some ⟨gr, 0, none⟩), .int .i64 most, .slice none 0 0, .pointer none] 52)) := (Chg.refl NoS w2).alloc _
  obtain ⟨g, hg⟩ : ∃ g, g = w2.heap.size := ⟨_, rfl⟩
  rw [← hg] at hblk ⊢
  generalize w2.alloc (.cells #[.pointer (some ⟨gr, 0, none⟩), .int .i64 most, .slice none 0 0, .pointer none] 52) = w3 at *
  have hP : Pk w3 g gr bs 0 S most [] (.slice none 0 0) (.pointer none) := ⟨hblk, ⟨HR.out.1.chg hc3 (fun h => h), own_chg HR.out.2 hc3 (fun _ _ h => h)⟩, own_nil _ _ _ _, fun _ _ e => (by simp [Value.ownBlock] at e), .inl rfl, Nat.zero_le _, hL, HB.out, hm, Nat.zero_le _⟩
  have HBl := keepf (pblocks w3 g gr 0 most bs [] S _ _ hP)
  have HC3 := keepf (HC2.out.trans hc3 (fun _ _ h => h))
  have hgw : w.heap.size ≤ g := by have := HC2.out.size; omega
  have HGW := keepf hgw
  clear hblk hc3 hg hP hgw d1 d2 d2'
  go_upto_region 5 with (go_at_call 30; refine HBl.out.mono ?_; rintro e w4 ⟨k, b, out, So, fx, rfl, hP4, hm4, hk4⟩; have HP4 := keepf hP4; have HM4 := keepf hm4; have HK4 := keepf hk4; clear hP4 hm4 hk4)
  have hall : Chg NoS w w4 := HC3.out.trans HM4.out.1 (by
    rintro i hi (rfl | rfl | e)
    · have := HGW.out; omega
    · have := HGR.out; omega
    · simp [Value.ownBlock] at e)
  have HALL := keepf hall
  clear hall
  rcases HK4.out with ⟨rfl, hr⟩ | ⟨hk, hr⟩
  · have HRu := keepf hr
    have c0 := HP4.out.c0
    have c2 := HP4.out.c2
    obtain ⟨A4, c4, rfl, hA4⟩ := own_slice HP4.out.own
    have r0 := HP4.out.rd.1.cell 0
    have r2 := HP4.out.rd.1.cell 2
    simp at r0 r2
    have hb100 : b ≤ 800000 := by have := HP4.out.le; omega
    have HAt := keepf (fun W h0 h2 => at_any gr b W h0 h2)
    clear hr hA4 HK4 HBl
    go_upto_region 7 with fail
    go_quiet ((go_at_call 31; exact quiet_left (HAt.out _ r0 r2)))
    go_wp2_with fail
    go_ret3
    refine ⟨A4, c4, (b + 7) / 8, 0, out, by congr 1, HALL.out.drewN nq, own_drewN HP4.out.own nq, HRu.out.bytes (fun x hx => by cases hx), HP4.out.ole, .inl ⟨rfl, b, HP4.out.le, rfl, HRu.out⟩⟩
  · have HRu := keepf hr
    have HK := keepf hk
    have dk : (k == 0) = false := by simpa using hk
    clear hr hk HK4 HBl
    go_wp2_with fail
    go_ret3
    exact ⟨none, 0, 0, k, [], rfl, HALL.out, own_nil _ _ _ _, fun x hx => (by cases hx), Nat.zero_le _, .inr ⟨HK.out, rfl, rfl, HRu.out⟩⟩
end Go.Proofs.YtmmilchmnimjoaaGreat
/- The small question that every statement of inflate asks: one byte, and none. -/
namespace Go.Proofs.YtmmilchmnimjoaaGreat
open Go.RowKit
set_option linter.unusedVariables false
set_option linter.unusedSimpArgs false
end Go.Proofs.YtmmilchmnimjoaaGreat
