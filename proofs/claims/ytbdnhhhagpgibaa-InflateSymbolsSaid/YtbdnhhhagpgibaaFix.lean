/- So many times one number: the library's Repeat at one number; same. -/
import Derived.Test.YtbdnhhhagpgibaaOwnC
import Derived.Laws.CopyOwn
import Derived.Laws.MakeOwn
namespace Go.Proofs.Ytbdnhhhagpgibaa
open Go.RowKit
set_option linter.unusedVariables false
set_option linter.unusedSimpArgs false

/-- A row of m numbers of which the first k are v, the others 0. -/
def rpI (m k : Nat) (v : Int) : List Value := icells (List.replicate k v ++ List.replicate (m - k) 0)
theorem rpI_len (m k : Nat) (v : Int) (h : k ≤ m) : (rpI m k v).length = m := by simp [rpI, icells]; omega
theorem rpI_all (m : Nat) (v : Int) : rpI m m v = icells (List.replicate m v) := by simp [rpI]
theorem rpI_splice (m k c : Nat) (v : Int) (h : k + c ≤ m) : splice (rpI m k v) k (icells (List.replicate c v)) = rpI m (k + c) v := by
  unfold splice rpI
  have h1 : (icells (List.replicate c v)).length = c := by simp [icells]
  rw [h1]
  simp only [icells, List.map_append, List.map_replicate]
  rw [List.take_append_of_le_length (by simp), List.drop_append, List.drop_of_length_le (by simp), List.length_replicate, List.take_of_length_le (by simp), List.nil_append, List.drop_replicate, ← List.append_assoc, List.replicate_append_replicate]
  congr 2
  omega
theorem rpI_get (m k j : Nat) (v : Int) (h : j < k) : (rpI m k v)[j]? = some (.int .i64 v) := by
  simp [rpI, icells, List.getElem?_append_left, h]

theorem own_full {w : World} {e : TypeId} {g m : Nat} {xs : List Value} (h : w.ownsRow 0 e 1 (.slice (some ⟨g, 0, none⟩) m m) m xs) : w.heap[g]? = some (.cells xs.toArray e (0, 0)) := by
  rcases h.2 with ⟨h', h0⟩ | ⟨g', cap', cur, h', hb, hh, h1, h2, h3, h4⟩
  · simp at h'
  · simp only [Value.slice.injEq, Option.some.injEq, Addr.mk.injEq, and_true, true_and] at h'
    obtain ⟨rfl, rfl⟩ := h'
    rw [hh, ← h4, Nat.mul_one]
    rw [List.take_of_length_le (by simp; omega)]
theorem full_own {w : World} {e : TypeId} {g m : Nat} {xs : List Value} (h : w.heap[g]? = some (.cells xs.toArray e (0, 0))) (hl : xs.length = m) (hm : m ≤ maxLen) : w.ownsRow 0 e 1 (.slice (some ⟨g, 0, none⟩) m m) m xs :=
  ⟨by omega, .inr ⟨g, m, xs.toArray, rfl, Nat.zero_le _, h, Nat.le_refl _, hm, by simp [hl], by rw [Nat.mul_one, ← hl]; simp⟩⟩
theorem icells_rep_one (c : Nat) (v : Int) : ∀ u ∈ icells (List.replicate c v), u.oneCell' = true := icells_one _

set_option maxHeartbeats 1000000 in
set_option maxRecDepth 100000 in
theorem repeatI (gx m : Nat) (v : Int) (w : World) (hx : w.cell? ⟨gx, 0, none⟩ = some (.int .i64 v)) (hm : 1 ≤ m) (hm2 : m ≤ 100000) :
    Calls Try.prog 44 #[.slice (some ⟨gx, 0, none⟩) 1 1, .int .i64 m] w (NewRow w 3 1 m (icells (List.replicate m v))) := by
  obtain ⟨i0, hi, hz0, hz1, hz2⟩ := info_parts info_i64
  have HX := keepf hx
  have lx : gx < w.heap.size := cell_lt hx
  have HLX := keepf lx
  have d0 : decide ((m : Int) < 0) = false := by simp
  have hq : 1 * m / 18446744073709551616 = 0 := by omega
  have hr : 1 * m % 18446744073709551616 = m := by omega
  have HMul := keepf (fun W => Try.bits_Mul 1 m (by omega) (by omega) W)
  rw [hq, hr] at HMul
  have hsz : (Try.prog.info? 3).map (·.size) = some 1 := by kernel_rfl
  clear hx lx hq hr
  go_enter Try.func44, Try.ntmps44
  go_upto_region 7 with (first
    | (go_at_call 59; refine (HMul.out _).mono ?_; rintro e w1 ⟨rfl, rfl⟩)
    | (at_make; go_loud (refine wpList_make_full _ rfl (.tmp 29) (.tmp 29) 32 rfl 0 3 i0 (.int .i64 0) 1 Try.underlying32 hi hz0 hz1 .i64 .i64 _ _ m rfl rfl rfl rfl (by rw [hz2]; omega) (by unfold maxLen; omega) (Nat.zero_le _) ?_); intro w2 hown2 hgr; have HO2 := keepf hown2; have HG2 := keepf hgr; clear hown2 hgr))
  have hz : (madeCells (Value.int .i64 0).cells (m * 1)).toList = rpI m 0 v := by
    rw [Nat.mul_one]
    exact (toList_madeCells_one _ _).trans (by simp [rpI, icells])
  have hb2 := own_full HO2.out
  rw [hz] at hb2
  have hc2 : Chg NoS w1 w2 := (Chg.refl NoS w1).grown HG2.out (fun _ e _ => by cases e)
  obtain ⟨gn, hgn⟩ : ∃ gn, gn = w1.heap.size := ⟨_, rfl⟩
  have hx2 : w2.cell? ⟨gx, 0, none⟩ = some (.int .i64 v) := (hc2.cell (p := ⟨gx, 0, none⟩) HLX.out (fun h => h)).trans HX.out
  rw [← hgn] at hb2 ⊢
  have HB2 := keepf hb2
  have HGN := keepf hgn
  have hpos : 0 < (icells (List.replicate 1 v)).length → (some (⟨gn, 0, none⟩ : Addr) = some ⟨gn, 0, none⟩ ∧ ∃ ad, some (⟨gx, 0, none⟩ : Addr) = some ad ∧ ∀ j u, (icells (List.replicate 1 v))[j]? = some u → w2.cell? (ad.add j) = some u) := fun _ => ⟨rfl, _, rfl, fun j u hu => by
    have hj : j = 0 := by
      have := (List.getElem?_eq_some_iff.1 hu).1
      simp [icells] at this
      omega
    subst hj
    simp [icells] at hu
    subst hu
    rw [Addr.add_mid]
    exact hx2⟩
  have HPos := keepf hpos
  have hmin1 : (icells (List.replicate 1 v)).length = Nat.min 1 m := by
    show _ = min 1 m
    rw [Nat.min_eq_left hm]
    simp [icells]
  have HMin1 := keepf hmin1
  have hfit1 : 0 + (icells (List.replicate 1 v)).length ≤ (rpI m 0 v).length := by
    rw [rpI_len m 0 v (by omega)]
    simp [icells]
    omega
  have HFit1 := keepf hfit1
  have hspl1 := rpI_splice m 0 1 v (by omega)
  have HSpl1 := keepf hspl1
  have HBel := keepf hc2.no_below
  rw [← HGN.out] at HBel
  clear hz hb2 hc2 hgn hx2 hpos hmin1 hfit1 hspl1 HO2 HG2 HX
  go_wp2_with (first
    | (go_loud (refine wpList_copy_splice rfl (.tmp 31) (.tmp 32) 32 32 rfl 3 Try.underlying32 hsz _ _ _ _ _ _ rfl rfl gn 0 (rpI m 0 v) 3 HB2.out (icells (List.replicate 1 v)) HMin1.out HPos.out HFit1.out (icells_rep_one _ _) gn w1 HBel.out (Nat.le_refl _) ?_; intro w3 hb3 hbel3; rw [HSpl1.out] at hb3; have HB3 := hb3; have HBel3 := keepf hbel3; clear hb3 hbel3)))
  go_loopw [8] (fun vi wr => ∃ k : Nat, 1 ≤ k ∧ k ≤ m ∧ vi = .int .i64 k ∧ Hid (wr.heap[gn]? = some (.cells (rpI m k v).toArray 3 (0, 0))) ∧ Hid (Below gn w1 wr)) (fun vi _ => m - (intOf vi).toNat)
  case atStart => exact ⟨1, by omega, hm, by simp [icells, goInt], keepf HB3.out, HBel3.out⟩
  case round =>
    obtain ⟨k, hk1, hkm, rfl, HBk, HBelk⟩ := hrel
    by_cases hlt : k < m
    · have hs1 := fun W => slice_toI (some ⟨gn, 0, none⟩) m m k (by omega) W
      have hs2 := fun W => slice_fromI gn 0 m m k (by omega) (by omega) W
      rw [show 0 + k = k from by omega] at hs2
      go_upto_region 9 with fail
      obtain ⟨c, hc⟩ : ∃ c, c = min k (m - k) := ⟨_, rfl⟩
      have hpos : 0 < (icells (List.replicate c v)).length → (some (⟨gn, k, none⟩ : Addr) = some ⟨gn, k, none⟩ ∧ ∃ ad, some (⟨gn, 0, none⟩ : Addr) = some ad ∧ ∀ j u, (icells (List.replicate c v))[j]? = some u → wr.drew.cell? (ad.add j) = some u) := fun _ => ⟨rfl, _, rfl, fun j u hu => by
        have hj : j < c := by
          have := (List.getElem?_eq_some_iff.1 hu).1
          simpa [icells] using this
        have hu2 : u = .int .i64 v := by
          simp [icells, hj] at hu
          exact hu.symm
        rw [Addr.add_mid, hu2]
        have h1 := cell_of_row wr gn (0 + j) _ _ _ HBk.out
        rw [List.getElem?_toArray, Nat.zero_add, rpI_get m k j v (by omega)] at h1
        rw [Nat.zero_add]
        exact h1⟩
      have HPos2 := keepf hpos
      have hmin : (icells (List.replicate c v)).length = Nat.min k (m - k) := by show _ = min k (m - k); rw [← hc]; simp [icells]
      have HMin := keepf hmin
      have hfit : k + (icells (List.replicate c v)).length ≤ (rpI m k v).length := by
        rw [rpI_len m k v (by omega)]
        simp [icells]
        omega
      have HFit := keepf hfit
      have HCk := keepf (show k + c ≤ m by omega)
      have HC1 := keepf (show 1 ≤ c by omega)
      have hwr : IntKind.i64.wrap ((k : Int) + c) = (k : Int) + c := by rw [IntKind.wrap_i64]; omega
      have hc100 : c ≤ m := by omega
      clear hpos hmin hfit hc
      first
        | (go_loud (go_region_held3 (fun _ => True)
            (trivial)
            ((refine step_copy_splice (by rfl) _ _ 32 32 (by rfl) 3 Try.underlying32 hsz _ _ _ _ _ _ (by rfl) (by rfl) gn k (rpI m k v) 3 HBk.out (icells (List.replicate c v)) HMin.out HPos2.out HFit.out (icells_rep_one _ _) gn w1 (HBelk.out.trans ((Below.refl _ _).drew)) (Nat.le_refl _) ?_; intro w3 hb3 hbel3; rw [rpI_splice m k c v HCk.out] at hb3))))
        | fail "region"
      have hlc : (icells (List.replicate c v)).length = c := by simp [icells]
      rw [hlc, hwr]
      have HB3' := hb3
      have HBel3' := keepf hbel3
      clear hb3 hbel3 hlc hwr
      go_wp2_with fail
      go_roundw
      case rel => exact ⟨k + c, by omega, HCk.out, by go_num, HB3', HBel3'.out⟩
      case measure => simp [intOf]; have := HC1.out; omega
    · obtain rfl : k = m := by omega
      go_wp2_with fail
      go_ret
      have hB := HBk.out
      rw [rpI_all] at hB
      have hbl := HBelk.out
      rw [HGN.out] at hbl
      exact ⟨_, _, rfl, full_own hB (by simp [icells]) (by unfold maxLen; omega), Chg.of_below hbl, fun i hi e => by
        simp [Value.ownBlock] at e
        have := HGN.out
        omega⟩

set_option maxRecDepth 100000 in
theorem same_any (n : Nat) (x : Int) (w : World) (hn : 1 ≤ n) (hn2 : n ≤ 100000) :
    Calls Try.prog 30 #[.int .i64 n, .int .i64 x] w (NewRow w 3 1 n (icells (List.replicate n x))) := by
  have HR := keepf (repeatI w.heap.size n x (w.alloc (.cells #[.int .i64 x] 3)) (by rw [(Blk.new w 3 _).cell]; rfl) hn hn2)
  go_enter Try.func30, Try.ntmps30
  go_wp2_with (go_at_call 44; refine HR.out.mono ?_; rintro e w2 ⟨A, c, rfl, ho2, hc2, hf2⟩; have HO2 := keepf ho2; have HC2 := keepf hc2; have HF2 := keepf hf2; clear ho2 hc2 hf2)
  go_ret
  exact ⟨A, c, rfl, HO2.out, ((Chg.refl NoS w).alloc _).trans HC2.out (fun _ _ h => h), fun i hi => HF2.out i (by simp; omega)⟩
end Go.Proofs.Ytbdnhhhagpgibaa
