/- blocks.read: bytes that are known, in a row of their own. -/
import Derived.Test.YtnbjigopgbjneaaSoFi
import Derived.Laws.CopyOwn
import Derived.Laws.MakeOwn
import Derived.Deep.RegionHeld3
import Derived.Deep.Cut
namespace Go.Proofs.Ytnbjigopgbjneaa
open Go.RowKit
set_option linter.unusedVariables false
set_option linter.unusedSimpArgs false

/-- n bytes from a place on. -/
def rngB (c : Nat → Nat) (p n : Nat) : List Nat := (List.range n).map fun i => c (p + i)

theorem rngB_len (c : Nat → Nat) (p n : Nat) : (rngB c p n).length = n := by simp [rngB]

theorem rngB_get (c : Nat → Nat) (p n i : Nat) (h : i < n) : (rngB c p n)[i]? = some (c (p + i)) := by simp [rngB, h]

theorem rngB_add (c : Nat → Nat) (p k t : Nat) : rngB c p (k + t) = rngB c p k ++ rngB c (p + k) t := by
  unfold rngB
  rw [List.range_add, List.map_append, List.map_map]
  refine congrArg (_ ++ ·) (List.map_congr_left fun i _ => ?_)
  show c (p + (k + i)) = _
  rw [Nat.add_assoc]

theorem rngB_congr {c c' : Nat → Nat} {p n : Nat} (h : ∀ q, p ≤ q → q < p + n → c q = c' q) : rngB c p n = rngB c' p n :=
  List.map_congr_left fun i hi => h _ (by omega) (by have := List.mem_range.1 hi; omega)

def rdB (c : Nat → Nat) (p n k : Nat) : List Value := lcells (rngB c p k ++ List.replicate (n - k) 0)

theorem rdB_len (c : Nat → Nat) (p n k : Nat) (h : k ≤ n) : (rdB c p n k).length = n := by simp [rdB, lcells, rngB_len]; omega

theorem rdB_all (c : Nat → Nat) (p n : Nat) : rdB c p n n = lcells (rngB c p n) := by simp [rdB]

theorem rdB_splice (c : Nat → Nat) (p n k t : Nat) (h : k + t ≤ n) : splice (rdB c p n k) k (lcells (rngB c (p + k) t)) = rdB c p n (k + t) := by
  unfold splice rdB
  have h1 : (lcells (rngB c (p + k) t)).length = t := by rw [lcells_len, rngB_len]
  have h2 : (lcells (rngB c p k)).length = k := by rw [lcells_len, rngB_len]
  rw [h1, lcells_app, rngB_add, lcells_app, lcells_app, List.take_append_of_le_length (by omega), List.drop_append, List.drop_of_length_le (by omega), h2, List.take_of_length_le (by omega), List.nil_append]
  rw [List.append_assoc]
  refine congrArg (_ ++ ·) (congrArg (_ ++ ·) ?_)
  simp only [lcells, List.map_replicate, List.drop_replicate]
  congr 1
  omega

theorem own_fullS {w : World} {e : TypeId} {g m : Nat} {xs : List Value} (h : w.ownsRow 0 e 1 (.slice (some ⟨g, 0, none⟩) m m) m xs) : w.heap[g]? = some (.cells xs.toArray e (0, 0)) := by
  rcases h.2 with ⟨h', h0⟩ | ⟨g', cap', cur, h', hb, hh, h1, h2, h3, h4⟩
  · simp at h'
  · simp only [Value.slice.injEq, Option.some.injEq, Addr.mk.injEq, and_true, true_and] at h'
    obtain ⟨rfl, rfl⟩ := h'
    rw [hh, ← h4, Nat.mul_one]
    rw [List.take_of_length_le (by simp; omega)]

theorem full_ownS {w : World} {e : TypeId} {g m : Nat} {xs : List Value} (h : w.heap[g]? = some (.cells xs.toArray e (0, 0))) (hl : xs.length = m) (hm : m ≤ maxLen) : w.ownsRow 0 e 1 (.slice (some ⟨g, 0, none⟩) m m) m xs :=
  ⟨by omega, .inr ⟨g, m, xs.toArray, rfl, Nat.zero_le _, h, Nat.le_refl _, hm, by simp [hl], by rw [Nat.mul_one, ← hl]; simp⟩⟩

/-- A row of the call's own of these bytes; nothing that was there has changed. -/
def BytesTo (w : World) (bs : List Nat) (e : Ending) (w' : World) : Prop :=
  ∃ g, e = .returned (.slice (some ⟨g, 0, none⟩) bs.length bs.length) ∧ w'.ownsRow 0 5 1 (.slice (some ⟨g, 0, none⟩) bs.length bs.length) bs.length (lcells bs) ∧ Chg NoS w w' ∧ w.heap.size ≤ g

theorem slice_fromS (b len cap m : Nat) (hm : m ≤ len) (hc : m < cap) (w : World) : (Instr.sliceAt 30 (.slice (some ⟨b, 0, none⟩) len cap) (some (.int .i64 (m : Nat))) none none).run Try.prog w = .ok (.slice (some ⟨b, m, none⟩) (len - m) (cap - m)) w := by
  rw [fromL _ _ _ _ hm, cutL_some, if_neg (by omega), Nat.zero_add]

set_option maxHeartbeats 2000000 in
set_option maxRecDepth 100000 in
theorem read_any (b m : Nat) (a : Nat → Option Nat) (c : Nat → Nat) (p n : Nat) (w : World) (hM : MapP w b m a) (hB : BlAt w a c) (hcov : ∀ q, p ≤ q → q < p + n → ∃ d, a (q / 1024) = some d) (hn : n ≤ 4000000000) (hp : p ≤ 9000000000) :
    Calls Try.prog 28 #[.map (some b), .int .i64 (p : Nat), .int .i64 (n : Nat)] w (BytesTo w (rngB c p n)) := by
  obtain ⟨i0, hi, hz0, hz1, hz2⟩ := info_partsL info_byL
  have HM := keepf hM
  have HB := keepf hB
  have HCov := keepf hcov
  clear hM hB hcov
  go_enter Try.func28, Try.ntmps28
  go_wp2_with (first
    | (at_make; go_loud (refine wpList_make_full _ rfl (.tmp 9) (.tmp 9) 30 rfl 0 5 i0 (.int .u8 0) 1 Try.underlying30 hi hz0 hz1 .i64 .i64 _ _ n rfl rfl rfl rfl (by rw [hz2]; omega) (by unfold maxLen; omega) (Nat.zero_le _) ?_); intro w2 hown2 hgr; have HO2 := keepf hown2; have HG2 := keepf hgr; clear hown2 hgr))
  have hz : (madeCells (Value.int .u8 0).cells (n * 1)).toList = rdB c p n 0 := by
    rw [Nat.mul_one]
    exact (toList_madeCells_one _ _).trans (by simp [rdB, lcells, rngB])
  have hb2 := own_fullS HO2.out
  rw [hz] at hb2
  have hc2 : Chg NoS w w2 := (Chg.refl NoS w).grown HG2.out (fun _ e _ => by cases e)
  obtain ⟨gn, hgn⟩ : ∃ gn, gn = w.heap.size := ⟨_, rfl⟩
  rw [← hgn] at hb2 ⊢
  have HB2 := keepf hb2
  have HGN := keepf hgn
  have HBel := keepf hc2.no_below
  rw [← HGN.out] at HBel
  clear hz hb2 hc2 hgn HO2 HG2
  go_loopw [8] (fun vi wr => ∃ k : Nat, k ≤ n ∧ vi = .int .i64 k ∧ Hid (wr.heap[gn]? = some (.cells (rdB c p n k).toArray 5 (0, 0))) ∧ Hid (Below gn w wr)) (fun vi _ => n - (intOf vi).toNat)
  case atStart => exact ⟨0, Nat.zero_le _, rfl, HB2.out, HBel.out⟩
  case round =>
    obtain ⟨k, hkn, rfl, HBk, HBelk⟩ := hrel
    by_cases hlt : k < n
    · obtain ⟨d, hd⟩ := HCov.out (p + k) (by omega) (by omega)
      obtain ⟨r, hr⟩ : ∃ r, r = (p + k) % 1024 := ⟨_, rfl⟩
      obtain ⟨q, hq⟩ : ∃ q, q = (p + k) / 1024 := ⟨_, rfl⟩
      obtain ⟨t, ht⟩ : ∃ t, t = min (1024 - r) (n - k) := ⟨_, rfl⟩
      rw [← hq] at hd
      have hr2 : r < 1024 := by omega
      have hc : Chg NoS w wr := by
        have h1 := HBelk.out
        rw [HGN.out] at h1
        exact Chg.of_below h1
      have hlk := (HM.out.chg hc (fun h => h)).look (k := q) (by omega)
      rw [hd] at hlk
      have hlk2 : (Instr.lookup 58 (.map (some b)) (.int .i64 (q : Nat)) false).run Try.prog wr.drew = .ok (.pointer (some ⟨d, 0, none⟩)) wr.drew := by
        have := (HM.out.chg hc.drew (fun h => h)).look (k := q) (by omega)
        rw [hd] at this
        exact this
      have hsum : IntKind.i64.wrap ((p : Int) + (k : Int)) = (p : Int) + (k : Int) := by rw [IntKind.wrap_i64]; omega
      have hqd : ((p : Int) + (k : Int)).tdiv 1024 = (q : Int) := by rw [Int.tdiv_eq_ediv_of_nonneg (by omega)]; omega
      have hrm : ((p : Int) + (k : Int)).tmod 1024 = (r : Int) := by rw [Int.tmod_eq_emod_of_nonneg (by omega)]; omega
      have hqw : IntKind.i64.wrap (q : Int) = (q : Int) := by rw [IntKind.wrap_i64]; omega
      have hrw : IntKind.i64.wrap (r : Int) = (r : Int) := by rw [IntKind.wrap_i64]; omega
      have hs1 := fun W => slice_fromS gn n n k (by omega) (by omega) W
      have hs2 := fun W => blk_from d r hr2 W
      have hpos : 0 < (lcells (rngB c (p + k) t)).length → (some (⟨gn, k, none⟩ : Addr) = some ⟨gn, k, none⟩ ∧ ∃ ad, some (⟨d, r, none⟩ : Addr) = some ad ∧ ∀ j u, (lcells (rngB c (p + k) t))[j]? = some u → wr.drew.cell? (ad.add j) = some u) := fun _ => ⟨rfl, _, rfl, fun j u hu => by
        have hj : j < t := by
          have := (List.getElem?_eq_some_iff.1 hu).1
          rw [lcells_len, rngB_len] at this
          exact this
        rw [lcells_at (rngB_get c (p + k) t j hj)] at hu
        rw [Addr.add_mid]
        have h1 := ((HB.out.lie q d hd).chg hc (fun h => h)).cell (r + j)
        show wr.cell? _ = _
        rw [h1, ← hu, blkCs, List.getElem?_toArray, lcells_at (blkBs_get c q (r + j) (by omega))]
        congr 4
        omega⟩
      have HPos2 := keepf hpos
      have hmin : (lcells (rngB c (p + k) t)).length = Nat.min (1024 - r) (n - k) := by show _ = min (1024 - r) (n - k); rw [lcells_len, rngB_len]; exact ht
      have HMin := keepf hmin
      have hfit : k + (lcells (rngB c (p + k) t)).length ≤ (rdB c p n k).length := by
        rw [rdB_len _ _ _ _ hkn, lcells_len, rngB_len]
        omega
      have HFit := keepf hfit
      have HCk := keepf (show k + t ≤ n by omega)
      have HC1 := keepf (show 1 ≤ t by omega)
      have hwr : IntKind.i64.wrap ((k : Int) + t) = (k : Int) + t := by rw [IntKind.wrap_i64]; omega
      have ht3 : t ≤ 1024 := by omega
      clear hpos hmin hfit hc hd hr hq ht hlk
      go_upto_region 4 with fail
      first
        | (go_loud (go_region_held3 (fun _ => True)
            (trivial)
            ((refine step_copy_splice (by rfl) _ _ 30 30 (by rfl) 5 Try.underlying30 size_u8S _ _ _ _ _ _ (by rfl) (by rfl) gn k (rdB c p n k) 5 HBk.out (lcells (rngB c (p + k) t)) HMin.out HPos2.out HFit.out (lcells_one _) gn w (HBelk.out.trans ((Below.refl _ _).drew)) (Nat.le_refl _) ?_; intro w3 hb3 hbel3; rw [rdB_splice c p n k t HCk.out] at hb3))))
        | fail "region"
      have hlc : (lcells (rngB c (p + k) t)).length = t := by rw [lcells_len, rngB_len]
      rw [hlc, hwr]
      have HB3' := hb3
      have HBel3' := keepf hbel3
      clear hb3 hbel3 hlc hwr
      go_wp2_with fail
      go_roundw
      case rel => exact ⟨k + t, HCk.out, by go_num, HB3', HBel3'.out⟩
      case measure => simp [intOf]; have := HC1.out; omega
    · obtain rfl : k = n := by omega
      go_wp2_with fail
      go_ret
      have hBl := HBk.out
      rw [rdB_all] at hBl
      have hbl := HBelk.out
      rw [HGN.out] at hbl
      refine ⟨gn, ?_, ?_, Chg.of_below hbl, by rw [HGN.out]; exact Nat.le_refl _⟩
      · rw [rngB_len]
        rfl
      · rw [rngB_len]
        exact full_ownS hBl (by rw [lcells_len, rngB_len]) (by unfold maxLen; omega)

end Go.Proofs.Ytnbjigopgbjneaa
