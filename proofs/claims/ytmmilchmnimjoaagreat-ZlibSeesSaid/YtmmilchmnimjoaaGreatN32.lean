/- Merged by program: ZHead ZRef. -/
import Derived.Test.YtmmilchmnimjoaaGreatN00
import Derived.Test.YtmmilchmnimjoaaGreatN03
import Derived.Test.YtmmilchmnimjoaaGreatN30
import Derived.Test.YtmmilchmnimjoaaGreatN31
import Derived.Deep.QuietTactic
import Derived.BigQuiet
/- The document's own Check and Head of stage 8, where they are asked. -/
namespace Go.Proofs.YtmmilchmnimjoaaGreat
open Go.RowKit
set_option linter.unusedVariables false
set_option linter.unusedSimpArgs false
set_option maxRecDepth 100000 in
theorem rcheck_h (y n c b off : Nat) (w : World) (hy : 128 ≤ y) (hy2 : y ≤ 156) (hn : 2 ≤ n) (hm : n ≤ 1000000) (h0 : w.cell? ⟨b, off, none⟩ = some (.int .u8 120)) (h1 : w.cell? ⟨b, off + 1, none⟩ = some (.int .u8 (y : Nat))) :
    Calls Tryz.prog 11 #[.slice (some ⟨b, off, none⟩) n c] w fun e w' => e = .returned (.int .i64 (if y = 156 then 0 else 11)) ∧ ∃ q, w' = w.drewN q := by
  have d1 : decide ((n : Int) < 2) = false := by simp; omega
  have i0 : (0 : Int) < n := by omega
  have i1 : (1 : Int) < n := by omega
  have u1 : ((y : Int) / 32 % 2 == 0) = true := by simp; omega
  have u2 : ((y : Int) / 32 % 2 != 0) = false := by simp; omega
  by_cases h : y = 156
  · subst h
    rw [if_pos rfl]
    go_enter Tryz.func11, Tryz.ntmps11
    go_upto_region 3 with fail
    go_quiet (fail)
    go_wp2_with fail
    go_ret
    exact ⟨rfl, nq, rfl⟩
  · rw [if_neg h]
    have u3 : ((30720 + (y : Int)) % 31 == 0) = false := by simp; omega
    have u4 : ((30720 + (y : Int)) % 31 != 0) = true := by simp; omega
    clear h
    go_enter Tryz.func11, Tryz.ntmps11
    go_upto_region 3 with fail
    go_quiet (fail)
    go_wp2_with fail
    go_ret
    exact ⟨rfl, nq, rfl⟩
theorem own_of (w : World) (t : TypeId) (cs : Array Value) (m : Nat) (h : cs.size = m) (hm : m ≤ 1000000) : (w.alloc (.cells cs t)).ownsRow 0 t 1 (.slice (some ⟨w.heap.size, 0, none⟩) m m) m cs.toList :=
  ⟨by simp [h], .inr ⟨_, m, cs, rfl, Nat.zero_le _, Blk.new w t cs, Nat.le_refl _, by unfold maxLen; omega, by simp [h], by rw [List.take_of_length_le (by simp [h])]⟩⟩
set_option maxHeartbeats 1000000 in
set_option maxRecDepth 100000 in
theorem rhead2 (w : World) :
    Calls Tryz.prog 13 #[.int .i64 2] w fun e w' => ∃ g, e = .returned (.slice (some ⟨g, 0, none⟩) 2 2) ∧ w'.ownsRow 0 5 1 (.slice (some ⟨g, 0, none⟩) 2 2) 2 (ucells [120, 156]) ∧ Chg NoS w w' ∧ w.heap.size ≤ g := by
  go_enter Tryz.func13, Tryz.ntmps13
  go_wp2_with fail
  go_loopw [3, 4] (fun vk vb wr => ∃ k : Nat, k ≤ 28 ∧ vk = .int .i64 (k : Nat) ∧ Hid (Chg NoS w wr)) (fun vk _ _ => 28 - (intOf vk).toNat)
  case atStart => exact ⟨0, by omega, by go_num, Chg.refl _ _⟩
  case round =>
    obtain ⟨k, hk, rfl, HCH⟩ := hrel
    by_cases h28 : k = 28
    · subst h28
      have HR := keepf (fun (W : World) h0 h1 => rcheck_h 156 2 2 wr.heap.size 0 W (by omega) (by omega) (by omega) (by omega) h0 h1)
      go_wp2_with (go_at_call 11; refine (HR.out _ (by simp) (by simp)).mono ?_; rintro e w3 ⟨rfl, q, rfl⟩)
      go_ret
      exact ⟨wr.heap.size, rfl, own_drewN (own_of wr 5 #[.int .u8 120, .int .u8 156] 2 rfl (by omega)) q, (HCH.out.alloc _).drewN q, HCH.out.size⟩
    · have hlt : k < 28 := by omega
      obtain ⟨y, hy⟩ : ∃ y, y = 128 + k := ⟨_, rfl⟩
      have hw : IntKind.u8.wrap (128 + (k : Int)) = (y : Int) := by rw [IntKind.wrap_u8]; omega
      have HR := keepf (fun (W : World) h0 h1 => rcheck_h y 2 2 wr.heap.size 0 W (by omega) (by omega) (by omega) (by omega) h0 h1)
      rw [if_neg (by omega)] at HR
      clear hy h28
      go_wp2_with (go_at_call 11; refine (HR.out _ (by simp) (by simp)).mono ?_; rintro e w3 ⟨rfl, q, rfl⟩)
      go_roundw
      case rel => exact ⟨k + 1, by omega, by go_num, (HCH.out.alloc _).drewN q⟩
      case measure => simp [intOf]; omega
end Go.Proofs.YtmmilchmnimjoaaGreat
/- The document's own Stored of stage 8; sums of bytes that lie in memory. -/
namespace Go.Proofs.YtmmilchmnimjoaaGreat
open Go.RowKit
set_option linter.unusedVariables false
set_option linter.unusedSimpArgs false
theorem rsum_src (bs : List Nat) (A : Option Addr) (c : Nat) (w : World) (hS : Src w 1 A bs.length c (ucells bs)) (hc : bs.length ≤ c) (hb : ∀ x ∈ bs, x < 256) (hl : bs.length ≤ 1048576) :
    Calls Tryz.prog 21 #[.slice A bs.length c] w fun e w' => e = .returned (.int .u32 (sumA bs : Nat)) ∧ w = w' :=
  refSum_any w ⟨A, bs.length, c, bs⟩ ⟨hS, rfl, hc, hb, fun _ _ _ h => h⟩ hl
theorem zst_cells (bs : List Nat) (hb : ∀ x ∈ bs, x < 256) (hl : bs.length ≤ 1500) : ucells (zpk (storedL true bs []) bs) = ucells [120, 156] ++ ucells (st5 bs) ++ ucells (b4 (sumA bs)) := by
  rw [zpk, st5_bytes bs (by omega) hb]
  simp [ucells]
set_option maxHeartbeats 1000000 in
set_option maxRecDepth 100000 in
theorem rstoredz (bs : List Nat) (A : Option Addr) (c : Nat) (w : World) (hS : Src w 1 A bs.length c (ucells bs)) (hc : bs.length ≤ c) (hb : ∀ x ∈ bs, x < 256) (hl : bs.length ≤ 1500) :
    Calls Tryz.prog 15 #[.slice A bs.length c] w (StTo w (zpk (storedL true bs []) bs) (2 + (5 + bs.length) + 4)) := by
  have HH := keepf (fun (W : World) => rhead2 W)
  have HST := keepf (fun (W : World) (h : Chg NoS w W) => rstored bs A c W (Src.below (w0 := w) hS h) hc hl)
  have HSU := keepf (fun (W : World) (h : Chg NoS w W) => rsum_src bs A c W (Src.below (w0 := w) hS h) hc hb (by omega))
  have HBY := keepf (fun (W : World) => refBytes_any (sumA bs) W (sum_lt bs))
  have HE := keepf (zst_cells bs hb hl)
  have hsx := sum_lt bs
  obtain ⟨x, hx⟩ : ∃ x, x = sumA bs := ⟨_, rfl⟩
  rw [← hx] at HSU HBY HE hsx
  obtain ⟨n, hn⟩ : ∃ n, n = bs.length := ⟨_, rfl⟩
  rw [← hn] at HST HSU hc hl ⊢
  clear hS hb hx hn
  have HC0 := keepf ((Chg.refl NoS w).alloc (.cells #[] 5))
  have HN0 := keepf (show ∀ a : Addr, some (⟨w.heap.size, 0, none⟩ : Addr) = some a → w.heap.size ≤ a.block from fun a h => by injection h with h; subst h; exact Nat.le_refl _)
  obtain ⟨i0, hi, hz0, hz1, hz2⟩ := info_parts info_u8
  go_enter Tryz.func15, Tryz.ntmps15
  go_wp2_with (first
    | (go_at_call 13; refine (HH.out _).mono ?_; rintro e w1 ⟨g1, rfl, ho1, hc1, hg1⟩; have HO1 := keepf ho1; have HC1 := keepf hc1; clear ho1 hc1)
    | (at_builtin; go_loud (refine wpList_append_src rfl (.tmp 4) (.tmp 5) 22 rfl 5 i0 (.int .u8 0) 1 1 Tryz.underlying22 hi hz0 hz1 hz2 rfl (by decide) (.slice (some ⟨w.heap.size, 0, none⟩) 0 0) 0 [] rfl (own_chg (S := NoS) (own_empty w 5) HC1.out (fun _ _ h => h)) _ _ _ (ucells [120, 156]) rfl (src_own HO1.out) (uone _) (by decide) (by decide) ?_); intro S2 w2 hown2 hgr2 hat2; obtain ⟨A2, c2, rfl, hA2⟩ := own_slice hown2; have HO2 := keepf hown2; have HC2 := keepf (grow_chg HC0.out HN0.out HC1.out hgr2); have HN2 := keepf (grow_new HN0.out (HC0.out.trans HC1.out (fun _ _ h => h)).size hat2); clear hown2 hgr2 hat2 hA2)
    | (go_at_call 28; refine (HST.out _ HC2.out).mono ?_; rintro e w3 ⟨A3, c3, rfl, ho3, hc3⟩; have HO3 := keepf ho3; have HC3 := keepf hc3; clear ho3 hc3)
    | (at_builtin; go_loud (refine wpList_append_src rfl (.tmp 7) (.tmp 9) 22 rfl 5 i0 (.int .u8 0) 1 1 Tryz.underlying22 hi hz0 hz1 hz2 rfl (by decide) (.slice A2 (0 + 2) c2) (0 + 2) _ rfl (own_chg (S := NoS) HO2.out HC3.out (fun _ _ h => h)) _ _ _ (ucells (st5 bs)) rfl (src_own HO3.out) (uone _) (by unfold maxLen; omega) (by omega) ?_); intro S4 w4 hown4 hgr4 hat4; obtain ⟨A4, c4, rfl, hA4⟩ := own_slice hown4; have HO4 := keepf hown4; have HC4 := keepf (grow_chg HC2.out HN2.out HC3.out hgr4); have HN4 := keepf (grow_new HN2.out (HC2.out.trans HC3.out (fun _ _ h => h)).size hat4); clear hown4 hgr4 hat4 hA4)
    | (go_at_call 21; refine (HSU.out _ HC4.out).mono ?_; rintro e w' ⟨rfl, rfl⟩)
    | (go_at_call 20; refine (HBY.out _).mono ?_; rintro e w5 ⟨rfl, hw5⟩; have HW5 := keepf hw5; clear hw5)
    | (at_builtin; go_loud (refine wpList_append_src rfl (.tmp 11) (.tmp 14) 22 rfl 5 i0 (.int .u8 0) 1 1 Tryz.underlying22 hi hz0 hz1 hz2 rfl (by decide) (.slice A4 (0 + 2 + (5 + n)) c4) (0 + 2 + (5 + n)) _ rfl (by rw [HW5.out]; exact own_chg (S := NoS) HO4.out ((Chg.refl NoS w4).alloc _) (fun _ _ h => h)) _ _ _ (ucells (b4 x)) rfl (by rw [HW5.out]; exact src_own (own_of w4 5 (ucells (b4 x)).toArray 4 (by simp [ucells, b4]) (by omega))) (uone _) (by unfold maxLen; omega) (by omega) ?_); intro S6 w6 hown6 hgr6 hat6; obtain ⟨A6, c6, rfl, hA6⟩ := own_slice hown6; have HO6 := keepf hown6; have HC6 := keepf (grow_chg HC4.out HN4.out (show Chg NoS w4 _ by rw [HW5.out]; exact (Chg.refl _ _).alloc _) hgr6); clear hown6 hgr6 hat6 hA6))
  go_ret
  rw [show 2 + (5 + n) + 4 = 0 + 2 + (5 + n) + 4 from by omega]
  refine ⟨A6, c6, rfl, ?_, HC6.out⟩
  rw [HE.out]
  exact HO6.out
end Go.Proofs.YtmmilchmnimjoaaGreat
