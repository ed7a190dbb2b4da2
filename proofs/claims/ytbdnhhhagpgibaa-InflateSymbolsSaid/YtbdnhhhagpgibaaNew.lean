/- What New, Complete and ready tell. -/
import Derived.Test.YtbdnhhhagpgibaaNumber
namespace Go.Proofs.Ytbdnhhhagpgibaa
open Go.RowKit
set_option linter.unusedVariables false
set_option linter.unusedSimpArgs false

/-- A table of the lengths ls. -/
def Tb (w : World) (g : Nat) (ls : List Int) : Prop :=
  ∃ T S, Blk w g 110 T ∧ TabIs T ls.length (deepL ls) (fun i => ls.getD i 0) (cd ls) (fst (cnt ls)) (cnt ls) (att (cnt ls)) S ∧ SymTo ls S 320
theorem Tb.chg {w w' : World} {g : Nat} {ls : List Int} {K : Nat → Prop} (h : Tb w g ls) (hc : Chg K w w') (hk : ¬ K g) : Tb w' g ls := by
  obtain ⟨T, S, h1, h2, h3⟩ := h
  exact ⟨T, S, h1.chg hc hk, h2, h3⟩
theorem Tb.drewN {w : World} {g : Nat} {ls : List Int} (h : Tb w g ls) (n : Nat) : Tb (w.drewN n) g ls := h.chg ((Chg.refl NoS _).drewN n) (fun h => h)
theorem Tb.lt {w : World} {g : Nat} {ls : List Int} (h : Tb w g ls) : g < w.heap.size := by
  obtain ⟨T, S, h1, _⟩ := h
  exact h1.lt

theorem new_no (ls : List Int) (A : Option Addr) (c : Nat) (w : World) (hM : ¬ May ls) (hL : ls.length ≤ 1000) (hb : in64 ls) (hS : Src w 1 A ls.length c (icells ls)) :
    Calls Try.prog 61 #[.slice A ls.length c] w fun e w' => e = .returned (.tuple #[.pointer none, .int .i64 13]) ∧ Chg NoS w w' := by
  have HP := keepf (fun W h => count_any ls A c W hL hb h)
  have HS := keepf hS
  clear hS hb
  go_enter Try.func61, Try.ntmps61
  go_wp2_with (first
    | (go_at_call 67; refine (HP.out _ HS.out).mono ?_; rintro e w1 ⟨R, x, rfl, hs, h1, hm, hc⟩; rw [decide_eq_false hM]; have H1 := keepf h1; have HC := keepf hc; have HSZ := keepf hs; clear hs h1 hm hc)
    | (refine alloc_big rfl 108 rfl _ zero_rows ?_; intro w2 g hg hblk hch; have HBL := keepf hblk; have HCH := keepf hch; have HG := keepf hg; clear hblk hch hg)
    | (refine store_blk rfl 108 _ _ rfl _ _ rfl rfl 108 _ HBL.out 48 size_rows HSZ.out rows_zero.size H1.out ?_; intro w3 hblk2 hch2; have HC2 := keepf hch2; clear hblk2 hch2))
  go_ret2
  exact ⟨rfl, HC.out.trans (chg_new HCH.out HG.out HC2.out) (fun _ _ h => h)⟩

/-- Behind a New that is good. -/
def NewTo (w : World) (ls : List Int) (e : Ending) (w' : World) : Prop :=
  ∃ g, e = .returned (.tuple #[.pointer (some ⟨g, 0, none⟩), .int .i64 0]) ∧ Tb w' g ls ∧ Chg NoS w w' ∧ w.heap.size ≤ g

set_option maxHeartbeats 2000000 in
set_option maxRecDepth 100000 in
theorem new_ok (ls : List Int) (A : Option Addr) (c : Nat) (w : World) (hM : May ls) (hb : in64 ls) (hS : Src w 1 A ls.length c (icells ls)) :
    Calls Try.prog 61 #[.slice A ls.length c] w (NewTo w ls) := by
  have hL : ls.length ≤ 1000 := by have := hM.2.1; omega
  have HP := keepf (fun W h => count_any ls A c W hL hb h)
  have HS := keepf hS
  have HM := keepf hM
  clear hS hb hM
  go_enter Try.func61, Try.ntmps61
  go_upto_region 5 with (first
    | (go_at_call 67; refine (HP.out _ HS.out).mono ?_; rintro e w1 ⟨R, x, rfl, hs, h1, hm, hc⟩; rw [decide_eq_true HM.out]; have HR := keepf (hm HM.out).2; have H1 := keepf h1; have HC := keepf hc; have HSZ := keepf hs; clear hs h1 hm hc)
    | (refine alloc_big rfl 108 rfl _ zero_rows ?_; intro w2 g hg hblk hch; have HBL := keepf hblk; have HCH := keepf hch; have HG := keepf hg; clear hblk hch hg)
    | (refine store_blk rfl 108 _ _ rfl _ _ rfl rfl 108 _ HBL.out 48 size_rows HSZ.out rows_zero.size H1.out ?_; intro w3 hblk2 hch2; have HC2 := keepf hch2; have HB2 := keepf hblk2; clear hblk2 hch2)
    | (refine load_blk rfl 108 _ rfl _ rfl 108 _ _ HB2.out Try.underlying108 rfl 48 size_rows HSZ.out ?_)
    | (refine build_to rfl 110 _ rfl (newTab ls.length R) (by rw [List.map_toArray]; exact built_tab ls.length R HSZ.out) ?_)
    | (refine box_big rfl 110 _ rfl (newTab ls.length R) rfl ?_; intro w4 g4 hg4 hblk4 hch4; have HB4 := keepf hblk4; have HC4 := keepf hch4; have HG4 := keepf hg4; clear hblk4 hch4 hg4))
  have hcc : Chg NoS w w4 := (HC.out.trans (chg_new HCH.out HG.out HC2.out) (fun _ _ h => h)).trans HC4.out (fun _ _ h => h)
  have hsz := HC.out.size
  have hsz2 := (chg_new HCH.out HG.out HC2.out).size
  have hgs : w.heap.size ≤ g4 := by have := HG4.out; omega
  have HT := keepf (newTab_is ls.length R (cnt ls) HR.out)
  generalize newTab ls.length R = T at *
  have HCC := keepf hcc
  have HGS := keepf hgs
  have HS4 : Hid (Src w4 1 A ls.length c (icells ls)) := HS.out.below (w0 := w) hcc
  clear hcc hgs hsz hsz2 HC HCH HG HC2 HC4 HG4 HBL HB2 H1 HSZ HR HP HS
  go_upto_region 6 with (first
    | (refine copy_blk rfl _ _ 32 32 rfl 3 Try.underlying32 size_int g4 3 320 320 rfl A ls.length c rfl 110 T HB4.out (icells ls) HS4.out (by have := HM.out.2.1; omega) (by rw [HT.out.size]; have := HM.out.2.1; omega) (icells_one ls) ?_; intro w5 hblk5 hch5; have HB5 := keepf hblk5; have HC5 := keepf hch5; clear hblk5 hch5))
  have HT5 := keepf (HT.out.copy ls HM.out.2.1)
  generalize (splice T.toList 3 (icells ls)).toArray = T5 at *
  clear HT HB4
  go_upto_region 7 with (first
    | (go_at_call 68; refine (begin_any g4 T5 ls.length _ _ (cnt ls) _ _ HB5.out HT5.out (fun i hi => by have h1 := fst_le ls HM.out i (by omega); have h2 : 2 ^ i ≤ 2 ^ 15 := Nat.pow_le_pow_right (by decide) (by omega); omega) (fun i _ => by have h1 := att_le ls i; have h2 := HM.out.2.1; omega)).mono ?_; rintro e w6 ⟨rfl, T6, hb6, ht6, hc6⟩; have HB6 := keepf hb6; have HT6 := keepf ht6; have HC6 := keepf hc6; clear hb6 ht6 hc6))
  go_wp2_with (first
    | (go_at_call 69; refine (number_any g4 T6 ls.length _ ls _ HM.out HB6.out HT6.out).mono ?_; rintro e w7 ⟨rfl, T7, S7, hb7, ht7, hs7, hc7⟩; have HB7 := keepf hb7; have HT7 := keepf ht7; have HC7 := keepf hc7; have HS7 := keepf hs7; clear hb7 ht7 hc7 hs7))
  go_ret2
  refine ⟨g4, rfl, ⟨T7, S7, HB7.out, HT7.out, HS7.out⟩, ?_, HGS.out⟩
  have h1 := (HC5.out.trans HC6.out (fun _ _ h => h)).trans HC7.out (fun _ _ h => h)
  exact HCC.out.trans h1 (fun i hi e => by have := HGS.out; omega)

theorem ready_any (g : Nat) (w : World) (h0 : w.cell? ⟨g, 0, none⟩ = some (.bool true)) :
    Calls Try.prog 63 #[.pointer (some ⟨g, 0, none⟩)] w fun e w' => e = .returned (.bool true) ∧ w = w' := by
  go_enter Try.func63, Try.ntmps63
  go_wp2_with fail
  go_ret
  exact ⟨rfl, rfl⟩
end Go.Proofs.Ytbdnhhhagpgibaa
