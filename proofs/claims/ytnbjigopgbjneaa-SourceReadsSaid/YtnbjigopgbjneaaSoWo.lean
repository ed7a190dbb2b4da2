/- The small question that every statement of layer 16 asks, walked. -/
import Derived.Test.YtnbjigopgbjneaaSoWk
namespace Go.Proofs.Ytnbjigopgbjneaa
open Go.RowKit
set_option linter.unusedVariables false
set_option linter.unusedSimpArgs false

theorem wk_ask {w : World} {S : Nat → Prop} {g : Nat} {c : Nat → Nat} (h : Wk2 w S g c) :
    (Calls Try.prog 14 #[.pointer (some ⟨g, 0, none⟩), .int .i64 1] w (OnlyTo w (.int .i64 5))) ∧ Calls Try.prog 14 #[.pointer (some ⟨g, 0, none⟩), .int .i64 0] w (OnlyTo w (.int .i64 0)) ∧
    Calls Try.prog 20 #[.pointer (some ⟨g, 0, none⟩)] w (fun e w' => e = .returned (.int .i64 5) ∧ w = w') := by
  have h1 := first_so h.1 1 (by decide)
  have h2 := first_so h.1 0 (by decide)
  rw [wk_f1] at h1
  rw [wk_f0] at h2
  exact ⟨h1, h2, total_so h.1⟩

set_option maxHeartbeats 4000000 in
set_option maxRecDepth 100000 in
theorem works16 (w : World) : Calls Try.prog 9 #[] w (OnlyTo w (.bool true)) := by
  have hcc1 : ∀ W : World, (convert 30 30 (.slice (some ⟨W.heap.size, 0, none⟩) 2 2)).run Try.prog (W.alloc (.cells #[.int .u8 97, .int .u8 98] 5)) = .ok (.slice (some ⟨W.heap.size, 0, none⟩) 2 2) (W.alloc (.cells #[.int .u8 97, .int .u8 98] 5 (2, 3))) := fun W => Lib.run_convert_bytes_const W 30 5 _ 2 2 Try.underlying30 Try.underlying5
  have hcc2 : ∀ W : World, (convert 30 30 (.slice (some ⟨W.heap.size, 0, none⟩) 2 2)).run Try.prog (W.alloc (.cells #[.int .u8 99, .int .u8 100] 5)) = .ok (.slice (some ⟨W.heap.size, 0, none⟩) 2 2) (W.alloc (.cells #[.int .u8 99, .int .u8 100] 5 (2, 3))) := fun W => Lib.run_convert_bytes_const W 30 5 _ 2 2 Try.underlying30 Try.underlying5
  have HN := keepf (show Calls Try.prog 7 #[.int .i64 5] w (NewSo w 5) from new_ok 5 w (by decide))
  go_enter Try.func9, Try.ntmps9
  go_upto_region 2 with (go_at_call 7; refine HN.out.mono ?_; rintro e w1 ⟨g, S, rfl, hS1, hc1, hn1⟩; have HS1 := keepf hS1; have HC1 := keepf hc1; have HN1 := keepf hn1; clear hS1 hc1 hn1)
  have HP1 := keepf (wk_put1 (HS1.out.no ((Chg.refl NoS w1).alloc (.cells #[.int .u8 97, .int .u8 98] 5 (2, 3)))) (some ⟨w1.heap.size, 0, none⟩) (src_mkS #[.int .u8 97, .int .u8 98] 5 (2, 3) rfl rfl) (fun ad e hi => by cases e; have := HS1.out.lt hi; simp only at this; omega))
  go_upto_region 3 with (go_at_call 11; refine HP1.out.mono ?_; rintro e w2 ⟨S2, c2, rfl, hk2, hs2, hc2⟩; have HK2 := keepf hk2; have HS2 := keepf hs2; have HC2 := keepf hc2; clear hk2 hs2 hc2)
  have HR1 := keepf (wk_rd1 HK2.out)
  clear hcc1
  go_upto_region 4 with (go_at_call 12; refine HR1.out.mono ?_; rintro e w3 ⟨gr, rfl, hr3, hc3, hn3⟩; have HR3 := keepf hr3; have HC3 := keepf hc3; have HN3 := keepf hn3; clear hr3 hc3 hn3)
  have HP2 := keepf (wk_put2 (show Wk1 _ S2 g c2 from ⟨(HK2.out.1.no HC3.out).no ((Chg.refl NoS w3).alloc (.cells #[.int .u8 99, .int .u8 100] 5 (2, 3))), HK2.out.2⟩) (some ⟨w3.heap.size, 0, none⟩) (src_mkS #[.int .u8 99, .int .u8 100] 5 (2, 3) rfl rfl) (fun ad e hi => by cases e; have := HK2.out.1.lt hi; have := HC3.out.size; simp only at *; omega))
  go_upto_region 5 with (go_at_call 11; refine HP2.out.mono ?_; rintro e w4 ⟨S4, c4, rfl, hk4, hs4, hc4⟩; have HK4 := keepf hk4; have HS4 := keepf hs4; have HC4 := keepf hc4; clear hk4 hs4 hc4)
  have HR2 := keepf (wk_rd2 HK4.out)
  clear hcc2
  go_upto_region 6 with (go_at_call 12; refine HR2.out.mono ?_; rintro e w5 ⟨gr5, rfl, hr5, hc5, _⟩; have HR5 := keepf hr5; have HC5 := keepf hc5; clear hr5 hc5)
  have hcv1 : (convert 30 9 (.slice (some ⟨gr, 0, none⟩) 2 2)).run Try.prog w5 = .ok (.string ⟨#[97, 98]⟩) w5 :=
    conv_l (bs := [97, 98]) (src_no ((src_no HR3.out ((Chg.refl NoS w3).alloc (.cells #[.int .u8 99, .int .u8 100] 5 (2, 3)))).chg HC4.out (fun ad e h0 hi => by cases e; have := HK2.out.1.lt hi; have := HN3.out; simp only at *; omega) (fun _ => by decide)) HC5.out)
  have hcv2 : (convert 30 9 (.slice (some ⟨gr5, 0, none⟩) 4 4)).run Try.prog w5 = .ok (.string ⟨#[97, 98, 99, 100]⟩) w5 := conv_l (bs := [97, 98, 99, 100]) HR5.out
  have HA := keepf (fun (V : World) (hV : Chg NoS w5 V) => wk_ask (w := V) ⟨(HK4.out.1.no HC5.out).no hV, HK4.out.2⟩)
  have hc5 : Chg NoS w w5 := (((((HC1.out.alloc _).trans HC2.out (fun i hi h => by have := HN1.out i h; omega)).then_ HC3.out).alloc _).trans HC4.out (fun i hi h => by
    rcases HS2.out i h with h1 | h1
    · have := HN1.out i h1; omega
    · have := HC1.out.size; simp at h1; omega)).then_ HC5.out
  have HC := keepf hc5
  clear hc5
  go_wp2_with (first
    | (go_at_call 14; first
        | ((with_reducible refine (HA.out w5 (Chg.refl _ _)).1.mono ?_); rintro e w6 ⟨rfl, hc6⟩; have HC6 := keepf hc6; clear hc6)
        | ((with_reducible refine (HA.out w6 HC6.out).2.1.mono ?_); rintro e w7 ⟨rfl, hc7⟩; have HC7 := keepf hc7; clear hc7))
    | (go_at_call 20; refine (HA.out w7 (HC6.out.then_ HC7.out)).2.2.mono ?_; rintro e w8 ⟨rfl, rfl⟩))
  go_ret
  exact ⟨rfl, (HC.out.then_ HC6.out).then_ HC7.out⟩

end Go.Proofs.Ytnbjigopgbjneaa
