/- Merged by program: ZWork. -/
import Derived.Test.YtmmilchmnimjoaaGreatN37
import Derived.Test.YtmmilchmnimjoaaGreatN38
/- The small question that every statement of stage 8 asks. -/
namespace Go.Proofs.YtmmilchmnimjoaaGreat
open Go.RowKit
set_option linter.unusedVariables false
set_option linter.unusedSimpArgs false
theorem zw1 (w : World) : Calls Tryz.prog 14 #[.slice (some ⟨w.heap.size, 0, none⟩) 1 1, .int .i64 1] (w.alloc (.cells #[.int .u8 97] 5 (1, 2))) (ZpTo (w.alloc (.cells #[.int .u8 97] 5 (1, 2))) 1 [97]) :=
  zpack_ok [97] _ 1 1 _ (src_mark7 #[.int .u8 97] _ (1, 2) rfl rfl) (Nat.le_refl _) (by decide) (by decide) (by decide)
theorem bstr2z : bstr [120, 156] = ⟨#[120, 156]⟩ := rfl
set_option maxHeartbeats 1000000 in
set_option maxRecDepth 100000 in
theorem works_any8 (w : World) : Calls Tryz.prog 7 #[] w fun e w' => e = .returned (.bool true) ∧ Chg NoS w w' := by
  have H1 := keepf (zw1 w)
  have HC0 := keepf ((Chg.refl NoS w).alloc (.cells #[.int .u8 97] 5 (1, 2)))
  have hcc : ∀ W : World, (convert 22 22 (.slice (some ⟨W.heap.size, 0, none⟩) 1 1)).run Tryz.prog (W.alloc (.cells #[.int .u8 97] 5)) = .ok (.slice (some ⟨W.heap.size, 0, none⟩) 1 1) (W.alloc (.cells #[.int .u8 97] 5 (1, 2))) := fun W => Lib.run_convert_bytes_const W 22 5 _ 1 1 Tryz.underlying22 Tryz.underlying5
  go_enter Tryz.func7, Tryz.ntmps7
  go_upto_region 2 with (go_at_call 14; refine H1.out.mono ?_; rintro e w2 ⟨L, A2, c2, n, hn, rfl, hP, ho2, hc2, _⟩; have HN := keepf hn; have HP := keepf hP; have HO2 := keepf ho2; have HC2 := keepf (HC0.out.trans hc2 (fun _ _ e => e)); clear hn hP ho2 hc2)
  have hn6 := zpk_len L [97]
  have hsm := zpk_small HP.out (by decide)
  have hcap := own_cap7 HO2.out
  have hU := zun_any (zpk L [97]) A2 c2 9 w2 (by rw [← HN.out]; exact src_own HO2.out) (by rw [← HN.out]; exact hcap) (zpk_lt L [97]) (by omega) (by decide) (head_pk0 L [97])
  rw [← HN.out] at hU hn6
  have HU := keepf hU
  have HB := keepf (fun (k : Int) (n2 : Nat) (out : List Nat) (h : UnIs (zpk L [97]) 9 k n2 out) => un_back (ms := []) (most := 9) HP.out (by decide) (by decide) (by rw [List.append_nil]; exact h))
  have h2n : 2 ≤ n := by omega
  clear hU hn6 hsm
  go_upto_region 3 with (go_at_call 8; refine HU.out.mono ?_; rintro e w3 ⟨A3, c3, m3, n3, k3, out3, hm3, rfl, hu3, hs3, hc3⟩; obtain ⟨rfl, hn3, rfl⟩ := HB.out _ _ _ hu3; have HM3 := keepf hm3; have HN3 := keepf hn3; have HS3 := keepf hs3; have HC3 := keepf hc3; clear hm3 hn3 hu3 hs3 hc3)
  obtain rfl : n3 = n := HN3.out.trans HN.out.symm
  obtain rfl : m3 = 1 := HM3.out
  have hto : ∀ W : World, (Instr.sliceAt 22 (.slice A2 n3 c2) none (some (.int .i64 2)) none).run Tryz.prog W = .ok (.slice A2 2 c2) W := fun W => toB A2 n3 c2 2 (by omega) W
  have hmin : min (2 : Int) (n3 : Int) = 2 := by omega
  have hmin2 : (if (n3 : Int) < 2 then (n3 : Int) else 2) = 2 := by rw [if_neg (by omega)]
  have hmin3 : (if (2 : Int) < n3 then (2 : Int) else n3) = 2 := by split <;> omega
  have hcv1 : Cs A2 2 c2 (bstr [120, 156]) w3 := by
    have h := src_toU (m := 2) (Src.below (w0 := w2) (src_own HO2.out) HC3.out) hcap h2n
    exact conv_src h
  have hcv2 : Cs A3 1 c3 (bstr [97]) w3 := conv_src HS3.out
  rw [bstr2z] at hcv1
  rw [bstrA] at hcv2
  have HK := keepf (fun W => zcheck_nil W)
  clear hcap
  go_wp2_with (go_at_call 10; refine (HK.out _).mono ?_; rintro e w4 ⟨rfl, hc4⟩; have HC4 := keepf hc4; clear hc4)
  go_ret
  exact ⟨rfl, (HC2.out.trans HC3.out (fun _ _ h => h)).trans HC4.out (fun _ _ h => h)⟩
end Go.Proofs.YtmmilchmnimjoaaGreat
