/- The small question that every statement of this layer asks. -/
import Derived.Test.YtmpbmmoncelpkaaSame
namespace Go.Proofs.Ytmpbmmoncelpkaa
open Go.RowKit
set_option linter.unusedVariables false

theorem wk1 : putF (0, 5) [] = [(0, 5)] := by decide
theorem wk2 : putF (5, 9) [(0, 5)] = [(0, 9)] := by decide
theorem wk3 : sumR [(0, 9)] = 9 := by decide
theorem wk4 : uptoL [(0, 9)] 3 = 9 := by decide
theorem wk5 : hasB (2, 9) [(0, 9)] = true := by decide
theorem wk6 : hasB (2, 10) [(0, 9)] = false := by decide

set_option maxHeartbeats 1000000 in
theorem works_any (w : World) :
    Calls Try.prog 8 #[] w (OnlyTo w (.bool true)) := by
  have HA := keepf (set_new w)
  go_enter Try.func8, Try.ntmps8
  go_wp2_with fail
  refine (put_any w.heap.size (0, 5) [] _ HA.out (by simp)).mono ?_
  rintro e w1 ⟨rfl, hS1, hc1⟩
  rw [wk1] at hS1
  have H1 := keepf hS1
  have HC1 := keepf (((Chg.refl NoS w).alloc _).trans hc1 (fun i h1 h2 => by omega))
  clear hS1 hc1
  go_wp2_with fail
  refine (put_any w.heap.size (5, 9) _ _ H1.out (by simp)).mono ?_
  rintro e w2 ⟨rfl, hS2, hc2⟩
  rw [wk2] at hS2
  have H2 := keepf hS2
  have HC2 := keepf (HC1.out.trans hc2 (fun i h1 h2 => by omega))
  clear hS2 hc2 H1 HC1
  go_wp2_with fail
  refine (all_any _ _ _ H2.out.v (by simp)).mono ?_
  rintro e w3 ⟨A3, c3, rfl, hown, hc3, hn3⟩
  have H3 := keepf (H2.out.no hc3)
  have HC3 := keepf (HC2.out.then_ hc3)
  have HS3 := keepf (src_no (src_own hown) ((Chg.refl NoS w3).alloc (.cells #[.int .i64 0, .int .i64 9] 34)))
  clear hown hc3 hn3
  go_wp2_with fail
  refine (same_any _ _ _ _ _ _ _ [(0, 9)] _ HS3.out (src_two_at rfl) rfl rfl (by unfold maxLen; simp) (by unfold maxLen; simp)).mono ?_
  rintro e w4 ⟨rfl, hc4⟩
  have HC34 := keepf (((Chg.refl NoS w3).alloc (.cells #[.int .i64 0, .int .i64 9] 34)).then_ hc4)
  clear hc4
  have H4 := keepf (H3.out.no HC34.out)
  go_wp2_with fail
  refine (size_any _ _ _ H4.out.v).mono ?_
  rintro e w5 ⟨rfl, hc5⟩
  have H5 := keepf (H4.out.no hc5)
  have HC5 := keepf ((HC3.out.then_ HC34.out).then_ hc5)
  clear hc5
  rw [wk3]
  go_wp2_with fail
  refine (upto_any _ _ _ _ H5.out.v).mono ?_
  rintro e w6 ⟨rfl, hc6⟩
  have H6 := keepf (H5.out.no hc6)
  have HC6 := keepf (HC5.out.then_ hc6)
  clear hc6
  rw [wk4]
  go_wp2_with fail
  refine (has_any _ _ (2, 9) _ H6.out.v).mono ?_
  rintro e w7 ⟨rfl, hc7⟩
  have H7 := keepf (H6.out.no hc7)
  have HC7 := keepf (HC6.out.then_ hc7)
  clear hc7
  rw [wk5]
  go_wp2_with fail
  refine (has_any _ _ (2, 10) _ H7.out.v).mono ?_
  rintro e w8 ⟨rfl, hc8⟩
  have HC8 := keepf (HC7.out.then_ hc8)
  clear hc8
  rw [wk6]
  go_wp2_with fail
  go_ret
  exact ⟨rfl, HC8.out⟩
end Go.Proofs.Ytmpbmmoncelpkaa
