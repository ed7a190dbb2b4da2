/- NameOf, IntOf, RefTo. -/
import Derived.Test.YtjbjfoingpnlmaaVCa2
namespace Go.Proofs.Ytjbjfoingpnlmaa
open Go.RowKit
set_option linter.unusedVariables false
set_option linter.unusedSimpArgs false

theorem nameOf_any (s : ByteArray) (w : World) : Calls Try.prog 26 #[.string s] w fun e w' => e = .returned (.agg #[.int .i64 5, .int .i64 0, .string s, .slice none 0 0]) ∧ Chg NoS w w' := by
  have HO := keepf (⟨Blk.new w 24 #[.int .i64 0, .int .i64 0, .string ⟨#[]⟩, .slice none 0 0], Nat.le_refl _⟩ : PB w _ _ _)
  have HC := keepf ((Chg.refl NoS w).alloc (.cells #[.int .i64 0, .int .i64 0, .string ⟨#[]⟩, .slice none 0 0] 24))
  have HF := keepf (Blk.new w 24 #[.int .i64 5, .int .i64 0, .string s, .slice none 0 0])
  have HD := keepf ((Chg.refl NoS w).alloc (.cells #[.int .i64 5, .int .i64 0, .string s, .slice none 0 0] 24))
  go_enter Try.func26, Try.ntmps26
  go_wp2_with fail
  try simp only [Exit.noGoto_ret]
  have r0 := HF.out.cell 0
  have r1 := HF.out.cell 1
  have r2 := HF.out.cell 2
  have r3 := HF.out.cell 3
  simp at r0 r1 r2 r3
  refine bodyPost_ret (v := .agg #[.int .i64 5, .int .i64 0, .string s, .slice none 0 0]) (by simp [results, Try.results26, go_sem, r0, r1, r2, r3]) rfl ?_
  exact ⟨rfl, HD.out⟩
theorem intOf_any (n : Int) (w : World) : Calls Try.prog 27 #[.int .i64 n] w fun e w' => e = .returned (.agg #[.int .i64 2, .int .i64 n, .string ⟨#[]⟩, .slice none 0 0]) ∧ Chg NoS w w' := by
  have HF := keepf (Blk.new w 24 #[.int .i64 2, .int .i64 n, .string ⟨#[]⟩, .slice none 0 0])
  have HD := keepf ((Chg.refl NoS w).alloc (.cells #[.int .i64 2, .int .i64 n, .string ⟨#[]⟩, .slice none 0 0] 24))
  go_enter Try.func27, Try.ntmps27
  go_wp2_with fail
  try simp only [Exit.noGoto_ret]
  have r0 := HF.out.cell 0
  have r1 := HF.out.cell 1
  have r2 := HF.out.cell 2
  have r3 := HF.out.cell 3
  simp at r0 r1 r2 r3
  refine bodyPost_ret (v := .agg #[.int .i64 2, .int .i64 n, .string ⟨#[]⟩, .slice none 0 0]) (by simp [results, Try.results27, go_sem, r0, r1, r2, r3]) rfl ?_
  exact ⟨rfl, HD.out⟩
theorem refTo_any (n : Int) (w : World) : Calls Try.prog 28 #[.int .i64 n] w fun e w' => e = .returned (.agg #[.int .i64 8, .int .i64 n, .string ⟨#[]⟩, .slice none 0 0]) ∧ Chg NoS w w' := by
  have HF := keepf (Blk.new w 24 #[.int .i64 8, .int .i64 n, .string ⟨#[]⟩, .slice none 0 0])
  have HD := keepf ((Chg.refl NoS w).alloc (.cells #[.int .i64 8, .int .i64 n, .string ⟨#[]⟩, .slice none 0 0] 24))
  go_enter Try.func28, Try.ntmps28
  go_wp2_with fail
  try simp only [Exit.noGoto_ret]
  have r0 := HF.out.cell 0
  have r1 := HF.out.cell 1
  have r2 := HF.out.cell 2
  have r3 := HF.out.cell 3
  simp at r0 r1 r2 r3
  refine bodyPost_ret (v := .agg #[.int .i64 8, .int .i64 n, .string ⟨#[]⟩, .slice none 0 0]) (by simp [results, Try.results28, go_sem, r0, r1, r2, r3]) rfl ?_
  exact ⟨rfl, HD.out⟩
end Go.Proofs.Ytjbjfoingpnlmaa
