import Derived.Test.YtmibnkddappgiaaGreatDoorK37
import Derived.Test.YtmibnkddappgiaaGreatDoorK43
set_option linter.unusedVariables false
set_option linter.unusedSimpArgs false
namespace Go.Proofs.YtmibnkddappgiaaGreatDoor.lfchk
open Go.RowKit Go.ChangeShapes Go.WideShapes Go.ChangeAt
theorem over:Rows.frameChecksRow.holds Tryz.pinned (OpenSpec.ofChange Rows.frameChecksSpec) :=
 OpenClaim.holds_of_cond 3 Tryz.f3 rfl rfl rfl rfl rfl rfl rfl ⟨rfl,rfl,rfl,rfl,rfl⟩ rfl rfl rfl rfl rfl (by kernel_rfl) Tryz.func3 v8e
  (of_decide_eq_true (by kernel_rfl)) (by unfold Func.isWrapper;first|(rw [if_pos (by decide +kernel)];kernel_rfl)|(rw [if_neg (by decide +kernel)];exact⟨rfl,rfl⟩))
  (fun os started H enc _ Fi=>by rw [OpenClaim.pre_eq_preRow];exact lifted os started H enc Fi)
end Go.Proofs.YtmibnkddappgiaaGreatDoor.lfchk
