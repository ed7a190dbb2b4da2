/- Merged by program. -/
import Derived.Test.YthejpkflcgjdoaaGreatDoorE39
import Derived.Test.YthejpkflcgjdoaaGreatDoorE45
set_option linter.unusedVariables false
set_option linter.unusedSimpArgs false
namespace Go.Proofs.YthejpkflcgjdoaaGreatDoor.lxfin
open Go.RowKit Go.ChangeShapes Go.WideShapes Go.ChangeAt
theorem over:Rows.xrefFindsRow.holds Tryz.pinned (OpenSpec.ofChange Rows.xrefFindsSpec) :=
 OpenClaim.holds_of_cond 5 Tryz.f5 rfl rfl rfl rfl rfl rfl rfl ⟨rfl,rfl,rfl,rfl,rfl⟩ rfl rfl rfl rfl rfl (by kernel_rfl) Tryz.func5 closed
  (of_decide_eq_true (by kernel_rfl)) (by unfold Func.isWrapper;first|(rw [if_pos (by decide +kernel)];kernel_rfl)|(rw [if_neg (by decide +kernel)];exact⟨rfl,rfl⟩))
  (fun os started H enc _ Fi=>by rw [OpenClaim.pre_eq_preRow];exact lifted os started H enc Fi)
end Go.Proofs.YthejpkflcgjdoaaGreatDoor.lxfin
