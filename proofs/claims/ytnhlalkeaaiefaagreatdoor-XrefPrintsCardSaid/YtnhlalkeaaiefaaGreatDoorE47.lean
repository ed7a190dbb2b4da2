import Derived.Test.YtnhlalkeaaiefaaGreatDoorCards
import Derived.SevenTiedAt
set_option linter.unusedVariables false
set_option linter.unusedSimpArgs false
namespace Go.Proofs.YtnhlalkeaaiefaaGreatDoor.lxpri
theorem v9k:Rows.xrefPrintsRow.wfByText (OpenSpec.ofChange Rows.xrefPrintsSpec)=true:=by kernel_rfl
theorem v6o:Tryz.prog.mainIs=some (Rows.xrefPrintsCard.stood.harness.1,Rows.xrefPrintsCard.stood.harness.2.toList):=by kernel_rfl
theorem t_fn:Tryz.prog.funcNamed Rows.xrefPrintsRow.func=some 3:=by kernel_rfl
end Go.Proofs.YtnhlalkeaaiefaaGreatDoor.lxpri
