/- Merged by program. -/
import Derived.Test.YthejpkflcgjdoaaGreatDoorRows
import Derived.Test.YthejpkflcgjdoaaGreatDoorCards
import Derived.Test.YthejpkflcgjdoaaGreatDoorChecked
import Derived.SevenTiedAt
set_option linter.unusedVariables false
set_option linter.unusedSimpArgs false
namespace Go.Proofs.YthejpkflcgjdoaaGreatDoor.lxfin
theorem t_wf:Rows.xrefFindsRow.wfByText (OpenSpec.ofChange Rows.xrefFindsSpec)=true:=by kernel_rfl
theorem t_main:Tryz.prog.mainIs=some (Rows.xrefFindsCard.stood.harness.1,Rows.xrefFindsCard.stood.harness.2.toList):=by kernel_rfl
theorem t_fn:Tryz.prog.funcNamed Rows.xrefFindsRow.func=some 5:=by kernel_rfl
end Go.Proofs.YthejpkflcgjdoaaGreatDoor.lxfin
