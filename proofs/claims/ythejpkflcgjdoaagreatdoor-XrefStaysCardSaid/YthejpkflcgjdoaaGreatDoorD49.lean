/- Merged by program. -/
import Derived.Test.YthejpkflcgjdoaaGreatDoorRows
import Derived.Test.YthejpkflcgjdoaaGreatDoorCards
import Derived.Test.YthejpkflcgjdoaaGreatDoorChecked
import Derived.SevenTiedAt
set_option linter.unusedVariables false
set_option linter.unusedSimpArgs false
namespace Go.Proofs.YthejpkflcgjdoaaGreatDoor.lxsta
theorem t_wf:Rows.xrefStaysRow.wfByText (OpenSpec.ofChange Rows.xrefStaysSpec)=true:=by kernel_rfl
theorem t_main:Tryz.prog.mainIs=some (Rows.xrefStaysCard.stood.harness.1,Rows.xrefStaysCard.stood.harness.2.toList):=by kernel_rfl
theorem t_fn:Tryz.prog.funcNamed Rows.xrefStaysRow.func=some 6:=by kernel_rfl
end Go.Proofs.YthejpkflcgjdoaaGreatDoor.lxsta
