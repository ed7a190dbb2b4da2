/- Merged by program. -/
import Derived.Test.YthejpkflcgjdoaaGreatDoorRows
import Derived.Test.YthejpkflcgjdoaaGreatDoorChecked
import Derived.JoinedCond
import Derived.JoinedOf
import Derived.ChangeOld
set_option linter.unusedVariables false
set_option linter.unusedSimpArgs false
namespace Go.Proofs.YthejpkflcgjdoaaGreatDoor.lxsta
theorem jf9:((Rows.xrefStaysRow.inPlace==Tryz.prog.inPlace 6))=true:=by kernel_rfl
end Go.Proofs.YthejpkflcgjdoaaGreatDoor.lxsta
