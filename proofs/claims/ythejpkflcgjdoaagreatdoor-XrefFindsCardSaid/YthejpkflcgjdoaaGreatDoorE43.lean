/- Merged by program. -/
import Derived.Test.YthejpkflcgjdoaaGreatDoorRows
import Derived.Test.YthejpkflcgjdoaaGreatDoorChecked
import Derived.JoinedCond
import Derived.JoinedOf
import Derived.ChangeOld
set_option linter.unusedVariables false
set_option linter.unusedSimpArgs false
namespace Go.Proofs.YthejpkflcgjdoaaGreatDoor.lxfin
theorem jf11:((Rows.xrefFindsRow.recurses==Tryz.prog.recurses 5))=true:=by kernel_rfl
end Go.Proofs.YthejpkflcgjdoaaGreatDoor.lxfin
