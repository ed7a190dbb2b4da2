import Derived.Test.YtnhlalkeaaiefaaGreatDoorRows
import Derived.JoinedCond
set_option linter.unusedVariables false
set_option linter.unusedSimpArgs false
namespace Go.Proofs.YtnhlalkeaaiefaaGreatDoor.lxpri
theorem jf9:((Rows.xrefPrintsRow.inPlace==Tryz.prog.inPlace 3))=true:=by kernel_rfl
end Go.Proofs.YtnhlalkeaaiefaaGreatDoor.lxpri
