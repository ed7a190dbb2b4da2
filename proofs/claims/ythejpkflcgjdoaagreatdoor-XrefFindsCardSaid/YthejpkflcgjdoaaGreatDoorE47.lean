/- Merged by program. -/
import Derived.Test.YthejpkflcgjdoaaGreatDoorRows
import Derived.Test.YthejpkflcgjdoaaGreatDoorCards
import Derived.Test.YthejpkflcgjdoaaGreatDoorChecked
import Derived.SevenTiedAt
set_option linter.unusedVariables false
set_option linter.unusedSimpArgs false
namespace Go.Proofs.YthejpkflcgjdoaaGreatDoor.lxfin
theorem t_looks:false=Tryz.prog.looks []:=by kernel_rfl
end Go.Proofs.YthejpkflcgjdoaaGreatDoor.lxfin
