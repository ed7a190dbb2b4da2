/- Merged by program. -/
import Derived.Test.YthejpkflcgjdoaaGreatDoorE06
import Derived.Test.YthejpkflcgjdoaaGreatDoorE13
set_option linter.unusedVariables false
set_option linter.unusedSimpArgs false
namespace Go.Proofs.YthejpkflcgjdoaaGreatDoor
open Go.RowKit
end Go.Proofs.YthejpkflcgjdoaaGreatDoor
