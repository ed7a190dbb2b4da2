/- Merged by program. -/
import Derived.Test.YthejpkflcgjdoaaGreatDoorE10
set_option linter.unusedVariables false
set_option linter.unusedSimpArgs false
namespace Go.Proofs.YthejpkflcgjdoaaGreatDoor
open Go.RowKit
end Go.Proofs.YthejpkflcgjdoaaGreatDoor
