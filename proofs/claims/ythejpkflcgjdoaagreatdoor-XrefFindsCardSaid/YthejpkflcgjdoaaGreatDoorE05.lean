/- Merged by program. -/
import Derived.Test.YthejpkflcgjdoaaGreatDoorE04
import Derived.Deep.RegionLaw
import Derived.BigRegion
set_option linter.unusedVariables false
set_option linter.unusedSimpArgs false
namespace Go.Proofs.YthejpkflcgjdoaaGreatDoor
open Go.RowKit
end Go.Proofs.YthejpkflcgjdoaaGreatDoor
