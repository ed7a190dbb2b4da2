import Derived.Test.YtmibnkddappgiaaGreatDoorK06
set_option linter.unusedVariables false
set_option linter.unusedSimpArgs false
namespace Go.Proofs.YtmibnkddappgiaaGreatDoor.Zl
open Go.RowKit
section
variable {w w':World} {K:Nat->Prop}
end
end Go.Proofs.YtmibnkddappgiaaGreatDoor.Zl
