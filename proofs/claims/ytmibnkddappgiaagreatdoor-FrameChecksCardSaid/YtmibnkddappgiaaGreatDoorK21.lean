import Derived.Test.YtmibnkddappgiaaGreatDoorK06
set_option linter.unusedVariables false
set_option linter.unusedSimpArgs false
namespace Go.Proofs.YtmibnkddappgiaaGreatDoor.Zl
open Go.RowKit
end Go.Proofs.YtmibnkddappgiaaGreatDoor.Zl
