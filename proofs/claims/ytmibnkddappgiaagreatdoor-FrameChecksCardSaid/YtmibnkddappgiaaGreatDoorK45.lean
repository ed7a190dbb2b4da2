import Derived.Test.YtmibnkddappgiaaGreatDoorCards
import Derived.SevenTiedAt
set_option linter.unusedVariables false
set_option linter.unusedSimpArgs false
namespace Go.Proofs.YtmibnkddappgiaaGreatDoor.lfchk
theorem v3g:false=Tryz.prog.looks []:=by kernel_rfl
end Go.Proofs.YtmibnkddappgiaaGreatDoor.lfchk
