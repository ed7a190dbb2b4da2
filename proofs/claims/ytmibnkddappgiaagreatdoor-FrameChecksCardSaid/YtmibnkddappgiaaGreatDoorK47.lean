import Derived.Test.YtmibnkddappgiaaGreatDoorCards
import Derived.SevenTiedAt
set_option linter.unusedVariables false
set_option linter.unusedSimpArgs false
namespace Go.Proofs.YtmibnkddappgiaaGreatDoor.lfchk
theorem q00:Rows.frameChecksRow.wfByText (OpenSpec.ofChange Rows.frameChecksSpec)=true:=by kernel_rfl
theorem v6l:Tryz.prog.mainIs=some (Rows.frameChecksCard.stood.harness.1,Rows.frameChecksCard.stood.harness.2.toList):=by kernel_rfl
theorem t_fn:Tryz.prog.funcNamed Rows.frameChecksRow.func=some 3:=by kernel_rfl
end Go.Proofs.YtmibnkddappgiaaGreatDoor.lfchk
