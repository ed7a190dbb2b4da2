import Derived.Test.YtnhlalkeaaiefaaGreatDoorCards
import Derived.SevenTiedAt
set_option linter.unusedVariables false
set_option linter.unusedSimpArgs false
namespace Go.Proofs.YtnhlalkeaaiefaaGreatDoor.lxpri
theorem v3z:false=Tryz.prog.looks []:=by kernel_rfl
end Go.Proofs.YtnhlalkeaaiefaaGreatDoor.lxpri
