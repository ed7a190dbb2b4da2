import Derived.Test.YtnhlalkeaaiefaaGreatDoorE38
import Derived.Test.YtnhlalkeaaiefaaGreatDoorE39
import Derived.Test.YtnhlalkeaaiefaaGreatDoorE40
import Derived.Test.YtnhlalkeaaiefaaGreatDoorE41
import Derived.Test.YtnhlalkeaaiefaaGreatDoorE42
set_option linter.unusedVariables false
set_option maxHeartbeats 64000000
set_option maxRecDepth 100000
set_option linter.unusedSimpArgs false
namespace Go.Proofs.YtnhlalkeaaiefaaGreatDoor.lxpri
theorem z40 {a b:Bool} (ha:a=true) (hb:b=true):(a&&b)=true:=by rw [ha,hb];rfl
theorem v8a:joinedFacts Tryz.prog 3 Tryz.f3 (OpenSpec.ofChange Rows.xrefPrintsSpec).bare Rows.xrefPrintsRow=true:=by
 unfold joinedFacts;exact(z40 (z40 (z40 (z40 (z40 (z40 (z40 (z40 (z40 (z40 (z40 (z40 (z40 (z40 (z40 (z40 (z40 (z40 (z40 (z40 (z40 (z40 (z40 (z40 (z40 (z40 (z40 (z40 (z40 (z40 (z40 jf0 jf1) jf2) jf3) jf4) jf5) jf6) jf7) jf8) jf9) q06) q05) q04) q03) q02) q01) q00) v9z) v9y) v9x) v9w) v9v) v9u) v9t) v9s) v9r) v9q) v9p) v9o) v9n) v9m) v9l)
end Go.Proofs.YtnhlalkeaaiefaaGreatDoor.lxpri
