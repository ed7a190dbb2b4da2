/- Merged by program. -/
import Derived.Test.YthejpkflcgjdoaaGreatDoorE40
import Derived.Test.YthejpkflcgjdoaaGreatDoorE41
import Derived.Test.YthejpkflcgjdoaaGreatDoorE42
import Derived.Test.YthejpkflcgjdoaaGreatDoorE43
import Derived.Test.YthejpkflcgjdoaaGreatDoorE44
set_option linter.unusedVariables false
set_option linter.unusedSimpArgs false
namespace Go.Proofs.YthejpkflcgjdoaaGreatDoor.lxfin
theorem jand {a b:Bool} (ha:a=true) (hb:b=true):(a&&b)=true:=by rw [ha,hb];rfl
set_option maxRecDepth 100000 in
theorem closed:joinedFacts Tryz.prog 5 Tryz.f5 (OpenSpec.ofChange Rows.xrefFindsSpec).bare Rows.xrefFindsRow=true:=by
 unfold joinedFacts
 exact(jand (jand (jand (jand (jand (jand (jand (jand (jand (jand (jand (jand (jand (jand (jand (jand (jand (jand (jand (jand (jand (jand (jand (jand (jand (jand (jand (jand (jand (jand (jand jf0 jf1) jf2) jf3) jf4) jf5) jf6) jf7) jf8) jf9) jf10) jf11) jf12) jf13) jf14) jf15) jf16) jf17) jf18) jf19) jf20) jf21) jf22) jf23) jf24) jf25) jf26) jf27) jf28) jf29) jf30) jf31)
end Go.Proofs.YthejpkflcgjdoaaGreatDoor.lxfin
