import Derived.Test.YtmibnkddappgiaaGreatDoorK38
import Derived.Test.YtmibnkddappgiaaGreatDoorK39
import Derived.Test.YtmibnkddappgiaaGreatDoorK40
import Derived.Test.YtmibnkddappgiaaGreatDoorK41
import Derived.Test.YtmibnkddappgiaaGreatDoorK42
set_option linter.unusedVariables false
set_option maxHeartbeats 64000000
set_option maxRecDepth 100000
set_option linter.unusedSimpArgs false
namespace Go.Proofs.YtmibnkddappgiaaGreatDoor.lfchk
theorem z44 {a b:Bool} (ha:a=true) (hb:b=true):(a&&b)=true:=by rw [ha,hb];rfl
theorem v8e:joinedFacts Tryz.prog 3 Tryz.f3 (OpenSpec.ofChange Rows.frameChecksSpec).bare Rows.frameChecksRow=true:=by
 unfold joinedFacts;exact(z44 (z44 (z44 (z44 (z44 (z44 (z44 (z44 (z44 (z44 (z44 (z44 (z44 (z44 (z44 (z44 (z44 (z44 (z44 (z44 (z44 (z44 (z44 (z44 (z44 (z44 (z44 (z44 (z44 (z44 (z44 jf0 jf1) jf2) jf3) jf4) jf5) jf6) jf7) jf8) jf9) q0p) q0o) q0n) q0m) q0l) q0k) q0j) q0i) q0h) q0g) q0f) q0e) q0d) q0c) q0b) q0a) q09) q08) q07) q06) q05) q04)
end Go.Proofs.YtmibnkddappgiaaGreatDoor.lfchk
