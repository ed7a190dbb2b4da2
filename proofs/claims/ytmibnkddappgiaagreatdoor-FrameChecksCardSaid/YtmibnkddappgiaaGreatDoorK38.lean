import Derived.Test.YtmibnkddappgiaaGreatDoorRows
import Derived.JoinedCond
set_option linter.unusedVariables false
set_option linter.unusedSimpArgs false
namespace Go.Proofs.YtmibnkddappgiaaGreatDoor.lfchk
theorem jf0:(Rows.frameChecksRow.wf (OpenSpec.ofChange (OpenSpec.ofChange Rows.frameChecksSpec).bare))=true:=by kernel_rfl
theorem jf1:(laidOutB Tryz.prog)=true:=by kernel_rfl
theorem jf2:(mapsRowed Tryz.prog)=true:=by kernel_rfl
theorem jf3:(Tryz.f3.params.all (Tryz.prog.readableRec ·))=true:=by kernel_rfl
theorem jf4:(namedTie Tryz.prog Rows.frameChecksRow.named (OpenSpec.ofChange Rows.frameChecksSpec).bare.vars)=true:=by kernel_rfl
theorem jf5:((Rows.frameChecksRow.stops==[]))=true:=by kernel_rfl
theorem jf6:((Tryz.prog.stops==[]))=true:=by kernel_rfl
theorem jf7:((Rows.frameChecksRow.knobs==[]))=true:=by kernel_rfl
theorem jf8:((Tryz.prog.stopKnobs==[]))=true:=by kernel_rfl
theorem q0m:((Rows.frameChecksRow.maps==(Tryz.f3.params.toList++(OpenSpec.ofChange Rows.frameChecksSpec).bare.plain.varTypes Tryz.prog).any (Tryz.prog.mapsRec ·)))=true:=by kernel_rfl
theorem q0l:((Rows.frameChecksRow.ifaces==(Tryz.f3.params.toList++(OpenSpec.ofChange Rows.frameChecksSpec).bare.plain.varTypes Tryz.prog).any (Tryz.prog.ifacesRec ·)))=true:=by kernel_rfl
theorem q0k:((Rows.frameChecksRow.mapsOut==Tryz.prog.mapsAmong Tryz.f3.resultTypes.toList))=true:=by kernel_rfl
theorem q0j:((Rows.frameChecksRow.loops==(Tryz.f3.params.toList++(OpenSpec.ofChange Rows.frameChecksSpec).bare.plain.varTypes Tryz.prog).any (Tryz.prog.loopsFrom ·)))=true:=by kernel_rfl
theorem q0i:((Rows.frameChecksRow.wideKeys==(Tryz.f3.params.toList++(OpenSpec.ofChange Rows.frameChecksSpec).bare.plain.varTypes Tryz.prog++Tryz.f3.resultTypes.toList).any (Tryz.prog.wideKeysFrom ·)))=true:=by kernel_rfl
theorem q0h:((OpenSpec.ofChange Rows.frameChecksSpec).bare.vars.all (Tryz.prog.varReadable ·))=true:=by kernel_rfl
theorem q0g:(Tryz.f3.resultTypes.all (fun t=>Tryz.prog.readableRec t&&decide (t<Tryz.prog.types.size)))=true:=by kernel_rfl
theorem q0f:((Rows.frameChecksRow.ifacesOut==Tryz.f3.resultTypes.toList.any (Tryz.prog.ifacesRec ·)))=true:=by kernel_rfl
theorem q0e:((Rows.frameChecksRow.loopsOut==Tryz.f3.resultTypes.toList.any (Tryz.prog.loopsFrom ·)))=true:=by kernel_rfl
theorem q0d:((Rows.frameChecksRow.plainKeys==Tryz.prog.plainKeys))=true:=by kernel_rfl
theorem q0c:(Rows.frameChecksRow.shortTexts.isNone)=true:=by kernel_rfl
theorem q0b:(Tryz.prog.stopsHeard)=true:=by kernel_rfl
theorem q0a:(Tryz.prog.mayEnter)=true:=by kernel_rfl
theorem q09:((Rows.frameChecksRow.lifted==Tryz.prog.liftsFinal))=true:=by kernel_rfl
theorem q08:((Tryz.prog.make==some Rows.frameChecksRow.make))=true:=by kernel_rfl
theorem q07:((Rows.frameChecksRow.kinds==(if Rows.frameChecksRow.domain.isEmpty then [] else Tryz.f3.params.toList.map fun t=>match Tryz.prog.underlying t with|some (.int k)=>some k|_=>none)))=true:=by kernel_rfl
theorem q06:((Rows.frameChecksRow.pinned==Rows.frameChecksRow.pinnedBy))=true:=by kernel_rfl
theorem q05:((Rows.frameChecksRow.veiled==(Tryz.f3.params.toList++(OpenSpec.ofChange Rows.frameChecksSpec).bare.plain.varTypes Tryz.prog++Tryz.f3.resultTypes.toList).any (Tryz.prog.veiledRec ·)))=true:=by kernel_rfl
theorem q04:(Rows.frameChecksRow.veiledFits Tryz.prog Tryz.f3.params.toList (Tryz.f3.params.toList++(OpenSpec.ofChange Rows.frameChecksSpec).bare.plain.varTypes Tryz.prog++Tryz.f3.resultTypes.toList))=true:=by kernel_rfl
end Go.Proofs.YtmibnkddappgiaaGreatDoor.lfchk
