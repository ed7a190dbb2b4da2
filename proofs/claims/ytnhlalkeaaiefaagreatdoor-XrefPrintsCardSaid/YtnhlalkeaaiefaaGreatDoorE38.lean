import Derived.Test.YtnhlalkeaaiefaaGreatDoorRows
import Derived.JoinedCond
set_option linter.unusedVariables false
set_option linter.unusedSimpArgs false
namespace Go.Proofs.YtnhlalkeaaiefaaGreatDoor.lxpri
theorem jf0:(Rows.xrefPrintsRow.wf (OpenSpec.ofChange (OpenSpec.ofChange Rows.xrefPrintsSpec).bare))=true:=by kernel_rfl
theorem jf1:(laidOutB Tryz.prog)=true:=by kernel_rfl
theorem jf2:(mapsRowed Tryz.prog)=true:=by kernel_rfl
theorem jf3:(Tryz.f3.params.all (Tryz.prog.readableRec ·))=true:=by kernel_rfl
theorem jf4:(namedTie Tryz.prog Rows.xrefPrintsRow.named (OpenSpec.ofChange Rows.xrefPrintsSpec).bare.vars)=true:=by kernel_rfl
theorem jf5:((Rows.xrefPrintsRow.stops==[]))=true:=by kernel_rfl
theorem jf6:((Tryz.prog.stops==[]))=true:=by kernel_rfl
theorem jf7:((Rows.xrefPrintsRow.knobs==[]))=true:=by kernel_rfl
theorem jf8:((Tryz.prog.stopKnobs==[]))=true:=by kernel_rfl
theorem q03:((Rows.xrefPrintsRow.maps==(Tryz.f3.params.toList++(OpenSpec.ofChange Rows.xrefPrintsSpec).bare.plain.varTypes Tryz.prog).any (Tryz.prog.mapsRec ·)))=true:=by kernel_rfl
theorem q02:((Rows.xrefPrintsRow.ifaces==(Tryz.f3.params.toList++(OpenSpec.ofChange Rows.xrefPrintsSpec).bare.plain.varTypes Tryz.prog).any (Tryz.prog.ifacesRec ·)))=true:=by kernel_rfl
theorem q01:((Rows.xrefPrintsRow.mapsOut==Tryz.prog.mapsAmong Tryz.f3.resultTypes.toList))=true:=by kernel_rfl
theorem q00:((Rows.xrefPrintsRow.loops==(Tryz.f3.params.toList++(OpenSpec.ofChange Rows.xrefPrintsSpec).bare.plain.varTypes Tryz.prog).any (Tryz.prog.loopsFrom ·)))=true:=by kernel_rfl
theorem v9z:((Rows.xrefPrintsRow.wideKeys==(Tryz.f3.params.toList++(OpenSpec.ofChange Rows.xrefPrintsSpec).bare.plain.varTypes Tryz.prog++Tryz.f3.resultTypes.toList).any (Tryz.prog.wideKeysFrom ·)))=true:=by kernel_rfl
theorem v9y:((OpenSpec.ofChange Rows.xrefPrintsSpec).bare.vars.all (Tryz.prog.varReadable ·))=true:=by kernel_rfl
theorem v9x:(Tryz.f3.resultTypes.all (fun t=>Tryz.prog.readableRec t&&decide (t<Tryz.prog.types.size)))=true:=by kernel_rfl
theorem v9w:((Rows.xrefPrintsRow.ifacesOut==Tryz.f3.resultTypes.toList.any (Tryz.prog.ifacesRec ·)))=true:=by kernel_rfl
theorem v9v:((Rows.xrefPrintsRow.loopsOut==Tryz.f3.resultTypes.toList.any (Tryz.prog.loopsFrom ·)))=true:=by kernel_rfl
theorem v9u:((Rows.xrefPrintsRow.plainKeys==Tryz.prog.plainKeys))=true:=by kernel_rfl
theorem v9t:(Rows.xrefPrintsRow.shortTexts.isNone)=true:=by kernel_rfl
theorem v9s:(Tryz.prog.stopsHeard)=true:=by kernel_rfl
theorem v9r:(Tryz.prog.mayEnter)=true:=by kernel_rfl
theorem v9q:((Rows.xrefPrintsRow.lifted==Tryz.prog.liftsFinal))=true:=by kernel_rfl
theorem v9p:((Tryz.prog.make==some Rows.xrefPrintsRow.make))=true:=by kernel_rfl
theorem v9o:((Rows.xrefPrintsRow.kinds==(if Rows.xrefPrintsRow.domain.isEmpty then [] else Tryz.f3.params.toList.map fun t=>match Tryz.prog.underlying t with|some (.int k)=>some k|_=>none)))=true:=by kernel_rfl
theorem v9n:((Rows.xrefPrintsRow.pinned==Rows.xrefPrintsRow.pinnedBy))=true:=by kernel_rfl
theorem v9m:((Rows.xrefPrintsRow.veiled==(Tryz.f3.params.toList++(OpenSpec.ofChange Rows.xrefPrintsSpec).bare.plain.varTypes Tryz.prog++Tryz.f3.resultTypes.toList).any (Tryz.prog.veiledRec ·)))=true:=by kernel_rfl
theorem v9l:(Rows.xrefPrintsRow.veiledFits Tryz.prog Tryz.f3.params.toList (Tryz.f3.params.toList++(OpenSpec.ofChange Rows.xrefPrintsSpec).bare.plain.varTypes Tryz.prog++Tryz.f3.resultTypes.toList))=true:=by kernel_rfl
end Go.Proofs.YtnhlalkeaaiefaaGreatDoor.lxpri
