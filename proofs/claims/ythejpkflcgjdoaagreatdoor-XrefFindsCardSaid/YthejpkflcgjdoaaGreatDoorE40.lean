/- Merged by program. -/
import Derived.Test.YthejpkflcgjdoaaGreatDoorRows
import Derived.Test.YthejpkflcgjdoaaGreatDoorChecked
import Derived.JoinedCond
import Derived.JoinedOf
import Derived.ChangeOld
set_option linter.unusedVariables false
set_option linter.unusedSimpArgs false
namespace Go.Proofs.YthejpkflcgjdoaaGreatDoor.lxfin
theorem jf0:(Rows.xrefFindsRow.wf (OpenSpec.ofChange (OpenSpec.ofChange Rows.xrefFindsSpec).bare))=true:=by kernel_rfl
theorem jf1:(laidOutB Tryz.prog)=true:=by kernel_rfl
theorem jf2:(mapsRowed Tryz.prog)=true:=by kernel_rfl
theorem jf3:(Tryz.f5.params.all (Tryz.prog.readableRec ·))=true:=by kernel_rfl
theorem jf4:(namedTie Tryz.prog Rows.xrefFindsRow.named (OpenSpec.ofChange Rows.xrefFindsSpec).bare.vars)=true:=by kernel_rfl
theorem jf5:((Rows.xrefFindsRow.stops==[]))=true:=by kernel_rfl
theorem jf6:((Tryz.prog.stops==[]))=true:=by kernel_rfl
theorem jf7:((Rows.xrefFindsRow.knobs==[]))=true:=by kernel_rfl
theorem jf8:((Tryz.prog.stopKnobs==[]))=true:=by kernel_rfl
theorem jf13:((Rows.xrefFindsRow.maps==(Tryz.f5.params.toList++(OpenSpec.ofChange Rows.xrefFindsSpec).bare.plain.varTypes Tryz.prog).any (Tryz.prog.mapsRec ·)))=true:=by kernel_rfl
theorem jf14:((Rows.xrefFindsRow.ifaces==(Tryz.f5.params.toList++(OpenSpec.ofChange Rows.xrefFindsSpec).bare.plain.varTypes Tryz.prog).any (Tryz.prog.ifacesRec ·)))=true:=by kernel_rfl
theorem jf15:((Rows.xrefFindsRow.mapsOut==Tryz.prog.mapsAmong Tryz.f5.resultTypes.toList))=true:=by kernel_rfl
theorem jf16:((Rows.xrefFindsRow.loops==(Tryz.f5.params.toList++(OpenSpec.ofChange Rows.xrefFindsSpec).bare.plain.varTypes Tryz.prog).any (Tryz.prog.loopsFrom ·)))=true:=by kernel_rfl
theorem jf17:((Rows.xrefFindsRow.wideKeys==(Tryz.f5.params.toList++(OpenSpec.ofChange Rows.xrefFindsSpec).bare.plain.varTypes Tryz.prog++Tryz.f5.resultTypes.toList).any (Tryz.prog.wideKeysFrom ·)))=true:=by kernel_rfl
theorem jf18:((OpenSpec.ofChange Rows.xrefFindsSpec).bare.vars.all (Tryz.prog.varReadable ·))=true:=by kernel_rfl
theorem jf19:(Tryz.f5.resultTypes.all (fun t=>Tryz.prog.readableRec t&&decide (t<Tryz.prog.types.size)))=true:=by kernel_rfl
theorem jf20:((Rows.xrefFindsRow.ifacesOut==Tryz.f5.resultTypes.toList.any (Tryz.prog.ifacesRec ·)))=true:=by kernel_rfl
theorem jf21:((Rows.xrefFindsRow.loopsOut==Tryz.f5.resultTypes.toList.any (Tryz.prog.loopsFrom ·)))=true:=by kernel_rfl
theorem jf22:((Rows.xrefFindsRow.plainKeys==Tryz.prog.plainKeys))=true:=by kernel_rfl
theorem jf23:(Rows.xrefFindsRow.shortTexts.isNone)=true:=by kernel_rfl
theorem jf24:(Tryz.prog.stopsHeard)=true:=by kernel_rfl
theorem jf25:(Tryz.prog.mayEnter)=true:=by kernel_rfl
theorem jf26:((Rows.xrefFindsRow.lifted==Tryz.prog.liftsFinal))=true:=by kernel_rfl
theorem jf27:((Tryz.prog.make==some Rows.xrefFindsRow.make))=true:=by kernel_rfl
theorem jf28:((Rows.xrefFindsRow.kinds==(if Rows.xrefFindsRow.domain.isEmpty then [] else Tryz.f5.params.toList.map fun t=>match Tryz.prog.underlying t with|some (.int k)=>some k|_=>none)))=true:=by kernel_rfl
theorem jf29:((Rows.xrefFindsRow.pinned==Rows.xrefFindsRow.pinnedBy))=true:=by kernel_rfl
theorem jf30:((Rows.xrefFindsRow.veiled==(Tryz.f5.params.toList++(OpenSpec.ofChange Rows.xrefFindsSpec).bare.plain.varTypes Tryz.prog++Tryz.f5.resultTypes.toList).any (Tryz.prog.veiledRec ·)))=true:=by kernel_rfl
theorem jf31:(Rows.xrefFindsRow.veiledFits Tryz.prog Tryz.f5.params.toList (Tryz.f5.params.toList++(OpenSpec.ofChange Rows.xrefFindsSpec).bare.plain.varTypes Tryz.prog++Tryz.f5.resultTypes.toList))=true:=by kernel_rfl
end Go.Proofs.YthejpkflcgjdoaaGreatDoor.lxfin
