/- The law. -/
import Derived.Test.YthejpkflcgjdoaaGreatDoorE46
import Derived.Test.YthejpkflcgjdoaaGreatDoorE47
import Derived.Test.YthejpkflcgjdoaaGreatDoorE48
import Derived.Test.YthejpkflcgjdoaaGreatDoorE49
import Derived.Test.YthejpkflcgjdoaaGreatDoorTie
import Derived.Test.YthejpkflcgjdoaaGreatDoorCards
import Derived.SevenTiedAt
namespace Go.Proofs.YthejpkflcgjdoaaGreatDoor.lxfin
open Go.RowKit Go.ChangeShapes Go.WideShapes Go.ChangeAt
set_option linter.unusedVariables false

theorem proved : Rows.XrefFindsCardSaid :=
  Claim7.holds_tied_plain_at .later [] [.data, .data, .data] true Rows.xrefFindsCard.stood.harness false over (fun _ h => by cases h) t_wf (fun _ h => by cases h) xrefFinds_row_tie rfl ⟨rfl, rfl⟩ t_main rfl
    (fun f fn hf hfn => by
      obtain rfl : f = 5 := Option.some.inj (t_fn.symm.trans hf) |>.symm
      obtain rfl : fn = Tryz.f5 := (Option.some.inj (Tryz.func5.symm.trans hfn)).symm
      exact ⟨t_looks, fun j t ht => by
        have hall : (Tryz.f5.params.toList.all fun u => !Tryz.prog.wantsStandIn u) = true := by kernel_rfl
        have hm : t ∈ Tryz.f5.params.toList := by simpa using Array.mem_of_getElem? ht
        exact (show Tryz.prog.wantsStandIn t = false by simpa using List.all_eq_true.1 hall t hm)⟩)
    t_goes
#print axioms proved

end Go.Proofs.YthejpkflcgjdoaaGreatDoor.lxfin
