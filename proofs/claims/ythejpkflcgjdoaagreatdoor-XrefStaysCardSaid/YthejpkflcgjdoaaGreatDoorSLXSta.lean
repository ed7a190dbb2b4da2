/- The law. -/
import Derived.Test.YthejpkflcgjdoaaGreatDoorD46
import Derived.Test.YthejpkflcgjdoaaGreatDoorD47
import Derived.Test.YthejpkflcgjdoaaGreatDoorD48
import Derived.Test.YthejpkflcgjdoaaGreatDoorD49
import Derived.Test.YthejpkflcgjdoaaGreatDoorTie
import Derived.Test.YthejpkflcgjdoaaGreatDoorCards
import Derived.SevenTiedAt
namespace Go.Proofs.YthejpkflcgjdoaaGreatDoor.lxsta
open Go.RowKit Go.ChangeShapes Go.WideShapes Go.ChangeAt
set_option linter.unusedVariables false

theorem proved : Rows.XrefStaysCardSaid :=
  Claim7.holds_tied_plain_at .later [] [.data, .data, .data] true Rows.xrefStaysCard.stood.harness false over (fun _ h => by cases h) t_wf (fun _ h => by cases h) xrefStays_row_tie rfl ⟨rfl, rfl⟩ t_main rfl
    (fun f fn hf hfn => by
      obtain rfl : f = 6 := Option.some.inj (t_fn.symm.trans hf) |>.symm
      obtain rfl : fn = Tryz.f6 := (Option.some.inj (Tryz.func6.symm.trans hfn)).symm
      exact ⟨t_looks, fun j t ht => by
        have hall : (Tryz.f6.params.toList.all fun u => !Tryz.prog.wantsStandIn u) = true := by kernel_rfl
        have hm : t ∈ Tryz.f6.params.toList := by simpa using Array.mem_of_getElem? ht
        exact (show Tryz.prog.wantsStandIn t = false by simpa using List.all_eq_true.1 hall t hm)⟩)
    t_goes
#print axioms proved

end Go.Proofs.YthejpkflcgjdoaaGreatDoor.lxsta
