/- The law. -/
import Derived.Test.YtnhlalkeaaiefaaGreatDoorE44
import Derived.Test.YtnhlalkeaaiefaaGreatDoorE45
import Derived.Test.YtnhlalkeaaiefaaGreatDoorE46
import Derived.Test.YtnhlalkeaaiefaaGreatDoorE47
namespace Go.Proofs.YtnhlalkeaaiefaaGreatDoor.lxpri
open Go.RowKit Go.ChangeShapes Go.WideShapes Go.ChangeAt
set_option linter.unusedVariables false

theorem proved : Rows.XrefPrintsCardSaid :=
  Claim7.holds_tied_plain_at .later [] [.data, .data, .data, .data, .sentinel, .pinned] true Rows.xrefPrintsCard.stood.harness false over (fun _ h => by cases h) v9k (fun _ h => by cases h) xrefPrints_row_tie rfl ⟨rfl, rfl⟩ v6o rfl
    (fun f fn hf hfn => by
      obtain rfl : f = 3 := Option.some.inj (t_fn.symm.trans hf) |>.symm;obtain rfl : fn = Tryz.f3 := (Option.some.inj (Tryz.func3.symm.trans hfn)).symm
      exact ⟨v3z, fun j t ht => by
        have hall : (Tryz.f3.params.toList.all fun u => !Tryz.prog.wantsStandIn u) = true := by kernel_rfl
        have hm : t ∈ Tryz.f3.params.toList := by simpa using Array.mem_of_getElem? ht
        exact (show Tryz.prog.wantsStandIn t = false by simpa using List.all_eq_true.1 hall t hm)⟩)
    v6p
#print axioms proved

end Go.Proofs.YtnhlalkeaaiefaaGreatDoor.lxpri
