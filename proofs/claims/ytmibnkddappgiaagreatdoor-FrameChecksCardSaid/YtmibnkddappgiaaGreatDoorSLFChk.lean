/- The law. -/
import Derived.Test.YtmibnkddappgiaaGreatDoorK44
import Derived.Test.YtmibnkddappgiaaGreatDoorK45
import Derived.Test.YtmibnkddappgiaaGreatDoorK46
import Derived.Test.YtmibnkddappgiaaGreatDoorK47
import Derived.Test.YtmibnkddappgiaaGreatDoorTie
import Derived.Test.YtmibnkddappgiaaGreatDoorCards
import Derived.SevenTiedAt
namespace Go.Proofs.YtmibnkddappgiaaGreatDoor.lfchk
open Go.RowKit Go.ChangeShapes Go.WideShapes Go.ChangeAt
set_option linter.unusedVariables false

theorem proved : Rows.FrameChecksCardSaid :=
  Claim7.holds_tied_plain_at .later [] [.data, .data, .data, .data, .sentinel, .pinned] true Rows.frameChecksCard.stood.harness false over (fun _ h => by cases h) q00 (fun _ h => by cases h) frameChecks_row_tie rfl ⟨rfl, rfl⟩ v6l rfl
    (fun f fn hf hfn => by
      obtain rfl : f = 3 := Option.some.inj (t_fn.symm.trans hf) |>.symm
      obtain rfl : fn = Tryz.f3 := (Option.some.inj (Tryz.func3.symm.trans hfn)).symm
      exact ⟨v3g, fun j t ht => by
        have hall : (Tryz.f3.params.toList.all fun u => !Tryz.prog.wantsStandIn u) = true := by kernel_rfl
        have hm : t ∈ Tryz.f3.params.toList := by simpa using Array.mem_of_getElem? ht
        exact (show Tryz.prog.wantsStandIn t = false by simpa using List.all_eq_true.1 hall t hm)⟩)
    v6m
#print axioms proved

end Go.Proofs.YtmibnkddappgiaaGreatDoor.lfchk
