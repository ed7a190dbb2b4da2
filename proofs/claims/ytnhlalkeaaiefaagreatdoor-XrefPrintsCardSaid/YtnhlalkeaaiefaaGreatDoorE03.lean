import Derived.Test.YtnhlalkeaaiefaaGreatDoorE02
set_option linter.unusedVariables false
set_option linter.unusedSimpArgs false
namespace Go.Proofs.YtnhlalkeaaiefaaGreatDoor
open Go.RowKit
def PaTo (w:World) (l:List Nat) (e:Ending) (w':World):Prop:=e=.returned (.tuple #[.agg #[.int .i64 (z0j l).2.1,.int .i64 (z0j l).2.2,.string ⟨#[]⟩,.slice none 0 0],.int .i64 (z0j l).1])/\Chg NoS w w'
section
variable {l:List Nat} {a k c:Nat} {st t:Ns} {pt:Int}
end
theorem PaTo.of {w w':World} {l:List Nat} {e x:Int} {k:Nat} (h:z0j l=(e,k,x)) (hc:Chg NoS w w'):PaTo w l (.returned (.tuple #[.agg #[.int .i64 (k:Nat),.int .i64 x,.string ⟨#[]⟩,.slice none 0 0],.int .i64 e])) w':=by
 unfold PaTo;rw [h];exact⟨rfl,hc⟩
end Go.Proofs.YtnhlalkeaaiefaaGreatDoor
