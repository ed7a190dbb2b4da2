import Derived.Test.YtmibnkddappgiaaGreatDoorK03
import Derived.Test.YtmibnkddappgiaaGreatDoorK04
import Derived.RangeFuncNested
import Derived.Shelf.RegionOpen
import Derived.OwnWalkIn
import Derived.LoopNIn
import Derived.LoopIn
set_option linter.unusedVariables false
set_option linter.unusedSimpArgs false
namespace Go.Proofs.YtmibnkddappgiaaGreatDoor.Zl
open Go.RowKit
def z8v (high:Bool) (bs:List Nat) (a:Nat):List Bool:=(v5w high bs).drop a
open Go.RowKit Go.Shelf
attribute [local go_sem] Oper.semAt_some
def v8z (s:Nat × Nat) (x:Nat):Nat × Nat:=(s.1+x,s.2+(s.1+x+1))
def acc (s:Nat × Nat) (bs:List Nat):Nat × Nat:=bs.foldl v8z s
def q03 (bs:List Nat):Nat:=(acc (0,0) bs).1%65521
def v9i (bs:List Nat):Nat:=(acc (0,0) bs).2%65521
def v9s (bs:List Nat):Nat:=65536*v9i bs+(q03 bs+1)%65521
section
variable {l n:Nat} {P:Program} {ops:Array Oper} {Q:Exit->Act->World->Prop} {md:Region.Mode}
end
attribute [local go_sem] Oper.semAt_some
end Go.Proofs.YtmibnkddappgiaaGreatDoor.Zl
