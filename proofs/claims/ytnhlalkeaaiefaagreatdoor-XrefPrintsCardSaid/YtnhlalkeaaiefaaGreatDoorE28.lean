import Derived.Test.YtnhlalkeaaiefaaGreatDoorE27
set_option linter.unusedVariables false
set_option linter.unusedSimpArgs false
namespace Go.Proofs.YtnhlalkeaaiefaaGreatDoor
open Go.RowKit
theorem v7v {O:Nat->Prop} {w:World} {P:World->Prop} (h:Ev O w P):Ev NoS w P:=fun V hV=>h V (hV.mono (fun _ _ e=>e.elim))
theorem z30 (w:World) (o:Obj) (T:TypeId) (cs:Array Value):Blk ((w.alloc o).alloc (.cells cs T)) (w.heap.size+1) T cs:=by
 have h:=Blk.new (w.alloc o) T cs;rwa [World.size_alloc] at h
end Go.Proofs.YtnhlalkeaaiefaaGreatDoor
