/- Merged by program. -/
import Derived.Test.YthejpkflcgjdoaaGreatDoorD02
import Derived.OwnWalk
set_option linter.unusedVariables false
set_option linter.unusedSimpArgs false
namespace Go.Proofs.YthejpkflcgjdoaaGreatDoor
open Go.RowKit
section
variable {last:Bool} {deep k:Nat} {out l:List Nat}
theorem txt_92e (h:(escO last l).1≠0):txtO last deep out k (92::l)=((escO last l).1,[],0):=by rw [txtO_cons,if_pos rfl,if_pos h]
theorem txt_92 (h:(escO last l).1=0):txtO last deep out k (92::l)=txtO last deep (out++(escO last l).2.1.toList) (k+1+(escO last l).2.2) (l.drop (escO last l).2.2):=by
 rw [txtO_cons,if_pos rfl,if_neg (fun e=>e h)]
theorem txt_13m (h:l=[]) (h2:last=false):txtO last deep out k (13::l)=(6,[],0):=by
 rw [txtO_cons,if_neg (show ¬13=92 by decide),if_pos rfl,if_pos ⟨h,h2⟩]
theorem txt_13b (h:l≠[]) (h2:l.head?=some 10):txtO last deep out k (13::l)=txtO last deep (out++[10]) (k+2) (l.drop 1):=by
 rw [txtO_cons,if_neg (show ¬13=92 by decide),if_pos rfl,if_neg (fun e=>h e.1),if_pos h2]
theorem txt_13n (h:¬(l=[]/\last=false)) (h2:¬l.head?=some 10):txtO last deep out k (13::l)=txtO last deep (out++[10]) (k+1) l:=by
 rw [txtO_cons,if_neg (show ¬13=92 by decide),if_pos rfl,if_neg h,if_neg h2]
theorem txt_40:txtO last deep out k (40::l)=txtO last (deep+1) (out++[40]) (k+1) l:=by
 rw [txtO_cons,if_neg (show ¬40=92 by decide),if_neg (show ¬40=13 by decide),if_pos rfl]
theorem txt_41e (h:deep=1):txtO last deep out k (41::l)=(0,out,k+1):=by
 rw [txtO_cons,if_neg (show ¬41=92 by decide),if_neg (show ¬41=13 by decide),if_neg (show ¬41=40 by decide),if_pos rfl,if_pos h]
theorem txt_41 (h:deep≠1):txtO last deep out k (41::l)=txtO last (deep-1) (out++[41]) (k+1) l:=by
 rw [txtO_cons,if_neg (show ¬41=92 by decide),if_neg (show ¬41=13 by decide),if_neg (show ¬41=40 by decide),if_pos rfl,if_neg h]
theorem txt_x {x:Nat} (h1:x≠92) (h2:x≠13) (h3:x≠40) (h4:x≠41):txtO last deep out k (x::l)=txtO last deep (out++[x]) (k+1) l:=by
 rw [txtO_cons,if_neg h1,if_neg h2,if_neg h3,if_neg h4]
end
end Go.Proofs.YthejpkflcgjdoaaGreatDoor
