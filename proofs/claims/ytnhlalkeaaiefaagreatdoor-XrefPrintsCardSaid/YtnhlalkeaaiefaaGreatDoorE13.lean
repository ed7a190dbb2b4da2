import Derived.Test.YtnhlalkeaaiefaaGreatDoorE07
set_option linter.unusedVariables false
set_option linter.unusedSimpArgs false
namespace Go.Proofs.YtnhlalkeaaiefaaGreatDoor
open Go.RowKit
section
variable {last:Bool} {deep k:Nat} {out l:List Nat}
theorem y0z (h:(z3n last l).1≠0):z11 last deep out k (92::l)=((z3n last l).1,[],0):=by rw [z12,if_pos rfl,if_pos h]
theorem z7l (h:(z3n last l).1=0):z11 last deep out k (92::l)=z11 last deep (out++(z3n last l).2.1.toList) (k+1+(z3n last l).2.2) (l.drop (z3n last l).2.2):=by
 rw [z12,if_pos rfl,if_neg (fun e=>e h)]
theorem v3m (h:l=[]) (h2:last=false):z11 last deep out k (13::l)=(6,[],0):=by
 rw [z12,if_neg (show ¬13=92 by decide),if_pos rfl,if_pos ⟨h,h2⟩]
theorem v3n (h:l≠[]) (h2:l.head?=some 10):z11 last deep out k (13::l)=z11 last deep (out++[10]) (k+2) (l.drop 1):=by
 rw [z12,if_neg (show ¬13=92 by decide),if_pos rfl,if_neg (fun e=>h e.1),if_pos h2]
theorem y5w (h:¬(l=[]/\last=false)) (h2:¬l.head?=some 10):z11 last deep out k (13::l)=z11 last deep (out++[10]) (k+1) l:=by
 rw [z12,if_neg (show ¬13=92 by decide),if_pos rfl,if_neg h,if_neg h2]
theorem v6g:z11 last deep out k (40::l)=z11 last (deep+1) (out++[40]) (k+1) l:=by
 rw [z12,if_neg (show ¬40=92 by decide),if_neg (show ¬40=13 by decide),if_pos rfl]
theorem v3k (h:deep=1):z11 last deep out k (41::l)=(0,out,k+1):=by
 rw [z12,if_neg (show ¬41=92 by decide),if_neg (show ¬41=13 by decide),if_neg (show ¬41=40 by decide),if_pos rfl,if_pos h]
theorem v6f (h:deep≠1):z11 last deep out k (41::l)=z11 last (deep-1) (out++[41]) (k+1) l:=by
 rw [z12,if_neg (show ¬41=92 by decide),if_neg (show ¬41=13 by decide),if_neg (show ¬41=40 by decide),if_pos rfl,if_neg h]
theorem v8o {x:Nat} (h1:x≠92) (h2:x≠13) (h3:x≠40) (h4:x≠41):z11 last deep out k (x::l)=z11 last deep (out++[x]) (k+1) l:=by
 rw [z12,if_neg h1,if_neg h2,if_neg h3,if_neg h4]
end
end Go.Proofs.YtnhlalkeaaiefaaGreatDoor
