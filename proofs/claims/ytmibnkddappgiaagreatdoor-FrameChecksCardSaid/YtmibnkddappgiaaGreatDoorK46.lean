import Derived.Test.YtmibnkddappgiaaGreatDoorCards
import Derived.SevenTiedAt
set_option linter.unusedVariables false
set_option linter.unusedSimpArgs false
namespace Go.Proofs.YtmibnkddappgiaaGreatDoor.lfchk
theorem y6m {P:Program} (h:P.funcs.any Func.goes=false) (f:FuncId):P.goes f=false:=by
 have hall:∀ g:FuncId,(P.funcs[g]?).any Func.goes=false:=by
  intro g;cases hg:P.funcs[g]? with
  |none=>rfl
  |some fn =>
   have hm:fn∈P.funcs:=Array.mem_of_getElem? hg;cases hv:Func.goes fn with
   |false=>exact hv
   |true =>
    have h2:P.funcs.any Func.goes=true:=Array.any_eq_true'.2 ⟨fn,hm,hv⟩;rw [h] at h2;cases h2
 unfold Program.goes;rw [h,Bool.and_false,Bool.or_false,show(fun g:FuncId=>(P.funcs[g]?).any Func.goes)=fun _=>false from funext hall];simp
theorem v4e {P:Program} (h:P.funcs.any Func.goes=false) {c:OpenClaim} (hs:c.start=.entering):false=c.goesBy P:=by
 unfold OpenClaim.goesBy Program.goesAt Program.goesFrom;rw [hs];cases hf:P.funcNamed c.func with
 |none=>rfl
 |some f =>
  show false=(P.goes f || false);rw [y6m h f];rfl
theorem v4f:Tryz.prog.funcs.any Func.goes=false:=by kernel_rfl
theorem v6m:false=Rows.frameChecksRow.goesBy Tryz.prog:=v4e v4f rfl
end Go.Proofs.YtmibnkddappgiaaGreatDoor.lfchk
