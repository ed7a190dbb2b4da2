import Derived.Test.YtmibnkddappgiaaGreatDoorK00
import Derived.Laws.CopyOwn
import Derived.Deep.RegionHeld3
import Derived.Deep.DeepCutAuto
set_option linter.unusedVariables false
set_option linter.unusedSimpArgs false
namespace Go.Proofs.YtmibnkddappgiaaGreatDoor.Zl
def cnt (ls:List Int) (n:Nat):Nat:=if n=0 then 0 else ls.countP (fun z=>z==(n:Int))
def v9t:List Int->Nat
 |[]=>0
 |z::r=>(if z=0 then 0 else 2 ^ (15-z.toNat))+v9t r
def okL (ls:List Int):Prop:=∀ z∈ls,0<=z/\z<=15
def May (ls:List Int):Prop:=1<=ls.length/\ls.length<=320/\okL ls/\v9t ls<=32768
instance (ls:List Int):Decidable (okL ls):=by unfold okL;infer_instance
instance (ls:List Int):Decidable (May ls):=by unfold May;infer_instance
def fst (m:Nat->Nat):Nat->Nat
 |0=>0
 |n+1=>(fst m n+m n)*2
def v8a (m:Nat->Nat):Nat->Nat
 |0=>0
 |n+1=>if 0<m n then n else v8a m n
def v4q (ls:List Int) (s:Nat):Nat:=(ls.getD s 0).toNat
def q01 (ls:List Int) (s:Nat):Nat:=cnt (ls.take s) (v4q ls s)
def cd (ls:List Int) (s:Nat):Nat:=if v4q ls s=0 then 0 else fst (cnt ls) (v4q ls s)+q01 ls s
def v5i (ls:List Int):Nat:=v8a (cnt ls) 16
def vl (B:List Bool):Nat:=B.foldl (fun x b=>2*x+b.toNat) 0
def Hit (ls:List Int) (B:List Bool) (n s:Nat):Prop:=n≠0/\n<=B.length/\ls[s]?=some (n:Int)/\cd ls s=vl (B.take n)
inductive Out (ls:List Int) (B:List Bool):Nat->Nat->Int->Prop
 |ok (n s:Nat) (h:Hit ls B n s) (h0:∀ m q,m<n->¬Hit ls B m q):Out ls B s n 0
 |cut (h:B.length<v5i ls) (h0:∀ m q,¬Hit ls B m q):Out ls B 0 B.length 10
 |code (h:v5i ls<=B.length) (h0:∀ m q,¬Hit ls B m q):Out ls B 0 (v5i ls) 13
open Go.RowKit
section
variable {P:Program} {ops:Array Oper} {rest:List Oper} {o:Oper} {a:Act} {w:World} {Q:Exit->Act->World->Prop}
end
section
variable {T:Array Value} {n d:Nat} {L:Nat->Int} {C f m a S:Nat->Nat}
end
section
variable {P:Program} {ops:Array Oper} {rest:List Oper} {o:Oper} {a:Act} {w:World} {Q:Exit->Act->World->Prop}
end
end Go.Proofs.YtmibnkddappgiaaGreatDoor.Zl
