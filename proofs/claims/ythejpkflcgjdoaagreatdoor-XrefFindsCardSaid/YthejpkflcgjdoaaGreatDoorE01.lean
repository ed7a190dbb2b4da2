/- Merged by program. -/
import Derived.Test.YthejpkflcgjdoaaGreatDoorE00
import Derived.Deep.AppendLies
import Derived.Lib.UnsafeStr
import Derived.Lib.Builder
import Derived.Shelf.RegionOpenPlain
import Derived.Lib.AppendStr
import Derived.Lib.Walk
import Derived.Laws.Externs
set_option linter.unusedVariables false
set_option linter.unusedSimpArgs false
namespace Go.Proofs.YthejpkflcgjdoaaGreatDoor
def isSp (c:Nat):Bool:=c==0 || c==9 || c==10 || c==12 || c==13 || c==32
def isDl (c:Nat):Bool:=c==40 || c==41 || c==60 || c==62 || c==91 || c==93 || c==123 || c==125 || c==47 || c==37
def isRg (c:Nat):Bool:=!isSp c&&!isDl c
def skp:Bool->List Nat->Nat
 |_,[]=>0
 |true,c::l=>skp (!(c==10 || c==13)) l+1
 |false,c::l=>if isSp c then skp false l+1 else if c=37 then skp true l+1 else 0
theorem skp_le:∀ (l:List Nat) (f:Bool),skp f l<=l.length:=by
 intro l
 induction l with
 |nil=>intro f;cases f<;>exact Nat.le_refl _
 |cons c l ih =>
  intro f
  cases f
  ·simp only [skp,List.length_cons]
   split
   ·have:=ih false;omega
   ·split
    ·have:=ih true;omega
    ·omega
  ·simp only [skp,List.length_cons]
   have:=ih (!(c==10 || c==13))
   omega
theorem skp_more:∀ (l m:List Nat) (f:Bool),skp f l<l.length->skp f (l++m)=skp f l:=by
 intro l m
 induction l with
 |nil=>intro f h;simp at h
 |cons c l ih =>
  intro f h
  rw [List.cons_append]
  cases f
  ·simp only [skp,List.length_cons] at h ⊢
   split
   ·rw [ih false (by simp_all)]
   ·split
    ·rw [ih true (by simp_all)]
    ·rfl
  ·simp only [skp,List.length_cons] at h ⊢
   rw [ih _ (by omega)]
theorem skp_stop:∀ (l:List Nat) (f:Bool),skp f l<l.length->∃ c m,l.drop (skp f l)=c::m/\isSp c=false/\c≠37:=by
 intro l
 induction l with
 |nil=>intro f h;simp at h
 |cons c l ih =>
  intro f h
  cases f
  ·simp only [skp,List.length_cons] at h ⊢
   split
   ·next hs=>rw [if_pos hs] at h;rw [List.drop_succ_cons];exact ih false (by omega)
   ·next hs =>
    rw [if_neg hs] at h
    split
    ·next h37=>rw [if_pos h37] at h;rw [List.drop_succ_cons];exact ih true (by omega)
    ·next h37=>exact⟨c,l,rfl,by simpa using hs,h37⟩
  ·simp only [skp,List.length_cons] at h ⊢
   rw [List.drop_succ_cons]
   exact ih _ (by omega)
def rgs:List Nat->Nat
 |[]=>0
 |c::l=>if isRg c then rgs l+1 else 0
theorem rgs_le:∀ l:List Nat,rgs l<=l.length:=by
 intro l
 induction l with
 |nil=>exact Nat.le_refl _
 |cons c l ih =>
  simp only [rgs,List.length_cons]
  split<;>omega
def hexD (c:Nat):Option Nat:=if 48<=c/\c<=57 then some (c-48) else if 97<=c/\c<=102 then some (c-87) else if 65<=c/\c<=70 then some (c-55) else none
theorem hexD_lt {c d:Nat} (h:hexD c=some d):d<16:=by
 unfold hexD at h
 split at h
 ·cases h;omega
 ·split at h
  ·cases h;omega
  ·split at h
   ·cases h;omega
   ·cases h
def cutE (last:Bool):Int:=if last then 10 else 6
def octs:Nat->Nat->List Nat->Nat × Nat
 |0,n,_=>(n,0)
 |_+1,n,[]=>(n,0)
 |k+1,n,c::l=>if 48<=c/\c<=55 then((octs k (8*n+(c-48)) l).1,(octs k (8*n+(c-48)) l).2+1) else(n,0)
theorem octs_le:∀ (k n:Nat) (l:List Nat),(octs k n l).2<=k/\(octs k n l).2<=l.length:=by
 intro k
 induction k with
 |zero=>intro n l;exact⟨Nat.le_refl _,Nat.zero_le _⟩
 |succ k ih =>
  intro n l
  cases l with
  |nil=>exact⟨Nat.zero_le _,Nat.le_refl _⟩
  |cons c l =>
   rw [octs]
   split
   ·have:=ih (8*n+(c-48)) l
    simp only [List.length_cons]
    omega
   ·exact⟨Nat.zero_le _,Nat.zero_le _⟩
def escO (last:Bool):List Nat->Int × Option Nat × Nat
 |[]=>(cutE last,none,0)
 |c::l =>
  if c=110 then(0,some 10,1)
  else if c=114 then(0,some 13,1)
  else if c=116 then(0,some 9,1)
  else if c=98 then(0,some 8,1)
  else if c=102 then(0,some 12,1)
  else if c=10 then(0,none,1)
  else if c=13 then
   if l=[]/\last=false then(6,none,0) else if l.head?=some 10 then(0,none,2) else(0,none,1)
  else if c<48\/55<c then(0,some c,1)
  else if (octs 3 0 (c::l)).2<3/\(c::l).length<=(octs 3 0 (c::l)).2/\last=false then(6,none,0)
  else(0,some ((octs 3 0 (c::l)).1%256),(octs 3 0 (c::l)).2)
theorem escO_cons (last:Bool) (c:Nat) (l:List Nat):escO last (c::l) =
  if c=110 then(0,some 10,1)
  else if c=114 then(0,some 13,1)
  else if c=116 then(0,some 9,1)
  else if c=98 then(0,some 8,1)
  else if c=102 then(0,some 12,1)
  else if c=10 then(0,none,1)
  else if c=13 then
   if l=[]/\last=false then(6,none,0) else if l.head?=some 10 then(0,none,2) else(0,none,1)
  else if c<48\/55<c then(0,some c,1)
  else if (octs 3 0 (c::l)).2<3/\(c::l).length<=(octs 3 0 (c::l)).2/\last=false then(6,none,0)
  else(0,some ((octs 3 0 (c::l)).1%256),(octs 3 0 (c::l)).2):=rfl
theorem escO_le (last:Bool) (l:List Nat):(escO last l).2.2<=l.length:=by
 cases l with
 |nil=>exact Nat.le_refl _
 |cons c l =>
  unfold escO
  have ho:=octs_le 3 0 (c::l)
  simp only [List.length_cons] at ho ⊢
  repeat' split
  all_goals first
   |(simp only [];omega)
   |(next h=>cases l with
     |nil=>simp at h
     |cons d l=>simp only [List.length_cons];omega)
def txtO (last:Bool) (deep:Nat) (out:List Nat) (p:Nat) (l:List Nat):Int × List Nat × Nat :=
 match l with
 |[]=>(cutE last,[],0)
 |c::l =>
  if c=92 then
   if (escO last l).1≠0 then((escO last l).1,[],0)
   else txtO last deep (out++(escO last l).2.1.toList) (p+1+(escO last l).2.2) (l.drop (escO last l).2.2)
  else if c=13 then
   if l=[]/\last=false then(6,[],0)
   else if l.head?=some 10 then txtO last deep (out++[10]) (p+2) (l.drop 1)
   else txtO last deep (out++[10]) (p+1) l
  else if c=40 then txtO last (deep+1) (out++[40]) (p+1) l
  else if c=41 then
   if deep=1 then(0,out,p+1) else txtO last (deep-1) (out++[41]) (p+1) l
  else txtO last deep (out++[c]) (p+1) l
termination_by l.length
decreasing_by all_goals simp only [List.length_cons,List.length_drop];omega
theorem txtO_nil (last:Bool) (deep:Nat) (out:List Nat) (p:Nat):txtO last deep out p []=(cutE last,[],0):=by rw [txtO]
theorem txtO_cons (last:Bool) (deep:Nat) (out:List Nat) (p c:Nat) (l:List Nat):txtO last deep out p (c::l) =
  if c=92 then
   if (escO last l).1≠0 then((escO last l).1,[],0)
   else txtO last deep (out++(escO last l).2.1.toList) (p+1+(escO last l).2.2) (l.drop (escO last l).2.2)
  else if c=13 then
   if l=[]/\last=false then(6,[],0)
   else if l.head?=some 10 then txtO last deep (out++[10]) (p+2) (l.drop 1)
   else txtO last deep (out++[10]) (p+1) l
  else if c=40 then txtO last (deep+1) (out++[40]) (p+1) l
  else if c=41 then
   if deep=1 then(0,out,p+1) else txtO last (deep-1) (out++[41]) (p+1) l
  else txtO last deep (out++[c]) (p+1) l:=by rw [txtO]
theorem txtO_to (last:Bool):∀ (n:Nat) (l:List Nat) (deep:Nat) (out:List Nat) (p:Nat),l.length<=n->(txtO last deep out p l).1=0->p<(txtO last deep out p l).2.2/\(txtO last deep out p l).2.2<=p+l.length:=by
 intro n
 induction n with
 |zero =>
  intro l deep out p hn h
  obtain rfl:l=[]:=List.length_eq_zero_iff.1 (by omega)
  rw [txtO_nil] at h
  cases last<;>cases h
 |succ n ih =>
  intro l deep out p hn h
  cases l with
  |nil=>rw [txtO_nil] at h;cases last<;>cases h
  |cons c l =>
   have hl:l.length<=n:=by simp only [List.length_cons] at hn;omega
   simp only [List.length_cons]
   rw [txtO_cons] at h ⊢
   by_cases h1:c=92
   ·rw [if_pos h1] at h ⊢
    by_cases h3:(escO last l).1≠0
    ·rw [if_pos h3] at h;exact absurd h h3
    ·rw [if_neg h3] at h ⊢
     have hle:=escO_le last l
     have:=ih (l.drop (escO last l).2.2) _ _ _ (by rw [List.length_drop];omega) h
     rw [List.length_drop] at this
     omega
   rw [if_neg h1] at h ⊢
   by_cases h4:c=13
   ·rw [if_pos h4] at h ⊢
    split at h
    ·cases h
    ·next hx =>
     rw [if_neg hx]
     split at h
     ·next h5 =>
      rw [if_pos h5]
      have:=ih (l.drop 1) _ _ _ (by rw [List.length_drop];omega) h
      rw [List.length_drop] at this
      cases l with
      |nil=>simp at h5
      |cons d l=>simp only [List.length_cons] at this ⊢;omega
     ·next h5 =>
      rw [if_neg h5]
      have:=ih l _ _ _ hl h
      omega
   rw [if_neg h4] at h ⊢
   by_cases h6:c=40
   ·rw [if_pos h6] at h ⊢
    have:=ih l _ _ _ hl h
    omega
   rw [if_neg h6] at h ⊢
   by_cases h7:c=41
   ·rw [if_pos h7] at h ⊢
    by_cases h8:deep=1
    ·rw [if_pos h8];simp only [];omega
    ·rw [if_neg h8] at h ⊢
     have:=ih l _ _ _ hl h
     omega
   rw [if_neg h7] at h ⊢
   have:=ih l _ _ _ hl h
   omega
def pairs:List Nat->List Nat
 |[]=>[]
 |[a]=>[16*a]
 |a::b::l=>(16*a+b)::pairs l
def hexO (last:Bool) (ds:List Nat) (p:Nat):List Nat->Int × List Nat × Nat
 |[]=>(cutE last,[],0)
 |c::l =>
  if c=62 then(0,pairs ds,p+1)
  else if isSp c then hexO last ds (p+1) l
  else match hexD c with
   |none=>(11,[],0)
   |some d=>hexO last (ds++[d]) (p+1) l
theorem hexO_to (last:Bool):∀ (l ds:List Nat) (p:Nat),(hexO last ds p l).1=0->p<(hexO last ds p l).2.2/\(hexO last ds p l).2.2<=p+l.length:=by
 intro l
 induction l with
 |nil=>intro ds p h;cases last<;>cases h
 |cons c l ih =>
  intro ds p h
  simp only [List.length_cons]
  simp only [hexO] at h ⊢
  by_cases h1:c=62
  ·rw [if_pos h1];simp only [];omega
  rw [if_neg h1] at h ⊢
  by_cases h2:isSp c=true
  ·rw [if_pos h2] at h ⊢;have:=ih _ _ h;omega
  rw [if_neg h2] at h ⊢
  cases h3:hexD c with
  |none=>rw [h3] at h;cases h
  |some d=>rw [h3] at h;simp only [] at h ⊢;have:=ih _ _ h;omega
def nameF:List Nat->Option (List Nat)
 |[]=>some []
 |c::l =>
  if c≠35 then(nameF l).map (c::·)
  else match l with
   |x::y::m=>match hexD x,hexD y with
    |some a,some b=>(nameF m).map ((16*a+b)::·)
    |_,_=>none
   |_=>none
def nameO (w:List Nat):Int × List Nat :=
 match nameF w with
 |none=>(17,[])
 |some o=>if 0∈o\/127<o.length then(17,[]) else(0,o)
structure Tkn where
 kind:Nat
 from_:Nat
 to:Nat
 vk:Nat
 vn:Int
 vs:List Nat
 s:List Nat
def noT (p:Nat):Tkn:=⟨0,p,p,0,0,[],[]⟩
def isNm (c:Nat):Bool:=(decide (48<=c)&&decide (c<=57)) || c==43 || c==45 || c==46
def tokO (last:Bool) (p c:Nat) (l:List Nat):Int × Tkn :=
 if c=91 then(0,⟨2,p,p+1,0,0,[],[]⟩)
 else if c=93 then(0,⟨3,p,p+1,0,0,[],[]⟩)
 else if c=60/\l.head?=some 60 then(0,⟨4,p,p+2,0,0,[],[]⟩)
 else if c=62/\l.head?=some 62 then(0,⟨5,p,p+2,0,0,[],[]⟩)
 else if c=62/\l=[]/\last=false then(6,noT p)
 else if c=60 then
  if (hexO last [] (p+1) l).1≠0 then((hexO last [] (p+1) l).1,noT p) else(0,⟨1,p,(hexO last [] (p+1) l).2.2,4,0,(hexO last [] (p+1) l).2.1,[]⟩)
 else if c=40 then
  if (txtO last 1 [] (p+1) l).1≠0 then((txtO last 1 [] (p+1) l).1,noT p) else(0,⟨1,p,(txtO last 1 [] (p+1) l).2.2,4,0,(txtO last 1 [] (p+1) l).2.1,[]⟩)
 else if c=47 then
  if rgs l=l.length/\last=false then(6,noT p)
  else if (nameO (l.take (rgs l))).1≠0 then((nameO (l.take (rgs l))).1,noT p) else(0,⟨1,p,p+1+rgs l,5,0,(nameO (l.take (rgs l))).2,[]⟩)
 else if isDl c then(11,noT p)
 else if rgs l=l.length/\last=false then(6,noT p)
 else if isNm c then
  if (numOf ((c::l).take (rgs l+1))).1≠0 then((numOf ((c::l).take (rgs l+1))).1,noT p) else(0,⟨1,p,p+1+rgs l,(numOf ((c::l).take (rgs l+1))).2.1,(numOf ((c::l).take (rgs l+1))).2.2,[],[]⟩)
 else(0,⟨6,p,p+1+rgs l,0,0,[],(c::l).take (rgs l+1)⟩)
def nextO (b:List Nat) (pos:Nat) (last:Bool):Int × Tkn :=
 match b.drop (pos+skp false (b.drop pos)) with
 |[]=>(if last then 0 else 6,noT (pos+skp false (b.drop pos)))
 |c::l=>tokO last (pos+skp false (b.drop pos)) c l
theorem tokO_60 (last:Bool) (p:Nat) (l:List Nat) (h:l.head?≠some 60):tokO last p 60 l =
  if (hexO last [] (p+1) l).1≠0 then((hexO last [] (p+1) l).1,noT p) else(0,⟨1,p,(hexO last [] (p+1) l).2.2,4,0,(hexO last [] (p+1) l).2.1,[]⟩):=by
 unfold tokO
 rw [if_neg (show ¬60=91 by decide),if_neg (show ¬60=93 by decide),if_neg (show ¬(60=60/\l.head?=some 60) from fun e=>h e.2),if_neg (show ¬(60=62/\l.head?=some 62) from fun e=>absurd e.1 (by decide)),if_neg (show ¬(60=62/\l=[]/\last=false) from fun e=>absurd e.1 (by decide)),if_pos (show 60=60 from rfl)]
theorem tokO_to (last:Bool) (p c:Nat) (l:List Nat):((tokO last p c l).1≠0/\(tokO last p c l).2=noT p)\/((tokO last p c l).1=0/\(tokO last p c l).2.kind≠0/\(tokO last p c l).2.from_=p/\p<(tokO last p c l).2.to/\(tokO last p c l).2.to<=p+1+l.length):=by
 have hrl:=rgs_le l
 unfold tokO
 by_cases h1:c=91
 ·rw [if_pos h1];exact .inr ⟨rfl,by simp,rfl,by simp only [];omega,by simp only [];omega⟩
 rw [if_neg h1]
 by_cases h2:c=93
 ·rw [if_pos h2];exact .inr ⟨rfl,by simp,rfl,by simp only [];omega,by simp only [];omega⟩
 rw [if_neg h2]
 by_cases h3:c=60/\l.head?=some 60
 ·rw [if_pos h3]
  cases l with
  |nil=>simp at h3
  |cons d l=>exact .inr ⟨rfl,by simp,rfl,by simp only [];omega,by simp only [List.length_cons];omega⟩
 rw [if_neg h3]
 by_cases h4:c=62/\l.head?=some 62
 ·rw [if_pos h4]
  cases l with
  |nil=>simp at h4
  |cons d l=>exact .inr ⟨rfl,by simp,rfl,by simp only [];omega,by simp only [List.length_cons];omega⟩
 rw [if_neg h4]
 by_cases h5:c=62/\l=[]/\last=false
 ·rw [if_pos h5];exact .inl ⟨by simp,rfl⟩
 rw [if_neg h5]
 by_cases h6:c=60
 ·rw [if_pos h6]
  by_cases h9:(hexO last [] (p+1) l).1≠0
  ·rw [if_pos h9];exact .inl ⟨h9,rfl⟩
  ·rw [if_neg h9]
   have:=hexO_to last l [] (p+1) (Decidable.not_not.1 h9)
   exact .inr ⟨rfl,by simp,rfl,by simp only [];omega,by simp only [];omega⟩
 rw [if_neg h6]
 by_cases h7:c=40
 ·rw [if_pos h7]
  by_cases h9:(txtO last 1 [] (p+1) l).1≠0
  ·rw [if_pos h9];exact .inl ⟨h9,rfl⟩
  ·rw [if_neg h9]
   have:=txtO_to last _ l 1 [] (p+1) (Nat.le_refl _) (Decidable.not_not.1 h9)
   exact .inr ⟨rfl,by simp,rfl,by simp only [];omega,by simp only [];omega⟩
 rw [if_neg h7]
 by_cases h8:c=47
 ·rw [if_pos h8]
  split
  ·exact .inl ⟨by simp,rfl⟩
  ·split
   ·next h9=>exact .inl ⟨h9,rfl⟩
   ·exact .inr ⟨rfl,by simp,rfl,by simp only [];omega,by simp only [];omega⟩
 rw [if_neg h8]
 split
 ·exact .inl ⟨by simp,rfl⟩
 ·split
  ·exact .inl ⟨by simp,rfl⟩
  ·split
   ·split
    ·next h9=>exact .inl ⟨h9,rfl⟩
    ·exact .inr ⟨rfl,by simp,rfl,by simp only [];omega,by simp only [];omega⟩
   ·exact .inr ⟨rfl,by simp,rfl,by simp only [];omega,by simp only [];omega⟩
theorem nextO_place (b:List Nat) (pos:Nat) (last:Bool) (hp:pos<=b.length) :
  (∃ p,pos<=p/\p<=b.length/\(nextO b pos last).2=noT p/\((nextO b pos last).1=0->last=true/\p=b.length)) \/
  ((nextO b pos last).1=0/\(nextO b pos last).2.kind≠0/\pos<=(nextO b pos last).2.from_/\(nextO b pos last).2.from_<(nextO b pos last).2.to/\(nextO b pos last).2.to<=b.length/\nextO b (nextO b pos last).2.from_ last=nextO b pos last):=by
 have hs:=skp_le (b.drop pos) false
 rw [List.length_drop] at hs
 cases hc:b.drop (pos+skp false (b.drop pos)) with
 |nil =>
  have hl:=congrArg List.length hc
  rw [List.length_drop,List.length_nil] at hl
  have e:nextO b pos last=(if last then 0 else 6,noT (pos+skp false (b.drop pos))):=by unfold nextO;rw [hc]
  rw [e]
  refine .inl ⟨pos+skp false (b.drop pos),by omega,by omega,rfl,fun h=>?_⟩
  cases last
  ·cases h
  ·exact⟨rfl,by omega⟩
 |cons c l =>
  have hl:=congrArg List.length hc
  rw [List.length_drop,List.length_cons] at hl
  have e:nextO b pos last=tokO last (pos+skp false (b.drop pos)) c l:=by unfold nextO;rw [hc]
  rw [e]
  rcases tokO_to last (pos+skp false (b.drop pos)) c l with⟨h1,h2⟩|⟨h1,h2,h3,h4,h5⟩
  ·exact .inl ⟨pos+skp false (b.drop pos),by omega,by omega,h2,fun h=>absurd h h1⟩
  ·refine .inr ⟨h1,h2,by rw [h3];omega,by rw [h3];exact h4,by omega,?_⟩
   rw [h3]
   obtain⟨c',m,hd,hsp,h37⟩:=skp_stop (b.drop pos) false (by rw [List.length_drop];omega)
   rw [List.drop_drop,hc] at hd
   cases hd
   have h0:skp false (b.drop (pos+skp false (b.drop pos)))=0:=by
    rw [hc]
    simp only [skp]
    rw [if_neg (by rw [hsp];decide),if_neg h37]
   unfold nextO
   rw [h0,Nat.add_zero,hc]
open Go.RowKit
def lcells (bs:List Nat):List Value:=bs.map fun b=>.int .u8 (b:Nat)
theorem lcells_at {bs:List Nat} {k x:Nat} (h:bs[k]?=some x):(lcells bs)[k]?=some (.int .u8 (x:Nat)):=by simp [lcells,h]
theorem lcells_app (a b:List Nat):lcells (a++b)=lcells a++lcells b:=by simp [lcells]
theorem lcells_len (a:List Nat):(lcells a).length=a.length:=by simp [lcells]
theorem drop_at {bs:List Nat} {k:Nat} (h:k<bs.length):∃ x,bs[k]?=some x/\bs.drop k=x::bs.drop (k+1) :=
 ⟨bs[k],List.getElem?_eq_getElem h,List.drop_eq_getElem_cons h⟩
theorem lcell {w w':World} {A:Option Addr} {n c:Nat} {bs:List Nat} (h:Src w 1 A n c (lcells bs)) (hc:Chg NoS w w') (hk:0<bs.length) :
  ∃ b off,A=some ⟨b,off,none⟩/\∀ j x,bs[j]?=some x->w'.cell? ⟨b,off+j,none⟩=some (.int .u8 (x:Nat)):=by
 obtain⟨b,off,rfl,hcell⟩:=h.plain (by rw [lcells_len];omega)
 refine⟨b,off,rfl,fun j x hj=>?_⟩
 have e0:=hcell j (.int .u8 (x:Nat)) (lcells_at hj)
 exact(hc.cell (p:=⟨b,_,none⟩) (by exact cell_lt e0) (fun h=>h)).trans e0
theorem ret_l64 {a b:Int} (h:a=b):Ending.returned (.int .i64 a)=.returned (.int .i64 b):=by rw [h]
theorem info_byL:(Tryz.prog.info? 5).map (fun i=>(i.zero,i.size,i.bytes))=some (some (.int .u8 0),1,1):=by kernel_rfl
theorem info_partsL {o:Option TypeInfo} {z:Value} {a b:Nat} (h:o.map (fun i=>(i.zero,i.size,i.bytes))=some (some z,a,b)):∃ i,o=some i/\i.zero=some z/\i.size=a/\i.bytes=b:=by
 rcases o with _|i
 ·cases h
 ·simp at h
  exact⟨i,rfl,h.1,h.2.1,h.2.2⟩
theorem isSp_no {c:Nat} (h0:c≠0) (h1:c≠9) (h2:c≠10) (h3:c≠12) (h4:c≠13) (h5:c≠32):isSp c=false:=by simp [isSp,h0,h1,h2,h3,h4,h5]
theorem isDl_no {c:Nat} (h0:c≠40) (h1:c≠41) (h2:c≠60) (h3:c≠62) (h4:c≠91) (h5:c≠93) (h6:c≠123) (h7:c≠125) (h8:c≠47) (h9:c≠37):isDl c=false:=by simp [isDl,h0,h1,h2,h3,h4,h5,h6,h7,h8,h9]
theorem rdelim_any (c:Nat) (w:World):Calls Tryz.prog 87 #[.int .u8 (c:Nat)] w fun e w'=>e=.returned (.bool (isDl c))/\w=w':=by
 by_cases h:c=40\/c=41\/c=60\/c=62\/c=91\/c=93\/c=123\/c=125\/c=47\/c=37
 ·rcases h with rfl|rfl|rfl|rfl|rfl|rfl|rfl|rfl|rfl|rfl
  all_goals
   go_enter Tryz.func87,Tryz.ntmps87
   go_wp2_with fail
   go_ret
   exact⟨rfl,rfl⟩
 ·have HS:=kf (isDl_no (c:=c) (by omega) (by omega) (by omega) (by omega) (by omega) (by omega) (by omega) (by omega) (by omega) (by omega))
  have e0:((c:Int)==40)=false:=by simp;omega
  have e1:((c:Int)==41)=false:=by simp;omega
  have e2:((c:Int)==60)=false:=by simp;omega
  have e3:((c:Int)==62)=false:=by simp;omega
  have e4:((c:Int)==91)=false:=by simp;omega
  have e5:((c:Int)==93)=false:=by simp;omega
  have e6:((c:Int)==123)=false:=by simp;omega
  have e7:((c:Int)==125)=false:=by simp;omega
  have e8:((c:Int)==47)=false:=by simp;omega
  have e9:((c:Int)==37)=false:=by simp;omega
  clear h
  go_enter Tryz.func87,Tryz.ntmps87
  go_wp2_with fail
  go_ret
  exact⟨by rw [HS.out];rfl,rfl⟩
def skipO (bs:List Nat) (p:Int):Nat:=if p<0 then 0 else if p<=bs.length then p.toNat+skp false (bs.drop p.toNat) else bs.length
theorem skp_sp {c:Nat} (l:List Nat) (h:isSp c=true):skp false (c::l)=skp false l+1:=by rw [skp,if_pos h]
theorem skp_37 (l:List Nat):skp false (37::l)=skp true (37::l):=by simp [skp,isSp]
theorem skp_no {c:Nat} (l:List Nat) (h:isSp c=false) (h2:c≠37):skp false (c::l)=0:=by rw [skp,if_neg (by rw [h];decide),if_neg h2]
theorem skp_com {c:Nat} (l:List Nat) (h1:c≠10) (h2:c≠13):skp true (c::l)=skp true l+1:=by
 have e:(!(c==10 || c==13))=true:=by simp [h1,h2]
 rw [skp,e]
theorem skp_eol {c:Nat} (l:List Nat) (h:c=10\/c=13):skp true (c::l)=skp false (c::l):=by
 rcases h with rfl|rfl<;>simp [skp,isSp]
def KB (R:Nat) (V W:World):Prop:=∀ g T cs,g≠R->T≠5->Blk V g T cs->Blk W g T cs
theorem KB.refl (R:Nat) (V:World):KB R V V:=fun _ _ _ _ _ h=>h
theorem KB.trans {R:Nat} {V W X:World} (h:KB R V W) (k:KB R W X):KB R V X:=fun g T cs a b c=>k g T cs a b (h g T cs a b c)
theorem KB.chg {R:Nat} {V W:World} (h:Chg NoS V W):KB R V W:=fun _ _ _ _ _ c=>c.chg h (fun h=>h)
theorem KB.set {R:Nat} {V W:World} (h:KB R V W) (i:Nat) (u:Value):KB R V (W.setCell ⟨R,i,none⟩ u):=fun g T cs a b c=>(h g T cs a b c).far (p:=⟨R,i,none⟩) a u
theorem KB.grown {R:Nat} {V W W':World} {base:Nat} {v:Value} {m:Nat} {xs:List Value} (h:KB R V W) (ho:W.ownsRow base 5 1 v m xs) (hg:W.grownBy W' v.ownBlock):KB R V W' :=
 fun g T cs a b c=>(h g T cs a b c).grown hg (own_ne_blk ho (h g T cs a b c) (Ne.symm b)).symm
def rcl (q:Value) (A2:Option Addr) (n2 c2:Nat) (A:Option Addr) (n c p:Nat) (last:Bool):Array Value :=
 #[q,.slice A2 n2 c2,.slice A n c,.int .i64 (p:Nat),.bool last]
structure RDx (V w W:World) (A:Option Addr) (n c:Nat) (last:Bool) (R p:Nat) (out:List Nat) (q:Value) (A2:Option Addr) (c2:Nat):Prop where
 blk:Blk W R 198 (rcl q A2 out.length c2 A n c p last)
 used:q=.pointer none\/q=.pointer (some ⟨R,0,none⟩)
 own:W.ownsRow w.heap.size 5 1 (.slice A2 out.length c2) out.length (lcells out)
 chg:Chg NoS w W
 new:w.heap.size<=R
 kb:KB R V W
def RD (V w W:World) (A:Option Addr) (n c:Nat) (last:Bool) (R p:Nat) (out:List Nat):Prop:=∃ q A2 c2,RDx V w W A n c last R p out q A2 c2
section
variable {V w W W':World} {A A2:Option Addr} {n c R p c2:Nat} {last:Bool} {out:List Nat} {q:Value}
theorem RDx.cells (h:RDx V w W A n c last R p out q A2 c2):W.cell? ⟨R,0,none⟩=some q/\W.cell? ⟨R,1,none⟩=some (.slice A2 out.length c2)/\W.cell? ⟨R,2,none⟩=some (.slice A n c)/\W.cell? ⟨R,3,none⟩=some (.int .i64 (p:Nat))/\W.cell? ⟨R,4,none⟩=some (.bool last):=by
 refine⟨?_,?_,?_,?_,?_⟩<;>(rw [h.blk.cell];rfl)
theorem RDx.frozen (h:RDx V w W A n c last R p out q A2 c2) (i:Nat):W.frozen? ⟨R,i,none⟩=false:=h.blk.frozen i
theorem RDx.shape (h:RDx V w W A n c last R p out q A2 c2):W.shape? R=some (198,5):=by
 have h':W.heap[R]?=some (.cells (rcl q A2 out.length c2 A n c p last) 198 (0,0)):=h.blk
 simp [World.shape?,h',rcl]
theorem RDx.neq (h:RDx V w W A n c last R p out q A2 c2):(Value.slice A2 out.length c2).ownBlock≠some R:=own_ne_blk h.own h.blk (by decide)
theorem own_kept {g:Nat} {u:Value} {i base:Nat} {e:TypeId} {v:Value} {m:Nat} {xs:List Value} (h:W.ownsRow base e 1 v m xs) (hne:v.ownBlock≠some g):(W.setCell ⟨g,i,none⟩ u).ownsRow base e 1 v m xs :=
 own_chg (S:=fun k=>k=g) h ((Chg.refl (fun k=>k=g) W).setCell (p:=⟨g,i,none⟩) (fun _=>rfl) u) (fun k hk e=>hne (by rw [hk,e]))
theorem RDx.at_ (h:RDx V w W A n c last R p out q A2 c2) (p':Nat):RDx V w (W.setCell ⟨R,3,none⟩ (.int .i64 (p':Nat))) A n c last R p' out q A2 c2 :=
 ⟨h.blk.set_ 3 _,h.used,own_kept h.own h.neq,h.chg.setCell (p:=⟨R,3,none⟩) (fun e=>absurd e (Nat.not_lt.2 h.new)) _,h.new,h.kb.set _ _⟩
theorem RDx.use (h:RDx V w W A n c last R p out q A2 c2):RDx V w (W.setCell ⟨R,0,none⟩ (.pointer (some ⟨R,0,none⟩))) A n c last R p out (.pointer (some ⟨R,0,none⟩)) A2 c2 :=
 ⟨h.blk.set_ 0 _,.inr rfl,own_kept h.own h.neq,h.chg.setCell (p:=⟨R,0,none⟩) (fun e=>absurd e (Nat.not_lt.2 h.new)) _,h.new,h.kb.set _ _⟩
theorem RDx.call (h:RDx V w W A n c last R p out q A2 c2) (hc:Chg NoS W W'):RDx V w W' A n c last R p out q A2 c2 :=
 ⟨h.blk.chg hc (fun h=>h),h.used,own_chg (S:=NoS) h.own hc (fun _ _ e=>e),h.chg.trans hc (fun _ _ e=>e),h.new,h.kb.trans (KB.chg hc)⟩
theorem RDx.drew (h:RDx V w W A n c last R p out q A2 c2):RDx V w W.drew A n c last R p out q A2 c2:=h.call ((Chg.refl _ _).drew)
theorem RDx.alloc (h:RDx V w W A n c last R p out q A2 c2) (o:Obj):RDx V w (W.alloc o) A n c last R p out q A2 c2:=h.call ((Chg.refl _ _).alloc o)
theorem RDx.grow {A3:Option Addr} {c3:Nat} {out':List Nat} (h:RDx V w W A n c last R p out q A2 c2) (hg:W.grownBy W' (Value.slice A2 out.length c2).ownBlock)
  (ho:W'.ownsRow w.heap.size 5 1 (.slice A3 out'.length c3) out'.length (lcells out')):RDx V w (W'.setCell ⟨R,1,none⟩ (.slice A3 out'.length c3)) A n c last R p out' q A3 c3:=by
 have hb:Blk W' R 198 (rcl q A2 out.length c2 A n c p last):=h.blk.grown hg h.neq.symm
 have hne:(Value.slice A3 out'.length c3).ownBlock≠some R:=own_ne_blk ho hb (by decide)
 refine⟨hb.set_ 1 _,h.used,own_kept ho hne,?_,h.new,(h.kb.grown h.own hg).set _ _⟩
 exact(h.chg.grown hg (fun k hk e=>absurd e (Nat.not_lt.2 (h.own.lt k hk).1))).setCell (p:=⟨R,1,none⟩) (fun e=>absurd e (Nat.not_lt.2 h.new)) _
theorem RDx.at_cells (h:RDx V w W A n c last R p out q A2 c2) (hg:W.grownBy W' (Value.slice A2 out.length c2).ownBlock):W'.cell? ⟨R,0,none⟩=some q/\W'.cell? ⟨R,1,none⟩=some (.slice A2 out.length c2)/\W'.frozen? ⟨R,1,none⟩=false:=by
 have hb:Blk W' R 198 (rcl q A2 out.length c2 A n c p last):=h.blk.grown hg h.neq.symm
 exact⟨by rw [hb.cell];rfl,by rw [hb.cell];rfl,hb.frozen 1⟩
theorem RDx.rd (h:RDx V w W A n c last R p out q A2 c2):RD V w W A n c last R p out:=⟨_,_,_,h⟩
theorem RD.chg (h:RD V w W A n c last R p out):Chg NoS w W:=by
 obtain⟨_,_,_,h⟩:=h
 exact h.chg
theorem RD.new (h:RD V w W A n c last R p out):w.heap.size<=R:=by
 obtain⟨_,_,_,h⟩:=h
 exact h.new
theorem RD.call (h:RD V w W A n c last R p out) (hc:Chg NoS W W'):RD V w W' A n c last R p out:=by
 obtain⟨_,_,_,h⟩:=h
 exact⟨_,_,_,h.call hc⟩
theorem RD.drewN (h:RD V w W A n c last R p out) (k:Nat):RD V w (W.drewN k) A n c last R p out:=h.call ((Chg.refl _ _).drewN k)
theorem RD.alloc (h:RD V w W A n c last R p out) (o:Obj):RD V w (W.alloc o) A n c last R p out:=h.call ((Chg.refl _ _).alloc o)
theorem RD.at_ (h:RD V w W A n c last R p out) (p':Nat):RD V w (W.setCell ⟨R,3,none⟩ (.int .i64 (p':Nat))) A n c last R p' out:=by
 obtain⟨_,_,_,h⟩:=h
 exact⟨_,_,_,h.at_ p'⟩
theorem RD.cells (h:RD V w W A n c last R p out):W.cell? ⟨R,2,none⟩=some (.slice A n c)/\W.cell? ⟨R,3,none⟩=some (.int .i64 (p:Nat))/\W.cell? ⟨R,4,none⟩=some (.bool last)/\W.frozen? ⟨R,3,none⟩=false:=by
 obtain⟨_,_,_,h⟩:=h
 exact⟨h.cells.2.2.1,h.cells.2.2.2.1,h.cells.2.2.2.2,h.frozen 3⟩
theorem RD.kb (h:RD V w W A n c last R p out):KB R V W:=by
 obtain⟨_,_,_,h⟩:=h
 exact h.kb
theorem RD.base {V':World} (h:RD V w W A n c last R p out) (k:KB R V' W):RD V' w W A n c last R p out:=by
 obtain⟨_,_,_,h⟩:=h
 exact⟨_,_,_,h.blk,h.used,h.own,h.chg,h.new,k⟩
theorem RD.here (h:RD V w W A n c last R p out):RD W w W A n c last R p out:=h.base (KB.refl _ _)
theorem RD.lt (h:RD V w W A n c last R p out):R<W.heap.size:=by
 obtain⟨_,_,_,h⟩:=h
 exact h.blk.lt
end
structure RE (V w W:World) (R p:Nat):Prop where
 cell:W.cell? ⟨R,3,none⟩=some (.int .i64 (p:Nat))
 chg:Chg NoS w W
 kb:KB R V W
theorem RD.re {V w W:World} {A:Option Addr} {n c R p:Nat} {last:Bool} {out:List Nat} (h:RD V w W A n c last R p out):RE V w W R p:=⟨h.cells.2.1,h.chg,h.kb⟩
theorem RE.call {V w W W':World} {R p:Nat} (h:RE V w W R p) (hc:Chg NoS W W'):RE V w W' R p :=
 ⟨(hc.cell (p:=⟨R,3,none⟩) (cell_lt h.cell) (fun h=>h)).trans h.cell,h.chg.trans hc (fun _ _ e=>e),h.kb.trans (KB.chg hc)⟩
theorem RE.back {V V' w W:World} {R p:Nat} (h:RE V w W R p) (k:KB R V' V):RE V' w W R p:=⟨h.cell,h.chg,k.trans h.kb⟩
theorem Chg.freeze {w W:World} (h:Chg NoS w W) {g:Nat} (hg:w.heap.size<=g) (n:Nat):Chg NoS w (W.freeze ⟨g,0,none⟩ n):=by
 have hb:=Lib.below_freeze (B:=w.heap.size) h.no_below (p:=⟨g,0,none⟩) hg n
 exact Chg.of_below hb
theorem freeze_cell {W:World} {g R i:Nat} (hne:R≠g) (n:Nat):(W.freeze ⟨g,0,none⟩ n).cell? ⟨R,i,none⟩=W.cell? ⟨R,i,none⟩:=by
 unfold World.freeze
 split
 ·rfl
 ·simp only [World.cell?]
  rw [Array.getElem?_modify,if_neg (fun e=>hne e.symm)]
theorem KB.far {R g:Nat} {V W:World} (h:KB R V W) (hg:V.heap.size<=g) (i:Nat) (u:Value):KB R V (W.setCell ⟨g,i,none⟩ u) :=
 fun k T cs a b c=>(h k T cs a b c).far (p:=⟨g,i,none⟩) (Nat.ne_of_lt (Nat.lt_of_lt_of_le c.lt hg)) u
theorem RE.far {V w W:World} {R p g:Nat} (h:RE V w W R p) (hR:g≠R) (hV:V.heap.size<=g) (hw:w.heap.size<=g) (i:Nat) (u:Value):RE V w (W.setCell ⟨g,i,none⟩ u) R p:=by
 refine⟨?_,h.chg.setCell (p:=⟨g,i,none⟩) (fun e=>absurd e (Nat.not_lt.2 hw)) u,h.kb.far hV i u⟩
 have e:(W.setCell ⟨g,i,none⟩ u).heap[R]?=W.heap[R]?:=Below.heap_setCell W ⟨g,i,none⟩ u R (fun e=>hR e.symm)
 exact(World.cell?_of_block (a:=⟨R,3,none⟩) e).trans h.cell
theorem RE.set4 {V w W:World} {R p g:Nat} (h:RE V w W R p) (hR:g≠R) (hV:V.heap.size<=g) (hw:w.heap.size<=g) (a b c d:Value) :
  RE V w ((((W.setCell ⟨g,0,none⟩ a).setCell ⟨g,1,none⟩ b).setCell ⟨g,2,none⟩ c).setCell ⟨g,3,none⟩ d) R p :=
 (((h.far hR hV hw 0 a).far hR hV hw 1 b).far hR hV hw 2 c).far hR hV hw 3 d
theorem RE.set8 {V w W:World} {R p g:Nat} (h:RE V w W R p) (hR:g≠R) (hV:V.heap.size<=g) (hw:w.heap.size<=g) (a0 a1 a2 a3 a4 a5 a6 a7:Value) :
  RE V w ((((((((W.setCell ⟨g,0,none⟩ a0).setCell ⟨g,1,none⟩ a1).setCell ⟨g,2,none⟩ a2).setCell ⟨g,3,none⟩ a3).setCell ⟨g,4,none⟩ a4).setCell ⟨g,5,none⟩ a5).setCell ⟨g,6,none⟩ a6).setCell ⟨g,7,none⟩ a7) R p :=
 (((((((h.far hR hV hw 0 a0).far hR hV hw 1 a1).far hR hV hw 2 a2).far hR hV hw 3 a3).far hR hV hw 4 a4).far hR hV hw 5 a5).far hR hV hw 6 a6).far hR hV hw 7 a7
structure Cl4 (W:World) (g:Nat) (T:TypeId) (a b c d:Value):Prop where
 c0:W.cell? ⟨g,0,none⟩=some a
 c1:W.cell? ⟨g,1,none⟩=some b
 c2:W.cell? ⟨g,2,none⟩=some c
 c3:W.cell? ⟨g,3,none⟩=some d
 f0:W.frozen? ⟨g,0,none⟩=false
 f1:W.frozen? ⟨g,1,none⟩=false
 f2:W.frozen? ⟨g,2,none⟩=false
 f3:W.frozen? ⟨g,3,none⟩=false
theorem Blk.cl4 {W:World} {g:Nat} {T:TypeId} {a b c d:Value} (h:Blk W g T #[a,b,c,d]):Cl4 W g T a b c d :=
 ⟨(h.cell 0).trans rfl,(h.cell 1).trans rfl,(h.cell 2).trans rfl,(h.cell 3).trans rfl,h.frozen 0,h.frozen 1,h.frozen 2,h.frozen 3⟩
structure Cl8 (W:World) (g:Nat) (T:TypeId) (a0 a1 a2 a3 a4 a5 a6 a7:Value):Prop where
 c0:W.cell? ⟨g,0,none⟩=some a0
 c1:W.cell? ⟨g,1,none⟩=some a1
 c2:W.cell? ⟨g,2,none⟩=some a2
 c3:W.cell? ⟨g,3,none⟩=some a3
 c4:W.cell? ⟨g,4,none⟩=some a4
 c5:W.cell? ⟨g,5,none⟩=some a5
 c6:W.cell? ⟨g,6,none⟩=some a6
 c7:W.cell? ⟨g,7,none⟩=some a7
 f0:W.frozen? ⟨g,0,none⟩=false
 f1:W.frozen? ⟨g,1,none⟩=false
 f2:W.frozen? ⟨g,2,none⟩=false
 f3:W.frozen? ⟨g,3,none⟩=false
 f4:W.frozen? ⟨g,4,none⟩=false
 f5:W.frozen? ⟨g,5,none⟩=false
 f6:W.frozen? ⟨g,6,none⟩=false
 f7:W.frozen? ⟨g,7,none⟩=false
theorem Blk.cl8 {W:World} {g:Nat} {T:TypeId} {a0 a1 a2 a3 a4 a5 a6 a7:Value} (h:Blk W g T #[a0,a1,a2,a3,a4,a5,a6,a7]):Cl8 W g T a0 a1 a2 a3 a4 a5 a6 a7 :=
 ⟨(h.cell 0).trans rfl,(h.cell 1).trans rfl,(h.cell 2).trans rfl,(h.cell 3).trans rfl,(h.cell 4).trans rfl,(h.cell 5).trans rfl,(h.cell 6).trans rfl,(h.cell 7).trans rfl,h.frozen 0,h.frozen 1,h.frozen 2,h.frozen 3,h.frozen 4,h.frozen 5,h.frozen 6,h.frozen 7⟩
theorem KB.freeze {R:Nat} {V W:World} (h:KB R V W) {g:Nat} {cs:Array Value} {fz:Nat × Nat} (hg:W.heap[g]?=some (.cells cs 5 fz)) (n:Nat):KB R V (W.freeze ⟨g,0,none⟩ n):=by
 intro k T cs' a b c
 have h1:=h k T cs' a b c
 have hne:g≠k:=by
  rintro rfl
  have h2:W.heap[g]?=some (.cells cs' T (0,0)):=h1
  rw [hg] at h2
  simp only [Option.some.injEq,Obj.cells.injEq] at h2
  exact b h2.2.1.symm
 have h2:W.heap[k]?=some (.cells cs' T (0,0)):=h1
 unfold World.freeze
 split
 ·exact h1
 ·show(W.heap.modify g _)[k]?=_
  rw [Array.getElem?_modify,if_neg hne]
  exact h2
theorem bld_size:(Tryz.prog.info? 155).map (·.size)=some 2:=by kernel_rfl
theorem bld_lies:liesAt Tryz.prog Tryz.prog.depth 198 (5 / Tryz.prog.cellsOf 198) 0 155 1=true:=by kernel_rfl
theorem byte_cells:Tryz.prog.cellsOf 5=1:=by kernel_rfl
theorem func_noEscape:Tryz.prog.funcs[(194:Nat)]?=some Tryz.f194:=by kernel_rfl
set_option maxHeartbeats 1000000 in
set_option maxRecDepth 100000 in
theorem copyC_any {V w W:World} {A A2:Option Addr} {n c R p c2:Nat} {last:Bool} {out:List Nat} {q:Value} (h:RDx V w W A n c last R p out q A2 c2) :
  Calls Tryz.prog 166 #[.pointer (some ⟨R,0,none⟩)] W fun e W'=>e=.returned (.tuple #[])/\RDx V w W' A n c last R p out (.pointer (some ⟨R,0,none⟩)) A2 c2:=by
 obtain⟨j,hj,hjs⟩:=Option.map_eq_some_iff.1 bld_size
 rcases h.used with rfl|rfl
 ·have h0:=h.cells.1
  have hf:=h.frozen 0
  have hsh:=h.shape
  have HU:=kf h.use
  have g1:(convert 153 229 (.pointer (some ⟨R,0,none⟩))).run Tryz.prog W=.ok (.pointer (some ⟨R,0,none⟩)) W :=
   Lib.run_to_unsafe W ⟨R,0,none⟩ Tryz.underlying153 Tryz.underlying229 hj (by rw [hjs];decide) hsh (Nat.zero_lt_succ 4)
  have g2:(convert 229 153 (.pointer (some ⟨R,0,none⟩))).run Tryz.prog W=.ok (.pointer (some ⟨R,0,none⟩)) W :=
   Lib.run_from_unsafe W ⟨R,0,none⟩ Tryz.underlying229 Tryz.underlying153 hj hsh bld_lies
  clear h
  go_enter Tryz.func166,Tryz.ntmps166
  go_wp2
  rw [run_callFunc_extern func_noEscape (by kernel_rfl) (by kernel_rfl) (by kernel_rfl) (e:=Extern.AbiNoEscape.same) (by kernel_rfl)]
  rw [Lib.run_noEscape]
  simp only [Result.andThen]
  rw [Oper.upon_value]
  go_wp2
  go_end0
  exact⟨rfl,HU.out⟩
 ·have h0:=h.cells.1
  have HU:=kf h
  clear h
  go_enter Tryz.func166,Tryz.ntmps166
  go_wp2
  rw [Lib.run_neq_ptr_same W _ Tryz.underlying153 hj]
  go_wp2
  go_end0
  exact⟨rfl,HU.out⟩
set_option maxHeartbeats 2000000 in
set_option maxRecDepth 100000 in
theorem pwbyte_any {V w W:World} {A:Option Addr} {n c R p:Nat} {last:Bool} {out:List Nat} (h:RD V w W A n c last R p out) (x:Nat) (hl:out.length<=1000000) :
  Calls Tryz.prog 172 #[.pointer (some ⟨R,0,none⟩),.int .u8 (x:Nat)] W fun e W'=>e=.returned .nilIface/\RD V w W' A n c last R p (out++[x]):=by
 obtain⟨q,A2,c2,h⟩:=h
 obtain⟨i0,hi,hz0,hz1,hz2⟩:=info_partsL info_byL
 have HC:=kf (copyC_any h)
 clear h
 go_enter Tryz.func172,Tryz.ntmps172
 go_wp2_with (go_at_call 166;refine HC.out.mono ?_)
 rintro e w1 ⟨rfl,h1⟩
 have c0:=h1.cells.1
 have c1:=h1.cells.2.1
 have hs:=h1.chg.size
 have hown:=h1.own
 have HR:=kf h1
 clear h1
 go_wp2_with (at_builtin;refine wpList_append_own _ rfl _ _ 32 rfl w.heap.size 5 i0 (.int .u8 0) 1 1 Tryz.underlying32 hi hz0 hz1 hz2 rfl (by decide) _ _ _ rfl (hown.alloc _) ⟨w1.heap.size,0,none⟩ 1 1 [.int .u8 (x:Nat)] rfl rfl ?c1 ?c2 ?c3 ?c4 ?c5 ?_)
 case c1 =>
  intro j u hj
  match j,hj with
  |0,hj=>simp at hj;subst hj;simp [Addr.add]
 case c2=>intro u hu;simp at hu;subst hu;rfl
 case c3=>unfold maxLen;omega
 case c4=>omega
 case c5=>simp;omega
 intro v' w2 hown' hgrow _
 have h2:=(HR.out.alloc (.cells #[.int .u8 (x:Nat)] 5)).at_cells hgrow
 obtain⟨d0,d1,f1⟩:=h2
 obtain⟨A3,c3,rfl,_⟩:=own_slice hown'
 have hl1:(out++[x]).length=out.length+1:=by simp
 have HF:=kf ((HR.out.alloc (.cells #[.int .u8 (x:Nat)] 5)).grow (out':=out++[x]) (A3:=A3) (c3:=c3) hgrow (by rw [hl1,lcells_app];exact hown'))
 rw [hl1] at HF
 clear hown hown' hgrow hl1
 go_wp2
 go_ret
 exact⟨rfl,HF.out.rd⟩
theorem strCells_sb (l:List Nat) (h:∀ d∈l,d<256):Lib.strCells (sb l)=lcells l:=by
 unfold Lib.strCells sb lcells
 rw [List.map_map]
 refine List.map_congr_left fun d hd=>?_
 have:=h d hd
 simp
 omega
set_option maxHeartbeats 2000000 in
set_option maxRecDepth 100000 in
theorem pwstr_any {V w W:World} {A:Option Addr} {n c R p:Nat} {last:Bool} {out:List Nat} (h:RD V w W A n c last R p out) (l:List Nat) (hb:∀ d∈l,d<256) (hl:out.length<=1000000) (hl2:l.length<=1000000) :
  Calls Tryz.prog 136 #[.pointer (some ⟨R,0,none⟩),.string (sb l)] W fun e W'=>e=.returned (.tuple #[.int .i64 (l.length:Nat),.nilIface])/\RD V w W' A n c last R p (out++l):=by
 obtain⟨q,A2,c2,h⟩:=h
 obtain⟨i0,hi,hz0,hz1,hz2⟩:=info_partsL info_byL
 have HC:=kf (copyC_any h)
 have hsz:=sb_size l
 have HS:=kf (strCells_sb l hb)
 obtain⟨s,hs⟩:∃ s,sb l=s:=⟨_,rfl⟩
 rw [hs] at hsz HS ⊢
 obtain⟨m,hm⟩:∃ m,l.length=m:=⟨_,rfl⟩
 have hm2:(out++l).length=out.length+m:=by rw [List.length_append,hm]
 rw [hm] at hsz hl2 ⊢
 clear h hs hb
 go_enter Tryz.func136,Tryz.ntmps136
 go_wp2_with (go_at_call 166;refine HC.out.mono ?_)
 rintro e w1 ⟨rfl,h1⟩
 have c0:=h1.cells.1
 have c1:=h1.cells.2.1
 have hs:=h1.chg.size
 have hown:=h1.own
 have HR:=kf h1
 clear h1
 go_wp2_with (at_builtin;refine Lib.wpList_append_own_string _ rfl _ _ 32 9 rfl w.heap.size 5 i0 Tryz.underlying32 Tryz.underlying9 hi hz0 hz1 hz2 _ _ _ rfl hown s rfl ?c3 ?c4 ?c5 ?_)
 case c3=>unfold maxLen;omega
 case c4=>omega
 case c5=>omega
 intro v' w2 hown' hgrow _
 have h2:=HR.out.at_cells hgrow
 obtain⟨d0,d1,f1⟩:=h2
 (try rw [hsz] at hown')
 rw [HS.out,<- lcells_app] at hown'
 obtain⟨A3,c3,rfl,_⟩:=own_slice hown'
 have HF:=kf (HR.out.grow (out':=out++l) (A3:=A3) (c3:=c3) hgrow (by rw [hm2];exact hown'))
 rw [hm2] at HF
 clear hown hown' hgrow hm2 hm HS
 go_wp2
 go_ret2
 exact⟨rfl,HF.out.rd⟩
set_option maxHeartbeats 1000000 in
set_option maxRecDepth 100000 in
theorem plen_any {V w W:World} {A:Option Addr} {n c R p:Nat} {last:Bool} {out:List Nat} (h:RD V w W A n c last R p out) :
  Calls Tryz.prog 146 #[.pointer (some ⟨R,0,none⟩)] W fun e W'=>e=.returned (.int .i64 (out.length:Nat))/\W=W':=by
 obtain⟨q,A2,c2,h⟩:=h
 have c1:=h.cells.2.1
 clear h
 go_enter Tryz.func146,Tryz.ntmps146
 go_wp2
 go_ret
 exact⟨rfl,rfl⟩
set_option maxHeartbeats 2000000 in
set_option maxRecDepth 100000 in
theorem pstring_any {V w W:World} {A:Option Addr} {n c R p:Nat} {last:Bool} {out:List Nat} (h:RD V w W A n c last R p out) (hb:∀ d∈out,d<256) (hl:out.length<=1000000) :
  Calls Tryz.prog 99 #[.pointer (some ⟨R,0,none⟩)] W fun e W'=>e=.returned (.string (sb out))/\RE V w W' R p:=by
 obtain⟨q,A2,c2,h⟩:=h
 have mixed:Tryz.prog.follows Departure.mixedOrders=true:=by kernel_rfl
 have hre:=h.rd.re.call ((Chg.refl NoS W).drew)
 have c1:=h.drew.cells.2.1
 have hown:=h.own
 have hne:=h.neq
 have hnew:=h.new
 obtain⟨m,hm⟩:∃ m,out.length=m:=⟨_,rfl⟩
 rw [hm] at c1 hown hne hl
 rcases hown.2 with⟨hv,h0⟩|⟨g,cap,cur,hv,hbg,hg,hnc,hcm,hcs,htake⟩
 ·simp only [Value.slice.injEq] at hv
  obtain⟨rfl,h0',rfl⟩:=hv
  subst h0'
  obtain rfl:out=[]:=List.eq_nil_of_length_eq_zero hm
  have hUS:∀ W2,(Builtin.unsafeString_ #[192,3] 9 #[.pointer none,.int .i64 0]).run Tryz.prog W2=.ok (.string .empty) W2:=fun W2=>Lib.run_unsafeString_none W2 _ _ _ none
  have hSD:(Builtin.unsafeSliceData_ #[32] 192 #[.slice none 0 0]).run Tryz.prog W.drew=.ok (.pointer none) W.drew:=rfl
  have HRE:=kf hre
  clear hre hne hown h hm
  go_enter Tryz.func99,Tryz.ntmps99
  go_wp2
  go_region_o
  all_goals (go_wp2;go_ret;exact⟨rfl,HRE.out⟩)
 ·simp only [Value.slice.injEq] at hv
  obtain⟨rfl,_,rfl⟩:=hv
  have hgR:R≠g:=fun e=>hne (by rw [e];rfl)
  have hgd:W.drew.heap[g]?=some (.cells cur 5 (0,0)):=hg
  have hsh:W.drew.shape? g=some (5,cur.size):=by simp [World.shape?,hgd]
  by_cases h0:m=0
  ·subst h0
   obtain rfl:out=[]:=List.eq_nil_of_length_eq_zero hm
   have hUS:∀ W2 q,(Builtin.unsafeString_ #[192,3] 9 #[.pointer q,.int .i64 0]).run Tryz.prog W2=.ok (.string .empty) W2:=fun W2 q=>Lib.run_unsafeString_none W2 _ _ _ q
   by_cases hc0:c2=0
   ·subst hc0
    have hSD:(Builtin.unsafeSliceData_ #[32] 192 #[.slice (some ⟨g,0,none⟩) 0 0]).run Tryz.prog W.drew=.ok (.pointer (some ⟨W.drew.heap.size,0,none⟩)) (W.drew.alloc (.view ⟨g,0,none⟩ 5)) :=
     Lib.run_unsafeSliceData_zero W.drew _ _ 5 Tryz.underlying192 ⟨g,0,none⟩ 0 (5,cur.size) hsh
    have k2:(W.drew.alloc (.view ⟨g,0,none⟩ 5)).cell? ⟨R,1,none⟩=some (.slice (some ⟨g,0,none⟩) 0 0) :=
     (((Chg.refl NoS W.drew).alloc _).cell (p:=⟨R,1,none⟩) (cell_lt c1) (fun h=>h)).trans c1
    have c3:(W.alloc (.view ⟨g,0,none⟩ 5)).drew.cell? ⟨R,1,none⟩=some (.slice (some ⟨g,0,none⟩) 0 0):=k2
    have c0:W.cell? ⟨R,1,none⟩=some (.slice (some ⟨g,0,none⟩) 0 0):=c1
    have HRE:=kf (hre.call ((Chg.refl NoS W.drew).alloc (.view ⟨g,0,none⟩ 5)))
    clear hre hne hown h hm hsh hgd hg hgR htake hcs hcm hnc
    go_enter Tryz.func99,Tryz.ntmps99
    go_wp2
    go_region_o
    all_goals (go_wp2;go_ret;exact⟨rfl,HRE.out⟩)
   ·have hSD:(Builtin.unsafeSliceData_ #[32] 192 #[.slice (some ⟨g,0,none⟩) 0 c2]).run Tryz.prog W.drew=.ok (.pointer (some ⟨g,0,none⟩)) W.drew :=
     Lib.run_unsafeSliceData_row _ _ _ _ _ _ hc0
    have HRE:=kf hre
    clear hre hne hown h hm hsh hgd hg hgR htake hcs hcm hnc hc0
    go_enter Tryz.func99,Tryz.ntmps99
    go_wp2
    go_region_o
    all_goals (go_wp2;go_ret;exact⟨rfl,HRE.out⟩)
  ·have hSD:(Builtin.unsafeSliceData_ #[32] 192 #[.slice (some ⟨g,0,none⟩) m c2]).run Tryz.prog W.drew=.ok (.pointer (some ⟨g,0,none⟩)) W.drew :=
    Lib.run_unsafeSliceData_row _ _ _ _ _ _ (by omega)
   have hml:(out.map UInt8.ofNat).length=m:=by rw [List.length_map,hm]
   have hUS:(Builtin.unsafeString_ #[192,3] 9 #[.pointer (some ⟨g,0,none⟩),.int .i64 (m:Nat)]).run Tryz.prog W.drew=.ok (.string (sb out)) (W.drew.freeze ⟨g,0,none⟩ m):=by
    have hu:=Lib.run_unsafeString_row (P:=Tryz.prog) W.drew 192 3 9 5 Tryz.underlying192 byte_cells g cur.size hsh (out.map UInt8.ofNat) (fun e=>h0 (by rw [<- hml,e];rfl)) (by rw [hml];omega) (by rw [hml];unfold maxLen at hcm;omega) (fun j x hx=>by
     rw [List.getElem?_map] at hx
     cases hj:out[j]? with
     |none=>rw [hj] at hx;cases hx
     |some y =>
      rw [hj] at hx
      simp only [Option.map_some,Option.some.injEq] at hx
      subst hx
      have hy:=hb y (List.mem_of_getElem? hj)
      have:=hown.cells (g:=g) rfl j _ (lcells_at hj)
      have e:((UInt8.ofNat y).toNat:Nat)=y:=by simp;omega
      rw [e]
      exact this)
    rw [hml] at hu
    exact hu
   have HRE:=kf (show RE V w (W.drew.freeze ⟨g,0,none⟩ m) R p from⟨(freeze_cell hgR m).trans hre.cell,hre.chg.freeze hbg m,hre.kb.freeze hgd m⟩)
   obtain⟨s,hs⟩:∃ s,sb out=s:=⟨_,rfl⟩
   rw [hs] at hUS ⊢
   clear hre hne hown h hm hsh hgd hg hgR htake hcs hcm hnc hml hs
   go_enter Tryz.func99,Tryz.ntmps99
   go_wp2
   go_region_o
   all_goals (go_wp2;go_ret;exact⟨rfl,HRE.out⟩)
def cutL (A:Option Addr) (lo cap:Nat):Option Addr:=if cap=lo then A else A.map (·.add (lo*1))
theorem add_addL (a:Addr) (i j:Nat):(a.add (i*1)).add j=a.add (i+j):=by
 unfold Addr.add
 by_cases hi:i=0
 ·subst hi;simp
 ·by_cases hj:j=0
  ·subst hj;simp [hi]
  ·simp [hi,hj];omega
theorem src_cutL {w:World} {A:Option Addr} {n c lo m:Nat} {xs:List Value} (h:Src w 1 A n c xs) (hc:n<=c) (hm:lo+m<=n):Src w 1 (cutL A lo c) m (c-lo) ((xs.drop lo).take m):=by
 have hl:=h.1
 refine⟨by simp;omega,fun e=>?_,fun ad e j u hu=>?_⟩
 ·unfold cutL at e
  split at e
  ·have:=h.2.1 e;omega
  ·rcases A with _|b
   ·have:=h.2.1 rfl;omega
   ·cases e
 ·have hj:j<m:=by
   have:=(List.getElem?_eq_some_iff.1 hu).1
   simp at this
   omega
  rw [List.getElem?_take_of_lt hj,List.getElem?_drop] at hu
  unfold cutL at e
  rw [if_neg (by omega)] at e
  rcases A with _|b
  ·cases e
  ·simp only [Option.map_some,Option.some.injEq] at e
   subst e
   rw [add_addL]
   exact h.2.2 b rfl (lo+j) u hu
theorem cutL_some (b off lo c:Nat):cutL (some ⟨b,off,none⟩) lo c=if c=lo then some ⟨b,off,none⟩ else some ⟨b,off+lo,none⟩:=by
 unfold cutL
 split
 ·rfl
 ·by_cases h:lo=0
  ·subst h;rfl
  ·simp [Addr.add,h]
section
variable {V w W W':World} {A2:Option Addr} {R c2:Nat} {out:List Nat} {q:Value}
end
end Go.Proofs.YthejpkflcgjdoaaGreatDoor
