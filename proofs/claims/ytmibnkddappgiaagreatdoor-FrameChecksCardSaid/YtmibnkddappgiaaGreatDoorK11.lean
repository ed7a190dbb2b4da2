import Derived.Test.YtmibnkddappgiaaGreatDoorK04
import Derived.Deep.AppendLies
set_option linter.unusedVariables false
set_option maxHeartbeats 64000000
set_option maxRecDepth 100000
set_option linter.unusedSimpArgs false
namespace Go.Proofs.YtmibnkddappgiaaGreatDoor
def z5u (c:Nat):Bool:=c==0 || c==9 || c==10 || c==12 || c==13 || c==32
def z6b (c:Nat):Bool:=c==40 || c==41 || c==60 || c==62 || c==91 || c==93 || c==123 || c==125 || c==47 || c==37
def y0h (c:Nat):Bool:=!z5u c&&!z6b c
def skp:Bool->List Nat->Nat
 |_,[]=>0
 |true,c::l=>skp (!(c==10 || c==13)) l+1
 |false,c::l=>if z5u c then skp false l+1 else if c=37 then skp true l+1 else 0
theorem v2e:∀ (l:List Nat) (f:Bool),skp f l<=l.length:=by
 intro l;induction l with
 |nil=>intro f;cases f<;>exact Nat.le_refl _
 |cons c l ih =>
  intro f;cases f
  ·simp only [skp,List.length_cons];split
   ·have:=ih false;omega
   ·split
    ·have:=ih true;omega
    ·omega
  ·simp only [skp,List.length_cons];have:=ih (!(c==10 || c==13));omega
theorem v8p:∀ (l m:List Nat) (f:Bool),skp f l<l.length->skp f (l++m)=skp f l:=by
 intro l m;induction l with
 |nil=>intro f h;simp at h
 |cons c l ih =>
  intro f h;rw [List.cons_append];cases f
  ·simp only [skp,List.length_cons] at h ⊢;split
   ·rw [ih false (by simp_all)]
   ·split
    ·rw [ih true (by simp_all)]
    ·rfl
  ·simp only [skp,List.length_cons] at h ⊢;rw [ih _ (by omega)]
theorem y2j:∀ (l:List Nat) (f:Bool),skp f l<l.length->∃ c m,l.drop (skp f l)=c::m/\z5u c=false/\c≠37:=by
 intro l;induction l with
 |nil=>intro f h;simp at h
 |cons c l ih =>
  intro f h;cases f
  ·simp only [skp,List.length_cons] at h ⊢;split
   ·next hs=>rw [if_pos hs] at h;rw [List.drop_succ_cons];exact ih false (by omega)
   ·next hs =>
    rw [if_neg hs] at h;split
    ·next h37=>rw [if_pos h37] at h;rw [List.drop_succ_cons];exact ih true (by omega)
    ·next h37=>exact⟨c,l,rfl,by simpa using hs,h37⟩
  ·simp only [skp,List.length_cons] at h ⊢;rw [List.drop_succ_cons];exact ih _ (by omega)
def rgs:List Nat->Nat
 |[]=>0
 |c::l=>if y0h c then rgs l+1 else 0
theorem y5s:∀ l:List Nat,rgs l<=l.length:=by
 intro l;induction l with
 |nil=>exact Nat.le_refl _
 |cons c l ih =>
  simp only [rgs,List.length_cons];split<;>omega
def z3q (c:Nat):Option Nat:=if 48<=c/\c<=57 then some (c-48) else if 97<=c/\c<=102 then some (c-87) else if 65<=c/\c<=70 then some (c-55) else none
theorem y1s {c d:Nat} (h:z3q c=some d):d<16:=by
 unfold z3q at h;split at h
 ·cases h;omega
 ·split at h
  ·cases h;omega
  ·split at h
   ·cases h;omega
   ·cases h
def y3j (last:Bool):Int:=if last then 10 else 6
def z2c:Nat->Nat->List Nat->Nat × Nat
 |0,n,_=>(n,0)
 |_+1,n,[]=>(n,0)
 |k+1,n,c::l=>if 48<=c/\c<=55 then((z2c k (8*n+(c-48)) l).1,(z2c k (8*n+(c-48)) l).2+1) else(n,0)
theorem y1j:∀ (k n:Nat) (l:List Nat),(z2c k n l).2<=k/\(z2c k n l).2<=l.length:=by
 intro k;induction k with
 |zero=>intro n l;exact⟨Nat.le_refl _,Nat.zero_le _⟩
 |succ k ih =>
  intro n l;cases l with
  |nil=>exact⟨Nat.zero_le _,Nat.le_refl _⟩
  |cons c l =>
   rw [z2c];split
   ·have:=ih (8*n+(c-48)) l;simp only [List.length_cons];omega
   ·exact⟨Nat.zero_le _,Nat.zero_le _⟩
def z3w (last:Bool):List Nat->Int × Option Nat × Nat
 |[]=>(y3j last,none,0)
 |c::l =>
  if c=110 then(0,some 10,1)
  else if c=114 then(0,some 13,1)
  else if c=116 then(0,some 9,1)
  else if c=98 then(0,some 8,1)
  else if c=102 then(0,some 12,1)
  else if c=10 then(0,none,1)
  else if c=13 then
   if l=[]/\last=false then(6,none,0) else if l.head?=some 10 then(0,none,2) else(0,none,1)
  else if c<48\/55<c then(0,some c,1)
  else if (z2c 3 0 (c::l)).2<3/\(c::l).length<=(z2c 3 0 (c::l)).2/\last=false then(6,none,0)
  else(0,some ((z2c 3 0 (c::l)).1%256),(z2c 3 0 (c::l)).2)
theorem z4x (last:Bool) (c:Nat) (l:List Nat):z3w last (c::l) =
  if c=110 then(0,some 10,1)
  else if c=114 then(0,some 13,1)
  else if c=116 then(0,some 9,1)
  else if c=98 then(0,some 8,1)
  else if c=102 then(0,some 12,1)
  else if c=10 then(0,none,1)
  else if c=13 then
   if l=[]/\last=false then(6,none,0) else if l.head?=some 10 then(0,none,2) else(0,none,1)
  else if c<48\/55<c then(0,some c,1)
  else if (z2c 3 0 (c::l)).2<3/\(c::l).length<=(z2c 3 0 (c::l)).2/\last=false then(6,none,0)
  else(0,some ((z2c 3 0 (c::l)).1%256),(z2c 3 0 (c::l)).2):=rfl
theorem v5b (last:Bool) (l:List Nat):(z3w last l).2.2<=l.length:=by
 cases l with
 |nil=>exact Nat.le_refl _
 |cons c l =>
  unfold z3w;have ho:=y1j 3 0 (c::l);simp only [List.length_cons] at ho ⊢;repeat' split
  all_goals first
   |(simp only [];omega)
   |(next h=>cases l with
     |nil=>simp at h
     |cons d l=>simp only [List.length_cons];omega)
def z13 (last:Bool) (deep:Nat) (out:List Nat) (p:Nat) (l:List Nat):Int × List Nat × Nat :=
 match l with
 |[]=>(y3j last,[],0)
 |c::l =>
  if c=92 then
   if (z3w last l).1≠0 then((z3w last l).1,[],0)
   else z13 last deep (out++(z3w last l).2.1.toList) (p+1+(z3w last l).2.2) (l.drop (z3w last l).2.2)
  else if c=13 then
   if l=[]/\last=false then(6,[],0)
   else if l.head?=some 10 then z13 last deep (out++[10]) (p+2) (l.drop 1)
   else z13 last deep (out++[10]) (p+1) l
  else if c=40 then z13 last (deep+1) (out++[40]) (p+1) l
  else if c=41 then
   if deep=1 then(0,out,p+1) else z13 last (deep-1) (out++[41]) (p+1) l
  else z13 last deep (out++[c]) (p+1) l
termination_by l.length
decreasing_by all_goals simp only [List.length_cons,List.length_drop];omega
theorem z2d (last:Bool) (deep:Nat) (out:List Nat) (p:Nat):z13 last deep out p []=(y3j last,[],0):=by rw [z13]
theorem z15 (last:Bool) (deep:Nat) (out:List Nat) (p c:Nat) (l:List Nat):z13 last deep out p (c::l) =
  if c=92 then
   if (z3w last l).1≠0 then((z3w last l).1,[],0)
   else z13 last deep (out++(z3w last l).2.1.toList) (p+1+(z3w last l).2.2) (l.drop (z3w last l).2.2)
  else if c=13 then
   if l=[]/\last=false then(6,[],0)
   else if l.head?=some 10 then z13 last deep (out++[10]) (p+2) (l.drop 1)
   else z13 last deep (out++[10]) (p+1) l
  else if c=40 then z13 last (deep+1) (out++[40]) (p+1) l
  else if c=41 then
   if deep=1 then(0,out,p+1) else z13 last (deep-1) (out++[41]) (p+1) l
  else z13 last deep (out++[c]) (p+1) l:=by rw [z13]
theorem v36 (last:Bool):∀ (n:Nat) (l:List Nat) (deep:Nat) (out:List Nat) (p:Nat),l.length<=n->(z13 last deep out p l).1=0->p<(z13 last deep out p l).2.2/\(z13 last deep out p l).2.2<=p+l.length:=by
 intro n;induction n with
 |zero =>
  intro l deep out p hn h;obtain rfl:l=[]:=List.length_eq_zero_iff.1 (by omega);rw [z2d] at h;cases last<;>cases h
 |succ n ih =>
  intro l deep out p hn h;cases l with
  |nil=>rw [z2d] at h;cases last<;>cases h
  |cons c l =>
   have hl:l.length<=n:=by simp only [List.length_cons] at hn;omega
   simp only [List.length_cons];rw [z15] at h ⊢;by_cases h1:c=92
   ·rw [if_pos h1] at h ⊢;by_cases h3:(z3w last l).1≠0
    ·rw [if_pos h3] at h;exact absurd h h3
    ·rw [if_neg h3] at h ⊢;have hle:=v5b last l;have:=ih (l.drop (z3w last l).2.2) _ _ _ (by rw [List.length_drop];omega) h;rw [List.length_drop] at this;omega
   rw [if_neg h1] at h ⊢;by_cases h4:c=13
   ·rw [if_pos h4] at h ⊢;split at h
    ·cases h
    ·next hx =>
     rw [if_neg hx];split at h
     ·next h5 =>
      rw [if_pos h5];have:=ih (l.drop 1) _ _ _ (by rw [List.length_drop];omega) h;rw [List.length_drop] at this;cases l with
      |nil=>simp at h5
      |cons d l=>simp only [List.length_cons] at this ⊢;omega
     ·next h5 =>
      rw [if_neg h5];have:=ih l _ _ _ hl h;omega
   rw [if_neg h4] at h ⊢;by_cases h6:c=40
   ·rw [if_pos h6] at h ⊢;have:=ih l _ _ _ hl h;omega
   rw [if_neg h6] at h ⊢;by_cases h7:c=41
   ·rw [if_pos h7] at h ⊢;by_cases h8:deep=1
    ·rw [if_pos h8];simp only [];omega
    ·rw [if_neg h8] at h ⊢;have:=ih l _ _ _ hl h;omega
   rw [if_neg h7] at h ⊢;have:=ih l _ _ _ hl h;omega
def z42:List Nat->List Nat
 |[]=>[]
 |[a]=>[16*a]
 |a::b::l=>(16*a+b)::z42 l
def z2l (last:Bool) (ds:List Nat) (p:Nat):List Nat->Int × List Nat × Nat
 |[]=>(y3j last,[],0)
 |c::l =>
  if c=62 then(0,z42 ds,p+1)
  else if z5u c then z2l last ds (p+1) l
  else match z3q c with
   |none=>(11,[],0)
   |some d=>z2l last (ds++[d]) (p+1) l
theorem v52 (last:Bool):∀ (l ds:List Nat) (p:Nat),(z2l last ds p l).1=0->p<(z2l last ds p l).2.2/\(z2l last ds p l).2.2<=p+l.length:=by
 intro l;induction l with
 |nil=>intro ds p h;cases last<;>cases h
 |cons c l ih =>
  intro ds p h;simp only [List.length_cons];simp only [z2l] at h ⊢;by_cases h1:c=62
  ·rw [if_pos h1];simp only [];omega
  rw [if_neg h1] at h ⊢;by_cases h2:z5u c=true
  ·rw [if_pos h2] at h ⊢;have:=ih _ _ h;omega
  rw [if_neg h2] at h ⊢;cases h3:z3q c with
  |none=>rw [h3] at h;cases h
  |some d=>rw [h3] at h;simp only [] at h ⊢;have:=ih _ _ h;omega
def nameF:List Nat->Option (List Nat)
 |[]=>some []
 |c::l =>
  if c≠35 then(nameF l).map (c::·)
  else match l with
   |x::y::m=>match z3q x,z3q y with
    |some a,some b=>(nameF m).map ((16*a+b)::·)
    |_,_=>none
   |_=>none
def z5l (w:List Nat):Int × List Nat :=
 match nameF w with
 |none=>(17,[])
 |some o=>if 0∈o\/127<o.length then(17,[]) else(0,o)
structure Tkn where
 kind:Nat
 from_:Nat
 «to»:Nat
 vk:Nat
 vn:Int
 vs:List Nat
 s:List Nat
def noT (p:Nat):Tkn:=⟨0,p,p,0,0,[],[]⟩
def y6y (c:Nat):Bool:=(decide (48<=c)&&decide (c<=57)) || c==43 || c==45 || c==46
def z2t (last:Bool) (p c:Nat) (l:List Nat):Int × Tkn :=
 if c=91 then(0,⟨2,p,p+1,0,0,[],[]⟩)
 else if c=93 then(0,⟨3,p,p+1,0,0,[],[]⟩)
 else if c=60/\l.head?=some 60 then(0,⟨4,p,p+2,0,0,[],[]⟩)
 else if c=62/\l.head?=some 62 then(0,⟨5,p,p+2,0,0,[],[]⟩)
 else if c=62/\l=[]/\last=false then(6,noT p)
 else if c=60 then
  if (z2l last [] (p+1) l).1≠0 then((z2l last [] (p+1) l).1,noT p) else(0,⟨1,p,(z2l last [] (p+1) l).2.2,4,0,(z2l last [] (p+1) l).2.1,[]⟩)
 else if c=40 then
  if (z13 last 1 [] (p+1) l).1≠0 then((z13 last 1 [] (p+1) l).1,noT p) else(0,⟨1,p,(z13 last 1 [] (p+1) l).2.2,4,0,(z13 last 1 [] (p+1) l).2.1,[]⟩)
 else if c=47 then
  if rgs l=l.length/\last=false then(6,noT p)
  else if (z5l (l.take (rgs l))).1≠0 then((z5l (l.take (rgs l))).1,noT p) else(0,⟨1,p,p+1+rgs l,5,0,(z5l (l.take (rgs l))).2,[]⟩)
 else if z6b c then(11,noT p)
 else if rgs l=l.length/\last=false then(6,noT p)
 else if y6y c then
  if (z0o ((c::l).take (rgs l+1))).1≠0 then((z0o ((c::l).take (rgs l+1))).1,noT p) else(0,⟨1,p,p+1+rgs l,(z0o ((c::l).take (rgs l+1))).2.1,(z0o ((c::l).take (rgs l+1))).2.2,[],[]⟩)
 else(0,⟨6,p,p+1+rgs l,0,0,[],(c::l).take (rgs l+1)⟩)
def z0i (b:List Nat) (pos:Nat) (last:Bool):Int × Tkn :=
 match b.drop (pos+skp false (b.drop pos)) with
 |[]=>(if last then 0 else 6,noT (pos+skp false (b.drop pos)))
 |c::l=>z2t last (pos+skp false (b.drop pos)) c l
theorem v3e (last:Bool) (p:Nat) (l:List Nat) (h:l.head?≠some 60):z2t last p 60 l =
  if (z2l last [] (p+1) l).1≠0 then((z2l last [] (p+1) l).1,noT p) else(0,⟨1,p,(z2l last [] (p+1) l).2.2,4,0,(z2l last [] (p+1) l).2.1,[]⟩):=by
 unfold z2t;rw [if_neg (show ¬60=91 by decide),if_neg (show ¬60=93 by decide),if_neg (show ¬(60=60/\l.head?=some 60) from fun e=>h e.2),if_neg (show ¬(60=62/\l.head?=some 62) from fun e=>absurd e.1 (by decide)),if_neg (show ¬(60=62/\l=[]/\last=false) from fun e=>absurd e.1 (by decide)),if_pos (show 60=60 from rfl)]
theorem y18 (last:Bool) (p c:Nat) (l:List Nat):((z2t last p c l).1≠0/\(z2t last p c l).2=noT p)\/((z2t last p c l).1=0/\(z2t last p c l).2.kind≠0/\(z2t last p c l).2.from_=p/\p<(z2t last p c l).2.to/\(z2t last p c l).2.to<=p+1+l.length):=by
 have hrl:=y5s l;unfold z2t;by_cases h1:c=91
 ·rw [if_pos h1];exact .inr ⟨rfl,by simp,rfl,by simp only [];omega,by simp only [];omega⟩
 rw [if_neg h1];by_cases h2:c=93
 ·rw [if_pos h2];exact .inr ⟨rfl,by simp,rfl,by simp only [];omega,by simp only [];omega⟩
 rw [if_neg h2];by_cases h3:c=60/\l.head?=some 60
 ·rw [if_pos h3];cases l with
  |nil=>simp at h3
  |cons d l=>exact .inr ⟨rfl,by simp,rfl,by simp only [];omega,by simp only [List.length_cons];omega⟩
 rw [if_neg h3];by_cases h4:c=62/\l.head?=some 62
 ·rw [if_pos h4];cases l with
  |nil=>simp at h4
  |cons d l=>exact .inr ⟨rfl,by simp,rfl,by simp only [];omega,by simp only [List.length_cons];omega⟩
 rw [if_neg h4];by_cases h5:c=62/\l=[]/\last=false
 ·rw [if_pos h5];exact .inl ⟨by simp,rfl⟩
 rw [if_neg h5];by_cases h6:c=60
 ·rw [if_pos h6];by_cases h9:(z2l last [] (p+1) l).1≠0
  ·rw [if_pos h9];exact .inl ⟨h9,rfl⟩
  ·rw [if_neg h9];have:=v52 last l [] (p+1) (Decidable.not_not.1 h9);exact .inr ⟨rfl,by simp,rfl,by simp only [];omega,by simp only [];omega⟩
 rw [if_neg h6];by_cases h7:c=40
 ·rw [if_pos h7];by_cases h9:(z13 last 1 [] (p+1) l).1≠0
  ·rw [if_pos h9];exact .inl ⟨h9,rfl⟩
  ·rw [if_neg h9];have:=v36 last _ l 1 [] (p+1) (Nat.le_refl _) (Decidable.not_not.1 h9);exact .inr ⟨rfl,by simp,rfl,by simp only [];omega,by simp only [];omega⟩
 rw [if_neg h7];by_cases h8:c=47
 ·rw [if_pos h8];split
  ·exact .inl ⟨by simp,rfl⟩
  ·split
   ·next h9=>exact .inl ⟨h9,rfl⟩
   ·exact .inr ⟨rfl,by simp,rfl,by simp only [];omega,by simp only [];omega⟩
 rw [if_neg h8];split
 ·exact .inl ⟨by simp,rfl⟩
 ·split
  ·exact .inl ⟨by simp,rfl⟩
  ·split
   ·split
    ·next h9=>exact .inl ⟨h9,rfl⟩
    ·exact .inr ⟨rfl,by simp,rfl,by simp only [];omega,by simp only [];omega⟩
   ·exact .inr ⟨rfl,by simp,rfl,by simp only [];omega,by simp only [];omega⟩
theorem y1m (b:List Nat) (pos:Nat) (last:Bool) (hp:pos<=b.length) :
  (∃ p,pos<=p/\p<=b.length/\(z0i b pos last).2=noT p/\((z0i b pos last).1=0->last=true/\p=b.length)) \/
  ((z0i b pos last).1=0/\(z0i b pos last).2.kind≠0/\pos<=(z0i b pos last).2.from_/\(z0i b pos last).2.from_<(z0i b pos last).2.to/\(z0i b pos last).2.to<=b.length/\z0i b (z0i b pos last).2.from_ last=z0i b pos last):=by
 have hs:=v2e (b.drop pos) false;rw [List.length_drop] at hs;cases hc:b.drop (pos+skp false (b.drop pos)) with
 |nil =>
  have hl:=congrArg List.length hc;rw [List.length_drop,List.length_nil] at hl;have e:z0i b pos last=(if last then 0 else 6,noT (pos+skp false (b.drop pos))):=by unfold z0i;rw [hc]
  rw [e];refine .inl ⟨pos+skp false (b.drop pos),by omega,by omega,rfl,fun h=>?_⟩;cases last
  ·cases h
  ·exact⟨rfl,by omega⟩
 |cons c l =>
  have hl:=congrArg List.length hc;rw [List.length_drop,List.length_cons] at hl;have e:z0i b pos last=z2t last (pos+skp false (b.drop pos)) c l:=by unfold z0i;rw [hc]
  rw [e];rcases y18 last (pos+skp false (b.drop pos)) c l with⟨h1,h2⟩|⟨h1,h2,h3,h4,h5⟩
  ·exact .inl ⟨pos+skp false (b.drop pos),by omega,by omega,h2,fun h=>absurd h h1⟩
  ·refine .inr ⟨h1,h2,by rw [h3];omega,by rw [h3];exact h4,by omega,?_⟩;rw [h3];obtain⟨c',m,hd,hsp,h37⟩:=y2j (b.drop pos) false (by rw [List.length_drop];omega);rw [List.drop_drop,hc] at hd;cases hd
   have h0:skp false (b.drop (pos+skp false (b.drop pos)))=0:=by
    rw [hc];simp only [skp];rw [if_neg (by rw [hsp];decide),if_neg h37]
   unfold z0i;rw [h0,Nat.add_zero,hc]
open Go.RowKit
def z09 (bs:List Nat):List Value:=bs.map fun b=>.int .u8 (b:Nat)
theorem z4s {bs:List Nat} {k x:Nat} (h:bs[k]?=some x):(z09 bs)[k]?=some (.int .u8 (x:Nat)):=by simp [z09,h]
theorem z3p (a b:List Nat):z09 (a++b)=z09 a++z09 b:=by simp [z09]
theorem z83 (a:List Nat):(z09 a).length=a.length:=by simp [z09]
theorem z1f {bs:List Nat} {k:Nat} (h:k<bs.length):∃ x,bs[k]?=some x/\bs.drop k=x::bs.drop (k+1) :=
 ⟨bs[k],List.getElem?_eq_getElem h,List.drop_eq_getElem_cons h⟩
theorem z7f {w w':World} {A:Option Addr} {n c:Nat} {bs:List Nat} (h:Src w 1 A n c (z09 bs)) (hc:Chg NoS w w') (hk:0<bs.length) :
  ∃ b off,A=some ⟨b,off,none⟩/\∀ j x,bs[j]?=some x->w'.cell? ⟨b,off+j,none⟩=some (.int .u8 (x:Nat)):=by
 obtain⟨b,off,rfl,hcell⟩:=h.plain (by rw [z83];omega);refine⟨b,off,rfl,fun j x hj=>?_⟩;have e0:=hcell j (.int .u8 (x:Nat)) (z4s hj);exact(hc.cell (p:=⟨b,_,none⟩) (by exact z05 e0) (fun h=>h)).trans e0
theorem y1b {a b:Int} (h:a=b):Ending.returned (.int .i64 a)=.returned (.int .i64 b):=by rw [h]
theorem z6d:(Tryz.prog.info? 5).map (fun i=>(i.zero,i.size,i.bytes))=some (some (.int .u8 0),1,1):=by kernel_rfl
theorem z2z {o:Option TypeInfo} {z:Value} {a b:Nat} (h:o.map (fun i=>(i.zero,i.size,i.bytes))=some (some z,a,b)):∃ i,o=some i/\i.zero=some z/\i.size=a/\i.bytes=b:=by
 rcases o with _|i
 ·cases h
 ·simp at h;exact⟨i,rfl,h.1,h.2.1,h.2.2⟩
theorem z9q (bs:List Nat):strOfNums (bs.map fun b:Nat=>(b:Int))=sb bs:=by
 unfold strOfNums sb;rw [List.map_map];congr 2
theorem z74 {w:World} {A:Option Addr} {n c:Nat} {bs:List Nat} (h:Src w 1 A n c (z09 bs)) :
  (convert 37 9 (.slice A n c)).run Tryz.prog w=.ok (.string (sb bs)) w:=by
 have hlen:bs.length=n:=by
  have:=h.1;simpa [z09] using this
 rw [<- z9q];rcases Nat.eq_zero_or_pos n with h0|h0
 ·subst h0;have hb:bs=[]:=List.eq_nil_of_length_eq_zero hlen;subst hb;rcases A with _|a
  ·have:=(h.2.1 rfl).2;subst this;exact run_convert_bytes_nil w 37 5 Tryz.underlying37 Tryz.underlying5 _ _ 9 Tryz.underlying9
  ·have hl:(loadCells a 0).run Tryz.prog w=.ok #[] w:=by simpa using run_loadCells_list (P:=Tryz.prog) w a [] (fun j v hj=>by simp at hj)
   rw [run_convert_bytes_string w 37 9 5 _ 0 c Tryz.underlying37 Tryz.underlying5 Tryz.underlying9];simp [Conv.bytesToString,hl,Result.andThen];rfl
 ·obtain⟨b,off,rfl,hcell⟩:=h.plain (by rw [z83];omega);refine run_convert_bytes_arg w 37 5 Tryz.underlying37 Tryz.underlying5 b off n c (bs.map fun b:Nat=>(b:Int)) (by simpa using hlen) (fun i hi=>?_) 9 Tryz.underlying9;have hc:=hcell i (.int .u8 (bs.getD i 0:Nat)) (z4s (by rw [List.getD_eq_getElem?_getD,List.getElem?_eq_getElem (by omega)];rfl));rw [hc];simp [hlen,hi]
theorem v4t {c:Nat} (h0:c≠0) (h1:c≠9) (h2:c≠10) (h3:c≠12) (h4:c≠13) (h5:c≠32):z5u c=false:=by simp [z5u,h0,h1,h2,h3,h4,h5]
theorem v4u {c:Nat} (h0:c≠40) (h1:c≠41) (h2:c≠60) (h3:c≠62) (h4:c≠91) (h5:c≠93) (h6:c≠123) (h7:c≠125) (h8:c≠47) (h9:c≠37):z6b c=false:=by simp [z6b,h0,h1,h2,h3,h4,h5,h6,h7,h8,h9]
def y43 (bs:List Nat) (p:Int):Nat:=if p<0 then 0 else if p<=bs.length then p.toNat+skp false (bs.drop p.toNat) else bs.length
theorem v6r {c:Nat} (l:List Nat) (h:z5u c=true):skp false (c::l)=skp false l+1:=by rw [skp,if_pos h]
theorem v6u (l:List Nat):skp false (37::l)=skp true (37::l):=by simp [skp,z5u]
theorem v6s {c:Nat} (l:List Nat) (h:z5u c=false) (h2:c≠37):skp false (c::l)=0:=by rw [skp,if_neg (by rw [h];decide),if_neg h2]
theorem v3l {c:Nat} (l:List Nat) (h1:c≠10) (h2:c≠13):skp true (c::l)=skp true l+1:=by
 have e:(!(c==10 || c==13))=true:=by simp [h1,h2]
 rw [skp,e]
theorem v3k {c:Nat} (l:List Nat) (h:c=10\/c=13):skp true (c::l)=skp false (c::l):=by
 rcases h with rfl|rfl<;>simp [skp,z5u]
def KB (R:Nat) (V W:World):Prop:=∀ g T cs,g≠R->T≠5->Blk V g T cs->Blk W g T cs
theorem KB.refl (R:Nat) (V:World):KB R V V:=fun _ _ _ _ _ h=>h
theorem KB.trans {R:Nat} {V W X:World} (h:KB R V W) (k:KB R W X):KB R V X:=fun g T cs a b c=>k g T cs a b (h g T cs a b c)
theorem KB.chg {R:Nat} {V W:World} (h:Chg NoS V W):KB R V W:=fun _ _ _ _ _ c=>c.chg h (fun h=>h)
theorem KB.set {R:Nat} {V W:World} (h:KB R V W) (i:Nat) (u:Value):KB R V (W.setCell ⟨R,i,none⟩ u):=fun g T cs a b c=>(h g T cs a b c).far (p:=⟨R,i,none⟩) a u
theorem KB.grown {R:Nat} {V W W':World} {base:Nat} {v:Value} {m:Nat} {xs:List Value} (h:KB R V W) (ho:W.ownsRow base 5 1 v m xs) (hg:W.grownBy W' v.ownBlock):KB R V W' :=
 fun g T cs a b c=>(h g T cs a b c).grown hg (z1o ho (h g T cs a b c) (Ne.symm b)).symm
def rcl (q:Value) (A2:Option Addr) (n2 c2:Nat) (A:Option Addr) (n c p:Nat) (last:Bool):Array Value :=
 #[q,.slice A2 n2 c2,.slice A n c,.int .i64 (p:Nat),.bool last]
structure RDx (V w W:World) (A:Option Addr) (n c:Nat) (last:Bool) (R p:Nat) (out:List Nat) (q:Value) (A2:Option Addr) (c2:Nat):Prop where
 blk:Blk W R 146 (rcl q A2 out.length c2 A n c p last)
 used:q=.pointer none\/q=.pointer (some ⟨R,0,none⟩)
 own:W.ownsRow w.heap.size 5 1 (.slice A2 out.length c2) out.length (z09 out)
 chg:Chg NoS w W
 new:w.heap.size<=R
 kb:KB R V W
def RD (V w W:World) (A:Option Addr) (n c:Nat) (last:Bool) (R p:Nat) (out:List Nat):Prop:=∃ q A2 c2,RDx V w W A n c last R p out q A2 c2
section
variable {V w W W':World} {A A2:Option Addr} {n c R p c2:Nat} {last:Bool} {out:List Nat} {q:Value}
theorem RDx.cells (h:RDx V w W A n c last R p out q A2 c2):W.cell? ⟨R,0,none⟩=some q/\W.cell? ⟨R,1,none⟩=some (.slice A2 out.length c2)/\W.cell? ⟨R,2,none⟩=some (.slice A n c)/\W.cell? ⟨R,3,none⟩=some (.int .i64 (p:Nat))/\W.cell? ⟨R,4,none⟩=some (.bool last):=by
 refine⟨?_,?_,?_,?_,?_⟩<;>(rw [h.blk.cell];rfl)
theorem RDx.frozen (h:RDx V w W A n c last R p out q A2 c2) (i:Nat):W.frozen? ⟨R,i,none⟩=false:=h.blk.frozen i
theorem RDx.shape (h:RDx V w W A n c last R p out q A2 c2):W.shape? R=some (146,5):=by
 have h':W.heap[R]?=some (.cells (rcl q A2 out.length c2 A n c p last) 146 (0,0)):=h.blk;simp [World.shape?,h',rcl]
theorem RDx.neq (h:RDx V w W A n c last R p out q A2 c2):(Value.slice A2 out.length c2).ownBlock≠some R:=z1o h.own h.blk (by decide)
theorem z4n {g:Nat} {u:Value} {i base:Nat} {e:TypeId} {v:Value} {m:Nat} {xs:List Value} (h:W.ownsRow base e 1 v m xs) (hne:v.ownBlock≠some g):(W.setCell ⟨g,i,none⟩ u).ownsRow base e 1 v m xs :=
 z0p (S:=fun k=>k=g) h ((Chg.refl (fun k=>k=g) W).setCell (p:=⟨g,i,none⟩) (fun _=>rfl) u) (fun k hk e=>hne (by rw [hk,e]))
theorem RDx.at_ (h:RDx V w W A n c last R p out q A2 c2) (p':Nat):RDx V w (W.setCell ⟨R,3,none⟩ (.int .i64 (p':Nat))) A n c last R p' out q A2 c2 :=
 ⟨h.blk.set_ 3 _,h.used,z4n h.own h.neq,h.chg.setCell (p:=⟨R,3,none⟩) (fun e=>absurd e (Nat.not_lt.2 h.new)) _,h.new,h.kb.set _ _⟩
theorem RDx.use (h:RDx V w W A n c last R p out q A2 c2):RDx V w (W.setCell ⟨R,0,none⟩ (.pointer (some ⟨R,0,none⟩))) A n c last R p out (.pointer (some ⟨R,0,none⟩)) A2 c2 :=
 ⟨h.blk.set_ 0 _,.inr rfl,z4n h.own h.neq,h.chg.setCell (p:=⟨R,0,none⟩) (fun e=>absurd e (Nat.not_lt.2 h.new)) _,h.new,h.kb.set _ _⟩
theorem RDx.call (h:RDx V w W A n c last R p out q A2 c2) (hc:Chg NoS W W'):RDx V w W' A n c last R p out q A2 c2 :=
 ⟨h.blk.chg hc (fun h=>h),h.used,z0p (S:=NoS) h.own hc (fun _ _ e=>e),h.chg.trans hc (fun _ _ e=>e),h.new,h.kb.trans (KB.chg hc)⟩
theorem RDx.drew (h:RDx V w W A n c last R p out q A2 c2):RDx V w W.drew A n c last R p out q A2 c2:=h.call ((Chg.refl _ _).drew)
theorem RDx.alloc (h:RDx V w W A n c last R p out q A2 c2) (o:Obj):RDx V w (W.alloc o) A n c last R p out q A2 c2:=h.call ((Chg.refl _ _).alloc o)
theorem RDx.grow {A3:Option Addr} {c3:Nat} {out':List Nat} (h:RDx V w W A n c last R p out q A2 c2) (hg:W.grownBy W' (Value.slice A2 out.length c2).ownBlock)
  (ho:W'.ownsRow w.heap.size 5 1 (.slice A3 out'.length c3) out'.length (z09 out')):RDx V w (W'.setCell ⟨R,1,none⟩ (.slice A3 out'.length c3)) A n c last R p out' q A3 c3:=by
 have hb:Blk W' R 146 (rcl q A2 out.length c2 A n c p last):=h.blk.grown hg h.neq.symm;have hne:(Value.slice A3 out'.length c3).ownBlock≠some R:=z1o ho hb (by decide);refine⟨hb.set_ 1 _,h.used,z4n ho hne,?_,h.new,(h.kb.grown h.own hg).set _ _⟩;exact(h.chg.grown hg (fun k hk e=>absurd e (Nat.not_lt.2 (h.own.lt k hk).1))).setCell (p:=⟨R,1,none⟩) (fun e=>absurd e (Nat.not_lt.2 h.new)) _
theorem RDx.at_cells (h:RDx V w W A n c last R p out q A2 c2) (hg:W.grownBy W' (Value.slice A2 out.length c2).ownBlock):W'.cell? ⟨R,0,none⟩=some q/\W'.cell? ⟨R,1,none⟩=some (.slice A2 out.length c2)/\W'.frozen? ⟨R,1,none⟩=false:=by
 have hb:Blk W' R 146 (rcl q A2 out.length c2 A n c p last):=h.blk.grown hg h.neq.symm;exact⟨by rw [hb.cell];rfl,by rw [hb.cell];rfl,hb.frozen 1⟩
theorem RDx.rd (h:RDx V w W A n c last R p out q A2 c2):RD V w W A n c last R p out:=⟨_,_,_,h⟩
theorem RD.chg (h:RD V w W A n c last R p out):Chg NoS w W:=by
 obtain⟨_,_,_,h⟩:=h;exact h.chg
theorem RD.new (h:RD V w W A n c last R p out):w.heap.size<=R:=by
 obtain⟨_,_,_,h⟩:=h;exact h.new
theorem RD.call (h:RD V w W A n c last R p out) (hc:Chg NoS W W'):RD V w W' A n c last R p out:=by
 obtain⟨_,_,_,h⟩:=h;exact⟨_,_,_,h.call hc⟩
theorem RD.drewN (h:RD V w W A n c last R p out) (k:Nat):RD V w (W.drewN k) A n c last R p out:=h.call ((Chg.refl _ _).drewN k)
theorem RD.alloc (h:RD V w W A n c last R p out) (o:Obj):RD V w (W.alloc o) A n c last R p out:=h.call ((Chg.refl _ _).alloc o)
theorem RD.at_ (h:RD V w W A n c last R p out) (p':Nat):RD V w (W.setCell ⟨R,3,none⟩ (.int .i64 (p':Nat))) A n c last R p' out:=by
 obtain⟨_,_,_,h⟩:=h;exact⟨_,_,_,h.at_ p'⟩
theorem RD.cells (h:RD V w W A n c last R p out):W.cell? ⟨R,2,none⟩=some (.slice A n c)/\W.cell? ⟨R,3,none⟩=some (.int .i64 (p:Nat))/\W.cell? ⟨R,4,none⟩=some (.bool last)/\W.frozen? ⟨R,3,none⟩=false:=by
 obtain⟨_,_,_,h⟩:=h;exact⟨h.cells.2.2.1,h.cells.2.2.2.1,h.cells.2.2.2.2,h.frozen 3⟩
theorem RD.kb (h:RD V w W A n c last R p out):KB R V W:=by
 obtain⟨_,_,_,h⟩:=h;exact h.kb
theorem RD.base {V':World} (h:RD V w W A n c last R p out) (k:KB R V' W):RD V' w W A n c last R p out:=by
 obtain⟨_,_,_,h⟩:=h;exact⟨_,_,_,h.blk,h.used,h.own,h.chg,h.new,k⟩
theorem RD.here (h:RD V w W A n c last R p out):RD W w W A n c last R p out:=h.base (KB.refl _ _)
theorem RD.lt (h:RD V w W A n c last R p out):R<W.heap.size:=by
 obtain⟨_,_,_,h⟩:=h;exact h.blk.lt
end
structure RE (V w W:World) (R p:Nat):Prop where
 cell:W.cell? ⟨R,3,none⟩=some (.int .i64 (p:Nat))
 chg:Chg NoS w W
 kb:KB R V W
theorem RD.re {V w W:World} {A:Option Addr} {n c R p:Nat} {last:Bool} {out:List Nat} (h:RD V w W A n c last R p out):RE V w W R p:=⟨h.cells.2.1,h.chg,h.kb⟩
theorem RE.call {V w W W':World} {R p:Nat} (h:RE V w W R p) (hc:Chg NoS W W'):RE V w W' R p :=
 ⟨(hc.cell (p:=⟨R,3,none⟩) (z05 h.cell) (fun h=>h)).trans h.cell,h.chg.trans hc (fun _ _ e=>e),h.kb.trans (KB.chg hc)⟩
theorem RE.back {V V' w W:World} {R p:Nat} (h:RE V w W R p) (k:KB R V' V):RE V' w W R p:=⟨h.cell,h.chg,k.trans h.kb⟩
theorem Chg.freeze {w W:World} (h:Chg NoS w W) {g:Nat} (hg:w.heap.size<=g) (n:Nat):Chg NoS w (W.freeze ⟨g,0,none⟩ n):=by
 have hb:=Lib.below_freeze (B:=w.heap.size) h.no_below (p:=⟨g,0,none⟩) hg n;exact Chg.of_below hb
theorem y1v {W:World} {g R i:Nat} (hne:R≠g) (n:Nat):(W.freeze ⟨g,0,none⟩ n).cell? ⟨R,i,none⟩=W.cell? ⟨R,i,none⟩:=by
 unfold World.freeze;split
 ·rfl
 ·simp only [World.cell?];rw [Array.getElem?_modify,if_neg (fun e=>hne e.symm)]
theorem KB.far {R g:Nat} {V W:World} (h:KB R V W) (hg:V.heap.size<=g) (i:Nat) (u:Value):KB R V (W.setCell ⟨g,i,none⟩ u) :=
 fun k T cs a b c=>(h k T cs a b c).far (p:=⟨g,i,none⟩) (Nat.ne_of_lt (Nat.lt_of_lt_of_le c.lt hg)) u
theorem RE.far {V w W:World} {R p g:Nat} (h:RE V w W R p) (hR:g≠R) (hV:V.heap.size<=g) (hw:w.heap.size<=g) (i:Nat) (u:Value):RE V w (W.setCell ⟨g,i,none⟩ u) R p:=by
 refine⟨?_,h.chg.setCell (p:=⟨g,i,none⟩) (fun e=>absurd e (Nat.not_lt.2 hw)) u,h.kb.far hV i u⟩;have e:(W.setCell ⟨g,i,none⟩ u).heap[R]?=W.heap[R]?:=Below.heap_setCell W ⟨g,i,none⟩ u R (fun e=>hR e.symm);exact(World.cell?_of_block (a:=⟨R,3,none⟩) e).trans h.cell
theorem RE.set4 {V w W:World} {R p g:Nat} (h:RE V w W R p) (hR:g≠R) (hV:V.heap.size<=g) (hw:w.heap.size<=g) (a b c d:Value) :
  RE V w ((((W.setCell ⟨g,0,none⟩ a).setCell ⟨g,1,none⟩ b).setCell ⟨g,2,none⟩ c).setCell ⟨g,3,none⟩ d) R p :=
 (((h.far hR hV hw 0 a).far hR hV hw 1 b).far hR hV hw 2 c).far hR hV hw 3 d
theorem RE.set8 {V w W:World} {R p g:Nat} (h:RE V w W R p) (hR:g≠R) (hV:V.heap.size<=g) (hw:w.heap.size<=g) (a0 a1 a2 a3 a4 a5 a6 a7:Value) :
  RE V w ((((((((W.setCell ⟨g,0,none⟩ a0).setCell ⟨g,1,none⟩ a1).setCell ⟨g,2,none⟩ a2).setCell ⟨g,3,none⟩ a3).setCell ⟨g,4,none⟩ a4).setCell ⟨g,5,none⟩ a5).setCell ⟨g,6,none⟩ a6).setCell ⟨g,7,none⟩ a7) R p :=
 (((((((h.far hR hV hw 0 a0).far hR hV hw 1 a1).far hR hV hw 2 a2).far hR hV hw 3 a3).far hR hV hw 4 a4).far hR hV hw 5 a5).far hR hV hw 6 a6).far hR hV hw 7 a7
structure Cl4 (W:World) (g:Nat) (T:TypeId) (a b c d:Value):Prop where
 c0:W.cell? ⟨g,0,none⟩=some a
 c1:W.cell? ⟨g,1,none⟩=some b
 c2:W.cell? ⟨g,2,none⟩=some c
 c3:W.cell? ⟨g,3,none⟩=some d
 f0:W.frozen? ⟨g,0,none⟩=false
 f1:W.frozen? ⟨g,1,none⟩=false
 f2:W.frozen? ⟨g,2,none⟩=false
 f3:W.frozen? ⟨g,3,none⟩=false
theorem Blk.cl4 {W:World} {g:Nat} {T:TypeId} {a b c d:Value} (h:Blk W g T #[a,b,c,d]):Cl4 W g T a b c d :=
 ⟨(h.cell 0).trans rfl,(h.cell 1).trans rfl,(h.cell 2).trans rfl,(h.cell 3).trans rfl,h.frozen 0,h.frozen 1,h.frozen 2,h.frozen 3⟩
structure Cl8 (W:World) (g:Nat) (T:TypeId) (a0 a1 a2 a3 a4 a5 a6 a7:Value):Prop where
 c0:W.cell? ⟨g,0,none⟩=some a0
 c1:W.cell? ⟨g,1,none⟩=some a1
 c2:W.cell? ⟨g,2,none⟩=some a2
 c3:W.cell? ⟨g,3,none⟩=some a3
 c4:W.cell? ⟨g,4,none⟩=some a4
 c5:W.cell? ⟨g,5,none⟩=some a5
 c6:W.cell? ⟨g,6,none⟩=some a6
 c7:W.cell? ⟨g,7,none⟩=some a7
 f0:W.frozen? ⟨g,0,none⟩=false
 f1:W.frozen? ⟨g,1,none⟩=false
 f2:W.frozen? ⟨g,2,none⟩=false
 f3:W.frozen? ⟨g,3,none⟩=false
 f4:W.frozen? ⟨g,4,none⟩=false
 f5:W.frozen? ⟨g,5,none⟩=false
 f6:W.frozen? ⟨g,6,none⟩=false
 f7:W.frozen? ⟨g,7,none⟩=false
theorem Blk.cl8 {W:World} {g:Nat} {T:TypeId} {a0 a1 a2 a3 a4 a5 a6 a7:Value} (h:Blk W g T #[a0,a1,a2,a3,a4,a5,a6,a7]):Cl8 W g T a0 a1 a2 a3 a4 a5 a6 a7 :=
 ⟨(h.cell 0).trans rfl,(h.cell 1).trans rfl,(h.cell 2).trans rfl,(h.cell 3).trans rfl,(h.cell 4).trans rfl,(h.cell 5).trans rfl,(h.cell 6).trans rfl,(h.cell 7).trans rfl,h.frozen 0,h.frozen 1,h.frozen 2,h.frozen 3,h.frozen 4,h.frozen 5,h.frozen 6,h.frozen 7⟩
theorem KB.freeze {R:Nat} {V W:World} (h:KB R V W) {g:Nat} {cs:Array Value} {fz:Nat × Nat} (hg:W.heap[g]?=some (.cells cs 5 fz)) (n:Nat):KB R V (W.freeze ⟨g,0,none⟩ n):=by
 intro k T cs' a b c;have h1:=h k T cs' a b c
 have hne:g≠k:=by
  rintro rfl;have h2:W.heap[g]?=some (.cells cs' T (0,0)):=h1;rw [hg] at h2;simp only [Option.some.injEq,Obj.cells.injEq] at h2;exact b h2.2.1.symm
 have h2:W.heap[k]?=some (.cells cs' T (0,0)):=h1;unfold World.freeze;split
 ·exact h1
 ·show(W.heap.modify g _)[k]?=_;rw [Array.getElem?_modify,if_neg hne];exact h2
theorem z5b (c:Nat) (w:World):Calls Tryz.prog 129 #[.int .u8 (c:Nat)] w fun e w'=>e=.returned (.bool (z5u c))/\w=w':=by
 by_cases h:c=0\/c=9\/c=10\/c=12\/c=13\/c=32
 ·rcases h with rfl|rfl|rfl|rfl|rfl|rfl
  all_goals
   go_enter Tryz.func129,Tryz.ntmps129;go_wp2_with fail;go_ret;exact⟨rfl,rfl⟩
 ·have HS:=kf (v4t (c:=c) (by omega) (by omega) (by omega) (by omega) (by omega) (by omega));have e0:((c:Int)==0)=false:=by simp;omega
  have e1:((c:Int)==9)=false:=by simp;omega
  have e2:((c:Int)==10)=false:=by simp;omega
  have e3:((c:Int)==12)=false:=by simp;omega
  have e4:((c:Int)==13)=false:=by simp;omega
  have e5:((c:Int)==32)=false:=by simp;omega
  clear h;go_enter Tryz.func129,Tryz.ntmps129;go_wp2_with fail;go_ret;exact⟨by rw [HS.out];rfl,rfl⟩
theorem z7y (c:Nat) (w:World):Calls Tryz.prog 157 #[.int .u8 (c:Nat)] w fun e w'=>e=.returned (.bool (z6b c))/\w=w':=by
 by_cases h:c=40\/c=41\/c=60\/c=62\/c=91\/c=93\/c=123\/c=125\/c=47\/c=37
 ·rcases h with rfl|rfl|rfl|rfl|rfl|rfl|rfl|rfl|rfl|rfl
  all_goals
   go_enter Tryz.func157,Tryz.ntmps157;go_wp2_with fail;go_ret;exact⟨rfl,rfl⟩
 ·have HS:=kf (v4u (c:=c) (by omega) (by omega) (by omega) (by omega) (by omega) (by omega) (by omega) (by omega) (by omega) (by omega));have e0:((c:Int)==40)=false:=by simp;omega
  have e1:((c:Int)==41)=false:=by simp;omega
  have e2:((c:Int)==60)=false:=by simp;omega
  have e3:((c:Int)==62)=false:=by simp;omega
  have e4:((c:Int)==91)=false:=by simp;omega
  have e5:((c:Int)==93)=false:=by simp;omega
  have e6:((c:Int)==123)=false:=by simp;omega
  have e7:((c:Int)==125)=false:=by simp;omega
  have e8:((c:Int)==47)=false:=by simp;omega
  have e9:((c:Int)==37)=false:=by simp;omega
  clear h;go_enter Tryz.func157,Tryz.ntmps157;go_wp2_with fail;go_ret;exact⟨by rw [HS.out];rfl,rfl⟩
def z30 (c:Nat):Nat:=(z3q c).getD 0
theorem z6x (c:Nat):z30 c<16:=by
 unfold z30;cases h:z3q c with
 |none=>decide
 |some d=>exact y1s h
theorem z5c (c:Nat) (hc:c<256) (w:World):Calls Tryz.prog 169 #[.int .u8 (c:Nat)] w fun e w'=>e=.returned (.tuple #[.int .u8 (z30 c:Nat),.bool (z3q c).isSome])/\w=w':=by
 by_cases h1:48<=c/\c<=57
 ·have HE:=kf (show z3q c=some (c-48) from by unfold z3q;rw [if_pos h1]);have HV:=kf (show(z30 c:Int)=(c:Int)-48 from by unfold z30;rw [HE.out];simp only [Option.getD_some];omega);obtain⟨a,b⟩:=h1;have d1:IntKind.u8.wrap ((c:Int)-48)=(c:Int)-48:=by rw [IntKind.wrap_u8];omega
  go_enter Tryz.func169,Tryz.ntmps169;go_wp2_with fail;go_ret2;exact⟨by rw [HE.out,HV.out];rfl,rfl⟩
 by_cases h2:97<=c/\c<=102
 ·have HE:=kf (show z3q c=some (c-87) from by unfold z3q;rw [if_neg h1,if_pos h2]);have HV:=kf (show(z30 c:Int)=(c:Int)-97+10 from by unfold z30;rw [HE.out];simp only [Option.getD_some];omega);have g1:¬c<=57:=by omega
  have d1:IntKind.u8.wrap ((c:Int)-97)=(c:Int)-97:=by rw [IntKind.wrap_u8];omega
  have d2:IntKind.u8.wrap ((c:Int)-97+10)=(c:Int)-97+10:=by rw [IntKind.wrap_u8];omega
  obtain⟨a,b⟩:=h2;clear h1;go_enter Tryz.func169,Tryz.ntmps169;go_wp2_with fail;go_ret2;exact⟨by rw [HE.out,HV.out];rfl,rfl⟩
 by_cases h3:65<=c/\c<=70
 ·have HE:=kf (show z3q c=some (c-55) from by unfold z3q;rw [if_neg h1,if_neg h2,if_pos h3]);have HV:=kf (show(z30 c:Int)=(c:Int)-65+10 from by unfold z30;rw [HE.out];simp only [Option.getD_some];omega);have g1:¬c<=57:=by omega
  have g2:¬97<=c:=by omega
  have d1:IntKind.u8.wrap ((c:Int)-65)=(c:Int)-65:=by rw [IntKind.wrap_u8];omega
  have d2:IntKind.u8.wrap ((c:Int)-65+10)=(c:Int)-65+10:=by rw [IntKind.wrap_u8];omega
  obtain⟨a,b⟩:=h3;clear h1 h2;go_enter Tryz.func169,Tryz.ntmps169;go_wp2_with fail;go_ret2;exact⟨by rw [HE.out,HV.out];rfl,rfl⟩
 ·have HE:=kf (show z3q c=none from by unfold z3q;rw [if_neg h1,if_neg h2,if_neg h3]);have HV:=kf (show z30 c=0 from by unfold z30;rw [HE.out];rfl);have m1:(decide ((48:Int)<=c)&&decide ((c:Int)<=57))=false:=by simp;omega
  have m2:(decide ((97:Int)<=c)&&decide ((c:Int)<=102))=false:=by simp;omega
  have m3:(decide ((65:Int)<=c)&&decide ((c:Int)<=70))=false:=by simp;omega
  go_enter Tryz.func169,Tryz.ntmps169;by_cases k1:48<=c
  ·have k2:¬c<=57:=by omega
   by_cases k3:97<=c
   ·have k4:¬c<=102:=by omega
    have k5:65<=c:=by omega
    have k6:¬c<=70:=by omega
    clear h1 h2 h3 m1 m2 m3;go_wp2_with fail;go_ret2;exact⟨by rw [HE.out,HV.out];rfl,rfl⟩
   ·by_cases k5:65<=c
    ·have k6:¬c<=70:=by omega
     clear h1 h2 h3 m1 m2 m3;go_wp2_with fail;go_ret2;exact⟨by rw [HE.out,HV.out];rfl,rfl⟩
    ·clear h1 h2 h3 m1 m2 m3;go_wp2_with fail;go_ret2;exact⟨by rw [HE.out,HV.out];rfl,rfl⟩
  ·have k3:¬97<=c:=by omega
   have k5:¬65<=c:=by omega
   clear h1 h2 h3 m1 m2 m3;go_wp2_with fail;go_ret2;exact⟨by rw [HE.out,HV.out];rfl,rfl⟩
def mnt (c:Nat):Nat:=if c=110 then 10 else if c=114 then 13 else if c=116 then 9 else if c=98 then 8 else if c=102 then 12 else c
theorem v7e {c:Nat} (h:c<256):mnt c<256:=by
 unfold mnt;repeat' split
 all_goals omega
theorem y4b (c:Nat) (w:World):Calls Tryz.prog 168 #[.int .u8 (c:Nat)] w fun e w'=>e=.returned (.int .u8 (mnt c:Nat))/\w=w':=by
 by_cases h:c=110\/c=114\/c=116\/c=98\/c=102
 ·rcases h with rfl|rfl|rfl|rfl|rfl
  all_goals
   go_enter Tryz.func168,Tryz.ntmps168;go_wp2_with fail;go_ret;exact⟨rfl,rfl⟩
 ·have HE:=kf (show mnt c=c from by unfold mnt;rw [if_neg (by omega),if_neg (by omega),if_neg (by omega),if_neg (by omega),if_neg (by omega)]);have e0:((c:Int)==110)=false:=by simp;omega
  have e1:((c:Int)==114)=false:=by simp;omega
  have e2:((c:Int)==116)=false:=by simp;omega
  have e3:((c:Int)==98)=false:=by simp;omega
  have e4:((c:Int)==102)=false:=by simp;omega
  clear h;go_enter Tryz.func168,Tryz.ntmps168;go_wp2_with fail;go_ret;exact⟨by rw [HE.out];rfl,rfl⟩
section
variable {last:Bool} {deep k:Nat} {out l:List Nat}
theorem y16 (h:(z3w last l).1≠0):z13 last deep out k (92::l)=((z3w last l).1,[],0):=by rw [z15,if_pos rfl,if_pos h]
theorem z7p (h:(z3w last l).1=0):z13 last deep out k (92::l)=z13 last deep (out++(z3w last l).2.1.toList) (k+1+(z3w last l).2.2) (l.drop (z3w last l).2.2):=by
 rw [z15,if_pos rfl,if_neg (fun e=>e h)]
theorem v34 (h:l=[]) (h2:last=false):z13 last deep out k (13::l)=(6,[],0):=by
 rw [z15,if_neg (show ¬13=92 by decide),if_pos rfl,if_pos ⟨h,h2⟩]
theorem v35 (h:l≠[]) (h2:l.head?=some 10):z13 last deep out k (13::l)=z13 last deep (out++[10]) (k+2) (l.drop 1):=by
 rw [z15,if_neg (show ¬13=92 by decide),if_pos rfl,if_neg (fun e=>h e.1),if_pos h2]
theorem y57 (h:¬(l=[]/\last=false)) (h2:¬l.head?=some 10):z13 last deep out k (13::l)=z13 last deep (out++[10]) (k+1) l:=by
 rw [z15,if_neg (show ¬13=92 by decide),if_pos rfl,if_neg h,if_neg h2]
theorem v6f:z13 last deep out k (40::l)=z13 last (deep+1) (out++[40]) (k+1) l:=by
 rw [z15,if_neg (show ¬40=92 by decide),if_neg (show ¬40=13 by decide),if_pos rfl]
theorem v32 (h:deep=1):z13 last deep out k (41::l)=(0,out,k+1):=by
 rw [z15,if_neg (show ¬41=92 by decide),if_neg (show ¬41=13 by decide),if_neg (show ¬41=40 by decide),if_pos rfl,if_pos h]
theorem v6e (h:deep≠1):z13 last deep out k (41::l)=z13 last (deep-1) (out++[41]) (k+1) l:=by
 rw [z15,if_neg (show ¬41=92 by decide),if_neg (show ¬41=13 by decide),if_neg (show ¬41=40 by decide),if_pos rfl,if_neg h]
theorem v8y {x:Nat} (h1:x≠92) (h2:x≠13) (h3:x≠40) (h4:x≠41):z13 last deep out k (x::l)=z13 last deep (out++[x]) (k+1) l:=by
 rw [z15,if_neg h1,if_neg h2,if_neg h3,if_neg h4]
end
def y14 (A:Option Addr) (lo cap:Nat):Option Addr:=if cap=lo then A else A.map (·.add (lo*1))
theorem y81 (A:Option Addr) (cap:Nat):y14 A 0 cap=A:=by
 unfold y14;split
 ·rfl
 ·rcases A with _|b
  ·rfl
  ·simp [Addr.add]
theorem v2a (a:Addr) (i j:Nat):(a.add (i*1)).add j=a.add (i+j):=by
 unfold Addr.add;by_cases hi:i=0
 ·subst hi;simp
 ·by_cases hj:j=0
  ·subst hj;simp [hi]
  ·simp [hi,hj];omega
theorem y2f {w:World} {A:Option Addr} {n c lo m:Nat} {xs:List Value} (h:Src w 1 A n c xs) (hc:n<=c) (hm:lo+m<=n):Src w 1 (y14 A lo c) m (c-lo) ((xs.drop lo).take m):=by
 have hl:=h.1;refine⟨by simp;omega,fun e=>?_,fun ad e j u hu=>?_⟩
 ·unfold y14 at e;split at e
  ·have:=h.2.1 e;omega
  ·rcases A with _|b
   ·have:=h.2.1 rfl;omega
   ·cases e
 ·have hj:j<m:=by
   have:=(List.getElem?_eq_some_iff.1 hu).1;simp at this;omega
  rw [List.getElem?_take_of_lt hj,List.getElem?_drop] at hu;unfold y14 at e;rw [if_neg (by omega)] at e;rcases A with _|b
  ·cases e
  ·simp only [Option.map_some,Option.some.injEq] at e;subst e;rw [v2a];exact h.2.2 b rfl (lo+j) u hu
theorem v6v (w:World):(sizeOf (Tryz.prog.elem 37)).run Tryz.prog w=.ok 1 w:=by go_simp
theorem v9j (A:Option Addr) (len cap lo:Nat) (h:lo<=len) (w:World):(Instr.sliceAt 37 (.slice A len cap) (some (.int .i64 (lo:Nat))) none none).run Tryz.prog w=.ok (.slice (y14 A lo cap) (len-lo) (cap-lo)) w:=by
 rw [run_sliceAt_slice w _ _ _ _ _ Tryz.underlying37,run_slice_l w _ A len cap Tryz.underlying37 .i64 (lo:Nat) (by omega) (by omega),v6v];simp [Result.andThen,sliced,y14]
theorem q02 (A:Option Addr) (len cap lo hi:Nat) (h:lo<=hi) (h2:hi<=cap) (w:World):(Instr.sliceAt 37 (.slice A len cap) (some (.int .i64 (lo:Nat))) (some (.int .i64 (hi:Nat))) none).run Tryz.prog w=.ok (.slice (y14 A lo cap) (hi-lo) (cap-lo)) w:=by
 rw [run_sliceAt_slice w _ _ _ _ _ Tryz.underlying37,run_slice_lh w _ A len cap Tryz.underlying37 .i64 .i64 (lo:Nat) (hi:Nat) (by omega) (by omega) (by omega),v6v];simp [Result.andThen,sliced,y14]
theorem z73 (b off lo c:Nat):y14 (some ⟨b,off,none⟩) lo c=if c=lo then some ⟨b,off,none⟩ else some ⟨b,off+lo,none⟩:=by
 unfold y14;split
 ·rfl
 ·by_cases h:lo=0
  ·subst h;rfl
  ·simp [Addr.add,h]
def numStr:ByteArray:=⟨#[48,49,50,51,52,53,54,55,56,57,43,45,46]⟩
theorem v5c (x:Nat) (h2:x<256):Utf8.valid (x:Int)=true:=by
 have h1:(x:Int)<55296:=by omega
 have h0:(0:Int)<=x:=by omega
 unfold Utf8.valid;have e1:decide ((0:Int)<=x)=true:=decide_eq_true h0;have e2:decide ((x:Int)<55296)=true:=decide_eq_true h1;simp [e1,e2,h0,h1];try omega
theorem v84 (x:Nat) (h:128<=x) (h2:x<256):Utf8.encode (x:Int)=⟨#[UInt8.ofNat (192+x / 64),UInt8.ofNat (128+x%64)]⟩:=by
 have hc:¬(x:Int).toNat<128:=by omega
 have hd:(x:Int).toNat<2048:=by omega
 unfold Utf8.encode;simp only [v5c x h2,if_true,hc,hd,if_false];rfl
theorem v5d (x:Nat) (h:128<=x) (h2:x<256):∃ (t:ByteArray) (y:Nat),Utf8.encode (x:Int)=t/\t.size=2/\128<=y/\y<256/\∀ k:1<t.size,(t[1]'k).toNat=y:=by
 refine⟨_,128+x%64,v84 x h h2,rfl,by omega,by omega,fun k=>?_⟩;show(UInt8.ofNat (128+x%64)).toNat=_;simp;omega
theorem v0l (l:List UInt8) (y:Nat) (hy:128<=y) (hy2:y<256) (h:∀ b∈l,b.toNat<128):Lib.indexByte l (y:Int).toNat.toUInt8=-1:=by
 induction l with
 |nil=>rfl
 |cons x l ih =>
  have hx:=h x (List.mem_cons_self ..)
  have h3:(x==(y:Int).toNat.toUInt8)=false:=by
   rw [beq_eq_false_iff_ne];rintro rfl;simp at hx;omega
  rw [Lib.indexByte];rw [ih (fun b hb=>h b (List.mem_cons_of_mem _ hb))];have h4:¬x=UInt8.ofNat y:=by simpa using h3
  simp [h3,h4]
theorem y6i:∀ x:Fin 128,decide (0<=Lib.indexByte numStr.data.toList ((x.val:Int).toNat.toUInt8))=y6y x.val:=by decide
theorem y1q (s s2:ByteArray) (n:Nat) (hs:s.size=n) (hn:2<n) (hn2:n<=1000) (hs1:∀ k:1<s.size,(s[1]'k).toNat=49) (hs2:s.extract 2 n=s2) (hs3:∀ b∈s2.data.toList,b.toNat<128) (x:Nat) (h:128<=x) (h2:x<256) (w:World):Calls Tryz.prog 194 #[.string s,.int .i32 (x:Nat)] w fun e w'=>e=.returned (.int .i64 (-1))/\Chg NoS w w':=by
 obtain⟨t,y,ht,hsz,hy1,hy2,g1⟩:=v5d x h h2
 have hcv:∀ W,(convert 21 9 (.int .i32 (x:Nat))).run Tryz.prog W=.ok (.string t) W:=fun W=>by
  rw [<- ht];exact run_convert_int_string W _ _ _ _ (by kernel_rfl) Tryz.underlying9
 clear ht;have HVR:=kf (fun W=>Tryz.utf8_ValidRune (x:Int) W);rw [show Lib.validRune (x:Int)=true from by unfold Lib.validRune;simp;omega] at HVR
 have HIB:=kf (fun W=>(show Calls Tryz.prog 222 #[.string s2,.int .u8 (y:Nat)] W fun e w'=>e=.returned (.int .i64 (-1))/\W=w' from by
  have:=Tryz.strings_IndexByte s2 (y:Int) W;rw [v0l _ y hy1 hy2 hs3] at this;exact this.mono fun _ _ ⟨he,hm⟩=>⟨he,hm.symm⟩))
 have e1:((49:Int) != (y:Int))=true:=by simp;omega
 have e2:(49 != y)=true:=by simp;omega
 have d1:decide ((x:Int)<128)=false:=by simp;omega
 have d2:((x:Int)==65533)=false:=by simp;omega
 have i1:(2:Int)<=n:=by omega
 have i2:(1:Int)<n:=by omega
 have hw2:IntKind.i64.wrap 2=2:=by decide
 have HHS:=kf hs3;clear hs3;go_enter Tryz.func194,Tryz.ntmps194;go_wp2_with (go_at_call 223;refine(HVR.out _).mono ?_;rintro e w2 ⟨rfl,hw⟩;rw [hw];clear hw);go_step3;go_upto_region 5 with fail;go_loopw [9] (fun vi wr=>vi=.int .i64 1/\wr=w) (fun _ _=>0)
 case atStart=>exact⟨rfl,rfl⟩
 case round =>
  obtain⟨rfl,rfl⟩:=hrel;go_upto_region 6 with fail;(try go_step3)
  go_upto_region 6 with fail;go_quiet (fail);go_upto_region 7 with fail;go_quiet ((go_at_call 222;first|exact z7d (HIB.out _)|exact quiet_left (HIB.out _)));go_wp2_with fail;simp only [Exit.noGoto_ret,Exit.inBlock];change bodyPost Tryz.prog _ (fun e w2=>e=.returned (.int .i64 (-1))/\Chg NoS wr w2) Exit.ret _ _;go_ret;exact⟨rfl,(Chg.refl _ _).drewN _⟩
theorem y83 (x:Nat) (h2:x<256) (w:World):Calls Tryz.prog 174 #[.string ⟨#[48,49,50,51,52,53,54,55,56,57,43,45,46]⟩,.int .i32 (x:Nat)] w fun e w'=>e=.returned (.bool (y6y x))/\Chg NoS w w':=by
 by_cases h:x<128
 ·have H:=Tryz.strings_ContainsRune_ascii numStr (x:Int) w (by omega) (by omega);rw [y6i ⟨x,h⟩] at H;exact H.mono fun _ _ ⟨he,hm⟩=>⟨he,by rw [hm];exact Chg.refl _ _⟩
 ·have HI:=kf (fun W=>y1q ⟨#[48,49,50,51,52,53,54,55,56,57,43,45,46]⟩ ⟨#[50,51,52,53,54,55,56,57,43,45,46]⟩ 13 rfl (by decide) (by decide) (fun _=>rfl) (by decide) (by decide) x (by omega) h2 W);have HN:=kf (show y6y x=false from by simp [y6y];omega);obtain⟨s,hs⟩:∃ s,(⟨#[48,49,50,51,52,53,54,55,56,57,43,45,46]⟩:ByteArray)=s:=⟨_,rfl⟩
  rw [hs] at HI ⊢;clear hs;go_enter Tryz.func174,Tryz.ntmps174;go_wp2_with (go_at_call 194;refine(HI.out _).mono ?_;rintro e w2 ⟨rfl,hc2⟩;have HC2:=kf hc2;clear hc2);go_ret;exact⟨by rw [HN.out];rfl,HC2.out⟩
end Go.Proofs.YtmibnkddappgiaaGreatDoor
