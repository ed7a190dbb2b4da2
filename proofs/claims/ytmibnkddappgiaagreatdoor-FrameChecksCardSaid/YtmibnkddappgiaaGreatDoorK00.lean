import Derived.Maps.AppendAt
import Derived.Laws.AppendOwnNone
import Derived.Test.YtmibnkddappgiaaGreatDoorProg
import Derived.Lib.SmallJoins
import Derived.BigQuiet
import Derived.Deep.Cut
import Derived.Laws.DeepStrings4
import Derived.Sort.Walk0
import Derived.Laws.Cover1
set_option linter.unusedVariables false
set_option maxHeartbeats 64000000
set_option maxRecDepth 100000
set_option linter.unusedSimpArgs false
namespace Go.Proofs.YtmibnkddappgiaaGreatDoor
theorem pkA:(∀ (a:Go.Act) (d:Nat) (v:Go.Value),a.put (some d) v={a with tmps:=a.tmps.setIfInBounds d v})/\(∀ (a:Go.Act) (v:Go.Value),a.put none v=a)/\(∀ (l:List Go.Value) (i:Nat) (v:Go.Value),l.toArray.setIfInBounds i v=(l.set i v).toArray)/\(∀ (x:Go.Value) (l:List Go.Value) (v:Go.Value),(x::l).set 0 v=v::l)/\∀ (x:Go.Value) (l:List Go.Value) (i:Nat) (v:Go.Value),(x::l).set (i+1) v=x::l.set i v :=
 ⟨fun _ _ _=>rfl,fun _ _=>rfl,fun l i v=>List.setIfInBounds_toArray l i v,fun _ _ _=>rfl,fun _ _ _ _=>rfl⟩
open Go.RowKit
theorem kf {p:Prop} (h:p):Hid p:=h
structure Chg (S:Nat->Prop) (w w':World):Prop where
 os:w'.os=w.os
 tape:w'.tape=w.tape
 output:w'.output=w.output
 size:w.heap.size<=w'.heap.size
 block:∀ k,k<w.heap.size->¬S k->w'.heap[k]?=w.heap[k]?
def NoS:Nat->Prop:=fun _=>False
theorem Chg.refl (S:Nat->Prop) (w:World):Chg S w w:=⟨rfl,rfl,rfl,Nat.le_refl _,fun _ _ _=>rfl⟩
theorem Chg.trans {S T:Nat->Prop} {a b c:World} (h:Chg S a b) (k:Chg T b c) (hT:∀ i,i<a.heap.size->T i->S i):Chg S a c :=
 ⟨k.os.trans h.os,k.tape.trans h.tape,k.output.trans h.output,Nat.le_trans h.size k.size,fun i hi hs=>(k.block i (Nat.lt_of_lt_of_le hi h.size) (fun ht=>hs (hT i hi ht))).trans (h.block i hi hs)⟩
theorem Chg.mono {S T:Nat->Prop} {a b:World} (h:Chg S a b) (hT:∀ i,i<a.heap.size->S i->T i):Chg T a b :=
 ⟨h.os,h.tape,h.output,h.size,fun i hi ht=>h.block i hi (fun hs=>ht (hT i hi hs))⟩
theorem Chg.drew {S:Nat->Prop} {a b:World} (h:Chg S a b):Chg S a b.drew:=⟨h.os,h.tape,h.output,h.size,h.block⟩
theorem Chg.drewN {S:Nat->Prop} {a b:World} (h:Chg S a b) (n:Nat):Chg S a (b.drewN n):=⟨h.os,h.tape,h.output,h.size,h.block⟩
theorem Chg.alloc {S:Nat->Prop} {a b:World} (h:Chg S a b) (o:Obj):Chg S a (b.alloc o) :=
 ⟨h.os,h.tape,h.output,Nat.le_trans h.size (by simp),fun i hi hs=>(Below.heap_alloc b o i (Nat.lt_of_lt_of_le hi h.size)).trans (h.block i hi hs)⟩
theorem Chg.setCell {S:Nat->Prop} {a b:World} (h:Chg S a b) {p:Addr} (hp:p.block<a.heap.size->S p.block) (u:Value):Chg S a (b.setCell p u) :=
 ⟨h.os,h.tape,h.output,by simpa [World.setCell] using h.size,fun i hi hs=>(Below.heap_setCell b p u i (by rintro rfl;exact hs (hp hi))).trans (h.block i hi hs)⟩
theorem Chg.grown {S:Nat->Prop} {a b c:World} {row:Option Nat} (h:Chg S a b) (hg:b.grownBy c row) (hr:∀ k,row=some k->k<a.heap.size->S k):Chg S a c :=
 ⟨hg.os.trans h.os,hg.tape.trans h.tape,hg.output.trans h.output,Nat.le_trans h.size hg.size,fun i hi hs=>(hg.block i (Nat.lt_of_lt_of_le hi h.size) (fun e=>hs (hr i e.symm hi))).trans (h.block i hi hs)⟩
theorem Chg.below {S:Nat->Prop} {a b:World} {B:Nat} (h:Chg S a b) (hB:B<=a.heap.size) (hS:∀ i,i<B->¬S i):Below B a b :=
 ⟨h.os,h.tape,h.output,h.size,fun i hi=>h.block i (Nat.lt_of_lt_of_le hi hB) (hS i hi)⟩
theorem Chg.of_below {a b:World} {S:Nat->Prop} (h:Below a.heap.size a b):Chg S a b:=⟨h.os,h.tape,h.output,h.size,fun i hi _=>h.block i hi⟩
theorem Chg.cell {S:Nat->Prop} {a b:World} (h:Chg S a b) {p:Addr} (hp:p.block<a.heap.size) (hs:¬S p.block):b.cell? p=a.cell? p:=World.cell?_of_block (h.block p.block hp hs)
theorem Chg.no_below {a b:World} (h:Chg NoS a b):Below a.heap.size a b:=h.below (Nat.le_refl _) (fun _ _ h=>h)
def Blk (w:World) (g:Nat) (t:TypeId) (cs:Array Value):Prop:=w.heap[g]?=some (.cells cs t (0,0))
section
variable {w w':World} {g:Nat} {t:TypeId} {cs:Array Value}
theorem Blk.lt (h:Blk w g t cs):g<w.heap.size:=(Array.getElem?_eq_some_iff.1 h).1
theorem Blk.cell (h:Blk w g t cs) (i:Nat):w.cell? ⟨g,i,none⟩=cs[i]?:=cell_of_row w g i cs t (0,0) h
theorem Blk.frozen (h:Blk w g t cs) (i:Nat):w.frozen? ⟨g,i,none⟩=false:=by
 have h':w.heap[g]?=some (.cells cs t (0,0)):=h;simp [World.frozen?,h']
theorem Blk.new (w:World) (t:TypeId) (cs:Array Value):Blk (w.alloc (.cells cs t)) w.heap.size t cs:=heap_alloc_new w _
theorem Blk.chg {S:Nat->Prop} (h:Blk w g t cs) (hc:Chg S w w') (hs:¬S g):Blk w' g t cs:=(hc.block g h.lt hs).trans h
theorem Blk.drew (h:Blk w g t cs):Blk w.drew g t cs:=h
theorem Blk.drewN (h:Blk w g t cs) (n:Nat):Blk (w.drewN n) g t cs:=h
theorem Blk.alloc (h:Blk w g t cs) (o:Obj):Blk (w.alloc o) g t cs:=(Below.heap_alloc w o g h.lt).trans h
theorem Blk.set_ (h:Blk w g t cs) (i:Nat) (u:Value):Blk (w.setCell ⟨g,i,none⟩ u) g t (cs.setIfInBounds i u):=by
 have h':w.heap[g]?=some (.cells cs t (0,0)):=h;show(w.setCell ⟨g,i,none⟩ u).heap[g]?=_;simp [World.setCell,Array.getElem?_modify,h']
theorem Blk.far (h:Blk w g t cs) {p:Addr} (hp:g≠p.block) (u:Value):Blk (w.setCell p u) g t cs:=(Below.heap_setCell w p u g hp).trans h
theorem Blk.grown {row:Option Nat} (h:Blk w g t cs) (hb:w.grownBy w' row) (hg:some g≠row):Blk w' g t cs:=(hb.block g h.lt hg).trans h
theorem Blk.ne_ {g':Nat} {t':TypeId} {cs':Array Value} (h:Blk w g t cs) (h':Blk w g' t' cs') (hne:t≠t'):g≠g':=by
 rintro rfl;have e:=h.symm.trans h';injection e with e
 injection e with _ e
 exact hne e
end
section
variable {w w':World} {base:Nat} {e:TypeId} {size n:Nat} {v:Value} {xs:List Value}
theorem v74 (h:w.ownsRow base e size v n xs) {g:Nat} (hg:v.ownBlock=some g):g<w.heap.size:=by
 rcases h.2 with⟨rfl,_⟩|⟨g',cap,cur,rfl,_,hh,_⟩
 ·simp [Value.ownBlock] at hg
 ·have e:g'=g:=by simpa [Value.ownBlock] using hg
  subst e;exact(Array.getElem?_eq_some_iff.1 hh).1
theorem z1o {g:Nat} {t:TypeId} {cs:Array Value} (h:w.ownsRow base e size v n xs) (hg:Blk w g t cs) (hne:e≠t):v.ownBlock≠some g:=by
 rcases h.2 with⟨rfl,_⟩|⟨g',cap,cur,rfl,_,hh,_⟩
 ·simp [Value.ownBlock]
 ·intro he;have e1:g'=g:=by simpa [Value.ownBlock] using he
  subst e1;exact Blk.ne_ (t:=e) (t':=t) hh hg hne rfl
theorem z0p {S:Nat->Prop} (h:w.ownsRow base e size v n xs) (hc:Chg S w w') (hs:∀ g,v.ownBlock=some g->¬S g):w'.ownsRow base e size v n xs:=by
 refine⟨h.1,?_⟩;rcases h.2 with h2|⟨g',cap,cur,rfl,hb,hh,r⟩
 ·exact .inl h2
 ·exact .inr ⟨g',cap,cur,rfl,hb,(hc.block g' (Array.getElem?_eq_some_iff.1 hh).1 (hs g' rfl)).trans hh,r⟩
theorem v00 (h:w.ownsRow base e size v n xs) (hn:0<n):∃ g cap,v=.slice (some ⟨g,0,none⟩) n cap/\n<=cap/\cap<=maxLen:=by
 rcases h.2 with⟨_,h0⟩|⟨g',cap,cur,rfl,hb,hh,h1,h2,_⟩
 ·omega
 ·exact⟨g',cap,rfl,h1,h2⟩
theorem z0t (h:w.ownsRow base e size v n xs):∃ A cap,v=.slice A n cap/\(A=none->n=0/\cap=0):=by
 rcases h.2 with⟨rfl,rfl⟩|⟨g',cap,cur,rfl,_⟩
 ·exact⟨none,0,rfl,fun _=>⟨rfl,rfl⟩⟩
 ·exact⟨_,cap,rfl,fun h=>by cases h⟩
theorem v01 (h:w.ownsRow base e size v n xs):w.drew.ownsRow base e size v n xs:=h
theorem y6f (h:w.ownsRow base e size v n xs) (k:Nat):(w.drewN k).ownsRow base e size v n xs:=h
theorem z43 (w:World) (base:Nat) (e:TypeId) (size:Nat):w.ownsRow base e size (.slice none 0 0) 0 []:=⟨by simp,.inl ⟨rfl,rfl⟩⟩
end
def Src (w:World) (size:Nat) (A:Option Addr) (n c:Nat) (xs:List Value):Prop :=
 xs.length=n*size/\(A=none->n=0/\c=0)/\∀ ad,A=some ad->∀ j u,xs[j]?=some u->w.cell? (ad.add j)=some u
theorem z8h {w:World} {base:Nat} {e:TypeId} {size n c:Nat} {A:Option Addr} {xs:List Value} (h:w.ownsRow base e size (.slice A n c) n xs):Src w size A n c xs:=by
 refine⟨h.1,?_,?_⟩
 ·rintro rfl;rcases h.2 with⟨h',h0⟩|⟨g',cap,cur,h',_⟩
  ·simp only [Value.slice.injEq] at h';exact⟨h0,h'.2.2⟩
  ·simp at h'
 ·rintro ad rfl j u hu;rcases h.2 with⟨h',h0⟩|⟨g',cap,cur,h',_⟩
  ·simp at h'
  ·simp only [Value.slice.injEq,Option.some.injEq] at h';obtain⟨rfl,_,rfl⟩:=h'
   have hj:j<n*size:=by
    have:=(List.getElem?_eq_some_iff.1 hu).1;rw [h.1] at this;exact this
   have hc:=h.cellAt j hj;rw [hu] at hc;by_cases h0:j=0
   ·subst h0;simpa [Addr.add] using hc
   ·simpa [Addr.add,h0] using hc
theorem z52 {P:Program} {w:World} {ops:Array Oper} {rest:List Oper} {o:Oper} {a:Act} {Q:Exit->Act->World->Prop} (hgd:o.guard=none) (s x:Operand) (t:TypeId)
  (ho:o.op=.call { callee:=.builtin .append,args:=#[s,x],argTypes:=#[t,t] })
  (e:TypeId) (i:TypeInfo) (z:Value) (size bytes:Nat) (ht:P.underlying t=some (.slice e)) (hi:P.info? e=some i) (hz:i.zero=some z)
  (hsize:i.size=size) (hby:i.bytes=bytes) (hzs:z.cells.size=size) (hsz:0<size)
  (v:Value) (n:Nat) (xs:List Value) (hs:a.eval s=v) (hown:w.ownsRow 0 e size v n xs)
  (A:Option Addr) (m c:Nat) (news:List Value) (hx:a.eval x=.slice A m c) (hnews:Src w size A m c news) (h1:∀ u∈news,u.oneCell'=true)
  (h63:n+m<=maxLen) (hbytes:(n+m)*bytes<=140737488355328)
  (h:∀ v' w',w'.ownsRow 0 e size v' (n+m) (xs++news)->w.grownBy w' v.ownBlock->(v'.ownBlock=v.ownBlock\/v'.ownBlock=some w.heap.size)->wpList P ops Q rest (a.put o.dst v') w') :
  wpList P ops Q (o::rest) a w:=by
 rcases A with _|ad
 ·obtain⟨rfl,rfl⟩:=hnews.2.1 rfl;have hn:news=[]:=List.eq_nil_of_length_eq_zero (by simpa using hnews.1);subst hn;exact wpList_append_own_none hgd s x t ho 0 e i size ht hi v n xs hs hown hx (h v w (by simpa using hown) (World.grownBy.refl w _) (.inl rfl))
 ·exact wpList_append_own_at w hgd s x t ho 0 e i z size bytes ht hi hz hsize hby hzs hsz v n xs hs hown ad m c news hx hnews.1 (hnews.2.2 ad rfl) h1 h63 hbytes (Nat.zero_le _) (fun v' w' a b _ d=>h v' w' a b d)
theorem z7d {P:Program} {f:FuncId} {args:Array Value} {w:World} {a n:Nat} {v:Value}
  (h:Calls P f args (w.drewN (a+n)) fun e w'=>e=.returned v/\w.drewN (a+n)=w'):Calls P f args (w.drewN (a+n)) fun e w''=>e=.returned v/\∃ m,w''=w.drewN (a+m) :=
 h.mono fun _ _ ⟨he,hm⟩=>⟨he,n,hm.symm⟩
open Go.RowKit Go.Deep Go.ChangeShapes Go.WideShapes
theorem z05 {w:World} {p:Addr} {u:Value} (h:w.cell? p=some u):p.block<w.heap.size:=by
 rcases Nat.lt_or_ge p.block w.heap.size with h1|h1
 ·exact h1
 ·exfalso
  simp [World.cell?,Array.getElem?_eq_none h1] at h
theorem Src.below {w0 w w':World} {size n c:Nat} {A:Option Addr} {xs:List Value} (h:Src w size A n c xs) (hc:Chg NoS w w'):Src w' size A n c xs :=
 ⟨h.1,h.2.1,fun ad hA j u hu=>by
  have h1:=h.2.2 ad hA j u hu;rw [hc.cell (by exact z05 h1) (fun h=>h)];exact h1⟩
theorem Src.plain {w:World} {size n c:Nat} {A:Option Addr} {xs:List Value} (h:Src w size A n c xs) (hn:0<xs.length) :
  ∃ b off,A=some ⟨b,off,none⟩/\∀ j u,xs[j]?=some u->w.cell? ⟨b,off+j,none⟩=some u:=by
 rcases A with _|⟨b,off,sp⟩
 ·have h1:=(h.2.1 rfl).1;have h2:=h.1;rw [h1,Nat.zero_mul] at h2;omega
 ·have h0:=h.2.2 _ rfl 0 _ (List.getElem?_eq_getElem hn);have hs:sp=none:=by simpa [Addr.add] using World.cell?_spot h0
  subst hs;refine⟨b,off,rfl,fun j u hu=>?_⟩;have h1:=h.2.2 _ rfl j u hu;by_cases hj:j=0
  ·subst hj;simpa [Addr.add] using h1
  ·simpa [Addr.add,hj] using h1
theorem v2s {H:Type} {en:TypeId × Value->H} {P:Program} {w:World} {base n:Nat} {spare:Nat->Bool} {held:Bool} {e:TypeId} {cs:List Value} {y:DataW H × List MemPlace} {k:IntKind}
  (he:P.underlying e=some (.int k)) (h:DataW.trod en P w base spare held n e cs=some y):∃ z:Int,cs=[.int k z]/\(Lit.int k z).wf=true:=by
 obtain⟨z,rfl,_,hz⟩:=DataW.trod_int he h;exact⟨z,rfl,hz⟩
theorem v5f {H:Type} {en:TypeId × Value->H} {P:Program} {w:World} {base n:Nat} {spare:Nat->Bool} {held:Bool} {e:TypeId} {cs:List Value} {y:DataW H × List MemPlace}
  (he:P.underlying e=some .bool) (h:DataW.trod en P w base spare held n e cs=some y):∃ b:Bool,cs=[.bool b]:=by
 obtain⟨b,rfl,_⟩:=DataW.trod_bool he h;exact⟨b,rfl⟩
def isD (d:Nat):Prop:=48<=d/\d<=57
instance (d:Nat):Decidable (isD d):=inferInstanceAs (Decidable (_/\_))
def dn (n:Nat):List Nat:=if h:n=0 then [] else dn (n / 10)++[48+n%10]
termination_by n
decreasing_by omega
theorem v1m:dn 0=[]:=by rw [dn,dif_pos rfl]
theorem v5g {n:Nat} (h:n≠0):dn n=dn (n / 10)++[48+n%10]:=by rw [dn,dif_neg h]
def z62 (a:Nat) (l:List Nat):Nat:=l.foldl (fun n d=>10*n+(d-48)) a
theorem y28 (a:Nat) (l m:List Nat):z62 a (l++m)=z62 (z62 a l) m:=List.foldl_append
theorem v8x (n:Nat):z62 0 (dn n)=n:=by
 induction n using Nat.strongRecOn with
 |_ n ih =>
  by_cases h:n=0
  ·subst h;rw [v1m];rfl
  ·rw [v5g h,y28,ih (n / 10) (by omega)];show 10*(n / 10)+(48+n%10-48)=n;omega
theorem v87 (n:Nat):∀ d∈dn n,isD d:=by
 induction n using Nat.strongRecOn with
 |_ n ih =>
  by_cases h:n=0
  ·subst h;rw [v1m];intro d hd;cases hd
  ·rw [v5g h];intro d hd;rcases List.mem_append.1 hd with h1|h1
   ·exact ih (n / 10) (by omega) d h1
   ·rw [List.mem_singleton] at h1;subst h1;unfold isD;omega
theorem z85 {n k:Nat} (h:n<10 ^ k):(dn n).length<=k:=by
 induction k generalizing n with
 |zero=>simp at h;subst h;rw [v1m];exact Nat.le_refl _
 |succ k ih =>
  by_cases h0:n=0
  ·subst h0;rw [v1m];exact Nat.zero_le _
  ·rw [v5g h0,List.length_append,List.length_singleton];have:=ih (n:=n / 10) (by rw [Nat.pow_succ] at h;omega);omega
theorem y80 {n k:Nat} (h:10 ^ k<=n):k<(dn n).length:=by
 induction k generalizing n with
 |zero =>
  have h0:n≠0:=by simp at h;omega
  rw [v5g h0,List.length_append,List.length_singleton];omega
 |succ k ih =>
  have h1:10 ^ k<=n / 10:=by rw [Nat.pow_succ] at h;omega
  have h0:n≠0:=by
   have:0<10 ^ k:=Nat.pow_pos (by omega);omega
  rw [v5g h0,List.length_append,List.length_singleton];have:=ih h1;omega
def txt (n least:Nat):List Nat:=List.replicate (least-(dn n).length) 48++dn n
theorem z8f (n least:Nat):∀ d∈txt n least,isD d:=by
 intro d hd;rcases List.mem_append.1 hd with h|h
 ·rw [(List.mem_replicate.1 h).2];unfold isD;omega
 ·exact v87 n d h
theorem z56 (n least:Nat):(txt n least).length=max least (dn n).length:=by
 rw [txt,List.length_append,List.length_replicate];omega
theorem z8e (n least:Nat) (h:n≠0\/least≠0):txt n least=txt (n / 10) (least-1)++[48+n%10]:=by
 by_cases h0:n=0
 ·subst h0;rw [txt,txt,Nat.zero_div,v1m,List.length_nil,Nat.sub_zero,Nat.sub_zero,List.append_nil,List.append_nil];obtain⟨k,rfl⟩:∃ k,least=k+1:=⟨least-1,by omega⟩
  rw [Nat.add_sub_cancel,List.replicate_succ']
 ·rw [txt,txt,v5g h0,List.length_append,List.length_singleton,<- List.append_assoc];congr 3;omega
theorem y29:txt 0 0=[]:=by rw [txt,v1m];rfl
structure Ns where
 n:Nat
 parts:Nat
 digits:Nat
 fr:Option Nat
 over:Bool
def z18 (s:Ns) (c:Nat):Option Ns :=
 if c=46/\s.fr=none then some { s with fr:=some 0 }
 else if isD c then
  match s.fr with
  |none=>some { s with n:=if s.over then s.n else 10*s.n+(c-48),digits:=s.digits+1,over:=s.over || decide (2147483647<if s.over then s.n else 10*s.n+(c-48)) }
  |some j=>some { s with parts:=s.parts+100000 / 10 ^ min j 6*(c-48),digits:=s.digits+1,fr:=some (j+1) }
 else none
def z19 (s:Ns):List Nat->Option Ns
 |[]=>some s
 |c::l=>match z18 s c with
  |none=>none
  |some t=>z19 t l
theorem z6t (s:Ns) (l m:List Nat):z19 s (l++m)=(z19 s l).bind fun t=>z19 t m:=by
 induction l generalizing s with
 |nil=>rfl
 |cons c l ih =>
  rw [List.cons_append,z19,z19];cases h:z18 s c with
  |none=>rfl
  |some t=>exact ih t
def ns0:Ns:=⟨0,0,0,none,false⟩
def signed:List Nat->Bool × List Nat
 |[]=>(false,[])
 |c::l=>if c=43 then(false,l) else if c=45 then(true,l) else(false,c::l)
def z0o (l:List Nat):Int × Nat × Int :=
 match z19 ns0 (signed l).2 with
 |none=>(11,0,0)
 |some s =>
  if s.digits=0 then(11,0,0)
  else if s.over=true\/(s.fr≠none/\s.n=2147483647/\0<s.parts) then(5,0,0)
  else
   let x:Int:=if s.fr=none then(s.n:Int) else((1000000*s.n+s.parts:Nat):Int)
   (0,if s.fr=none then 2 else 3,if (signed l).1 then 0-x else x)
theorem y6l:∀ (l:List Nat) (s:Ns),(∀ d∈l,isD d)->s.fr=none->s.over=false->z62 s.n l<=2147483647->z19 s l=some { s with n:=z62 s.n l,digits:=s.digits+l.length }:=by
 intro l;induction l with
 |nil=>intro s _ _ _ _;rfl
 |cons c l ih =>
  intro s hd hf ho hv;have hc:=hd c (List.mem_cons_self ..)
  have hle:∀ (l:List Nat) (a:Nat),a<=z62 a l:=by
   intro l;induction l with
   |nil=>intro a;exact Nat.le_refl _
   |cons x l ih2 =>
    intro a;have:=ih2 (10*a+(x-48));show a<=z62 (10*a+(x-48)) l;omega
  have h1:10*s.n+(c-48)<=2147483647:=Nat.le_trans (hle l _) hv
  have hst:z18 s c=some { s with n:=10*s.n+(c-48),digits:=s.digits+1 }:=by
   unfold z18;have:¬(c=46/\s.fr=none):=by unfold isD at hc;omega
   rw [if_neg this,if_pos hc,hf];simp only [ho,Bool.false_eq_true,if_false,Bool.false_or];have hd2:decide (2147483647<10*s.n+(c-48))=false:=by simp;omega
   rw [hd2]
  rw [z19,hst];simp only;rw [ih { s with n:=10*s.n+(c-48),digits:=s.digits+1 } (fun d hd2=>hd d (List.mem_cons_of_mem _ hd2)) hf ho hv];simp only [List.length_cons];congr 2;omega
def z68 (j:Nat):List Nat->Nat
 |[]=>0
 |c::l=>100000 / 10 ^ min j 6*(c-48)+z68 (j+1) l
theorem y33:∀ (l:List Nat) (s:Ns) (j:Nat),(∀ d∈l,isD d)->s.fr=some j->z19 s l=some { s with parts:=s.parts+z68 j l,digits:=s.digits+l.length,fr:=some (j+l.length) }:=by
 intro l;induction l with
 |nil=>intro s j _ hf;simp [z19,z68,<- hf]
 |cons c l ih =>
  intro s j hd hf;have hc:=hd c (List.mem_cons_self ..)
  have hst:z18 s c=some { s with parts:=s.parts+100000 / 10 ^ min j 6*(c-48),digits:=s.digits+1,fr:=some (j+1) }:=by
   unfold z18;have:¬(c=46/\s.fr=none):=by rw [hf];simp
   rw [if_neg this,if_pos hc,hf]
  rw [z19,hst];simp only;rw [ih { s with parts:=s.parts+100000 / 10 ^ min j 6*(c-48),digits:=s.digits+1,fr:=some (j+1) } (j+1) (fun d hd2=>hd d (List.mem_cons_of_mem _ hd2)) rfl];simp only [List.length_cons,z68];congr 2
  ·omega
  ·omega
  ·congr 1;omega
def z5x:Nat->List Nat->List Nat
 |0,l=>l
 |k+1,l=>if l.getLast?=some 48 then z5x k l.dropLast else l
def y00 (x:Int):List Nat:=if x<0 then [45] else []
def z1g (x:Int):List Nat:=y00 x++txt x.natAbs 1
def z2h (x:Int):List Nat:=y00 x++(txt (x.natAbs / 1000000) 1++46::z5x 5 (txt (x.natAbs%1000000) 6))
theorem y58:∀ (k:Nat) (l:List Nat),(∀ d∈l,isD d)->∀ d∈z5x k l,isD d:=by
 intro k;induction k with
 |zero=>intro l h;exact h
 |succ k ih =>
  intro l h;rw [z5x];split
  ·exact ih _ (fun d hd=>h d (List.dropLast_subset _ hd))
  ·exact h
structure NsIn (s:Ns):Prop where
 n:s.over=false->s.n<=2147483647
 none_:s.fr=none->s.parts=0
 some_:∀ j,s.fr=some j->s.parts+10 ^ (6-min j 6)<=1000000
theorem y6r:∀ j,j<=5->100000 / 10 ^ min j 6*9+10 ^ (6-min (j+1) 6)<=10 ^ (6-min j 6):=by decide
theorem NsIn.step {s t:Ns} {c:Nat} (h:NsIn s) (e:z18 s c=some t):NsIn t:=by
 unfold z18 at e;split at e
 ·rename_i h1;injection e with e
  subst e;refine⟨h.n,fun h2=>(by cases h2),fun j hj=>?_⟩;injection hj with hj
  subst hj;show s.parts+_<=_;rw [h.none_ h1.2];decide
 ·split at e
  ·rename_i hc;rcases hf:s.fr with _|j
   ·rw [hf] at e;injection e with e
    subst e;refine⟨fun ho=>?_,fun _=>h.none_ hf,fun j hj=>?_⟩
    ·simp only [Bool.or_eq_false_iff,decide_eq_false_iff_not] at ho;simp only;omega
    ·first|(rw [hf] at hj;cases hj)|cases hj
   ·rw [hf] at e;injection e with e
    subst e;refine⟨h.n,fun h2=>(by cases h2),fun i hi=>?_⟩;injection hi with hi
    subst hi;have h1:=h.some_ j hf;show s.parts+100000 / 10 ^ min j 6*(c-48)+10 ^ (6-min (j+1) 6)<=1000000;by_cases hj:j<=5
    ·have h2:=y6r j hj;have h3:100000 / 10 ^ min j 6*(c-48)<=100000 / 10 ^ min j 6*9:=Nat.mul_le_mul_left _ (by unfold isD at hc;omega);omega
    ·have e1:min j 6=6:=by omega
     have e2:min (j+1) 6=6:=by omega
     rw [e1] at h1 ⊢;rw [e2];have e3:100000 / 10 ^ 6=0:=by decide
     rw [e3];omega
  ·cases e
theorem NsIn.all:∀ (l:List Nat) {s t:Ns},NsIn s->z19 s l=some t->NsIn t:=by
 intro l;induction l with
 |nil=>intro s t h e;injection e with e;subst e;exact h
 |cons c l ih =>
  intro s t h e;rw [z19] at e;cases hs:z18 s c with
  |none=>rw [hs] at e;cases e
  |some u=>rw [hs] at e;exact ih (h.step hs) e
theorem ns0_in:NsIn ns0:=⟨fun _=>by decide,fun _=>rfl,fun j h=>by cases h⟩
theorem y6j {l:List Nat} {k:Nat} {x:Int} (h:z0o l=(0,k,x)):(k=2/\x.natAbs<=2147483647)\/(k=3/\x.natAbs<=2147483647*1000000):=by
 unfold z0o at h;split at h
 ·simp at h
 ·rename_i s hs;have hi:=ns0_in.all _ hs;split at h
  ·simp at h
  ·split at h
   ·simp at h
   ·rename_i h2
    have ho:s.over=false:=by
     cases hv:s.over
     ·rfl
     ·exact absurd (.inl hv) h2
    have hn:=hi.n ho;simp only [Prod.mk.injEq,true_and] at h;obtain⟨hk,hx⟩:=h;rcases hf:s.fr with _|j
    ·rw [hf] at hk hx;simp only [if_true] at hk hx;refine .inl ⟨hk.symm,?_⟩;split at hx<;>omega
    ·rw [hf] at hk hx;simp only [reduceCtorEq,if_false] at hk hx;refine .inr ⟨hk.symm,?_⟩;have h3:=hi.some_ j hf;have h4:0<10 ^ (6-min j 6):=Nat.pow_pos (by omega);have h5:¬(s.n=2147483647/\0<s.parts):=fun h6=>h2 (.inr ⟨by rw [hf];simp,h6.1,h6.2⟩);split at hx<;>omega
def sl (s:ByteArray):List Nat:=s.data.toList.map UInt8.toNat
theorem z3c (s:ByteArray):(sl s).length=s.size:=by
 rw [sl,List.length_map,Array.length_toList];rfl
theorem y9a (s:ByteArray):∀ d∈sl s,d<256:=by
 intro d hd;obtain⟨x,_,rfl⟩:=List.mem_map.1 hd;exact x.toNat_lt
theorem z9x (s:ByteArray) (k:Nat) (h:k<s.size):(s[k]'h).toNat=(sl s).getD k 0:=by
 have h1:k<s.data.toList.length:=by rw [Array.length_toList];exact h
 rw [List.getD_eq_getElem?_getD,sl,List.getElem?_map,List.getElem?_eq_getElem h1];simp;rfl
theorem z9w {s:ByteArray} {k:Nat} (h:k<s.size):(sl s)[k]?=some ((sl s).getD k 0):=by
 have h1:k<(sl s).length:=by rw [z3c];exact h
 rw [List.getD_eq_getElem?_getD,List.getElem?_eq_getElem h1];rfl
theorem z27 {l:List Nat} {k x:Nat} (h:l[k]?=some x):l.take (k+1)=l.take k++[x]:=by
 rw [List.take_add_one,h];rfl
def sb (l:List Nat):ByteArray:=⟨(l.map UInt8.ofNat).toArray⟩
theorem z0k (l:List Nat):(sb l).size=l.length:=by
 show(l.map UInt8.ofNat).toArray.size=_;rw [List.size_toArray,List.length_map]
theorem z5s (l m:List Nat):sb l++sb m=sb (l++m):=by
 unfold sb;rw [ByteArray.mk_append_mk,List.map_append]
theorem z8j (l:List Nat) (h:∀ d∈l,d<256):sl (sb l)=l:=by
 unfold sb sl;show(l.map UInt8.ofNat).map UInt8.toNat=l;rw [List.map_map]
 have e:l.map (UInt8.toNat ∘ UInt8.ofNat)=l.map id:=List.map_congr_left fun d hd=>by
  show(UInt8.ofNat d).toNat=d;have:=h d hd;simp;omega
 rw [e,List.map_id]
inductive VT
 |mk (k n:Int) (s:ByteArray) (l:List VT)
structure VC where
 k:Int
 n:Int
 s:ByteArray
 A:Option Addr
 len:Nat
 cap:Nat
deriving Inhabited
def VC.cells (c:VC):List Value:=[.int .i64 c.k,.int .i64 c.n,.string c.s,.slice c.A c.len c.cap]
def VC.val (c:VC):Value:=.agg #[.int .i64 c.k,.int .i64 c.n,.string c.s,.slice c.A c.len c.cap]
structure VC.Good (c:VC):Prop where
 k:-9223372036854775808<=c.k/\c.k<=9223372036854775807
 n:-9223372036854775808<=c.n/\c.n<=9223372036854775807
 s:c.s.size<=maxLen
 nil:c.A=none->c.len=0/\c.cap=0
 cap:c.len<=c.cap
 len:c.len<=maxLen
mutual
inductive ValIs (w:World):VT->VC->Prop
 |mk (c:VC) (l:List VT) (hg:c.Good) (hl:l.length=c.len) (hr:RowIs w c.A 0 l):ValIs w (.mk c.k c.n c.s l) c
inductive RowIs (w:World):Option Addr->Nat->List VT->Prop
 |nil (A:Option Addr) (j:Nat):RowIs w A j []
 |cons (ad:Addr) (j:Nat) (t:VT) (l:List VT) (e:VC) (hcell:∀ i,i<4->w.cell? (ad.add (j*4+i))=e.cells[i]?) (h:ValIs w t e) (hr:RowIs w (some ad) (j+1) l):RowIs w (some ad) j (t::l)
end
theorem ValIs.good {w:World} {t:VT} {c:VC} (h:ValIs w t c):c.Good:=by cases h with|mk c l hg hl hr=>exact hg
theorem ValIs.inv {w:World} {k n:Int} {s:ByteArray} {l:List VT} {c:VC} (h:ValIs w (.mk k n s l) c):c.k=k/\c.n=n/\c.s=s/\c.Good/\l.length=c.len/\RowIs w c.A 0 l:=by
 cases h with|mk c l hg hl hr=>exact⟨rfl,rfl,rfl,hg,hl,hr⟩
theorem RowIs.inv {w:World} {A:Option Addr} {j:Nat} {t:VT} {l:List VT} (h:RowIs w A j (t::l)):∃ ad e,A=some ad/\(∀ i,i<4->w.cell? (ad.add (j*4+i))=e.cells[i]?)/\ValIs w t e/\RowIs w A (j+1) l:=by
 cases h with|cons ad j t l e hcell h hr=>exact⟨ad,e,rfl,hcell,h,hr⟩
mutual
theorem ValIs.chg {w w':World} (hc:Chg NoS w w'):∀ {t:VT} {c:VC},ValIs w t c->ValIs w' t c
 |_,_,.mk c l hg hl hr=>.mk c l hg hl (RowIs.chg hc hr)
theorem RowIs.chg {w w':World} (hc:Chg NoS w w'):∀ {A:Option Addr} {j:Nat} {l:List VT},RowIs w A j l->RowIs w' A j l
 |_,_,_,.nil A j=>.nil A j
 |_,_,_,.cons ad j t l e hcell h hr=>.cons ad j t l e (fun i hi=>by
   have h0:=hcell i hi;have hlt:∃ u,e.cells[i]?=some u:=⟨_,List.getElem?_eq_getElem (show i<e.cells.length from hi)⟩
   obtain⟨u,hu⟩:=hlt;rw [hu] at h0 ⊢;exact(hc.cell (by exact z05 h0) (fun e=>e)).trans h0) (ValIs.chg hc h) (RowIs.chg hc hr)
end
theorem RowIs.start {w:World} {A:Option Addr} {t:VT} {l:List VT} (h:RowIs w A 0 (t::l)):∃ b off,A=some ⟨b,off,none⟩:=by
 obtain⟨⟨b,off,sp⟩,e,rfl,hc,hv,hr⟩:=h.inv;have h0:=hc 0 (by decide);have hs:sp=none:=by simpa [Addr.add] using World.cell?_spot (h0.trans (show e.cells[0]?=some _ from rfl))
 exact⟨b,off,by rw [hs]⟩
theorem RowIs.plain {w:World} {b off j:Nat} {t:VT} {l:List VT} (h:RowIs w (some ⟨b,off,none⟩) j (t::l)):∃ e:VC,
  w.cell? ⟨b,off+j*4,none⟩=some (.int .i64 e.k)/\w.cell? ⟨b,off+j*4+1,none⟩=some (.int .i64 e.n)/\w.cell? ⟨b,off+j*4+2,none⟩=some (.string e.s)/\w.cell? ⟨b,off+j*4+3,none⟩=some (.slice e.A e.len e.cap)/\ValIs w t e/\RowIs w (some ⟨b,off,none⟩) (j+1) l:=by
 obtain⟨ad,e,hA,hc,hv,hr⟩:=h.inv;cases hA
 have hadd:∀ i,(⟨b,off,none⟩:Addr).add i=⟨b,off+i,none⟩:=fun i=>by unfold Addr.add;split<;>simp_all
 have h0:=hc 0 (by decide);have h1:=hc 1 (by decide);have h2:=hc 2 (by decide);have h3:=hc 3 (by decide);rw [hadd] at h0 h1 h2 h3;exact⟨e,h0,h1,h2,h3,hv,hr⟩
theorem v6x {w:World} {ad:Addr} {len:Nat} (f:Nat->VC × VT) (hf:∀ j,j<len->(∀ i,i<4->w.cell? (ad.add (j*4+i))=(f j).1.cells[i]?)/\ValIs w (f j).2 (f j).1):∀ (m j:Nat),j+m=len->∃ l:List VT,l.length=m/\RowIs w (some ad) j l:=by
 intro m;induction m with
 |zero=>intro j _;exact⟨[],rfl,.nil _ _⟩
 |succ m ih =>
  intro j hj;obtain⟨l,hl,hr⟩:=ih (j+1) (by omega);obtain⟨h1,h2⟩:=hf j (by omega);exact⟨(f j).2::l,by rw [List.length_cons,hl],.cons ad j _ l _ h1 h2 hr⟩
theorem v5e {H:Type} {en:TypeId × Value->H} {P:Program} {w:World} {base fuel:Nat} {spare:Nat->Bool} {held:Bool} {e:TypeId} {cs:List Value} {y:DataW H × List MemPlace} {f0 f1 f2 f3:Field}
  (he:P.underlying e=some (.struct #[f0,f1,f2,f3])) (hone:oneCellFields P #[f0,f1,f2,f3]=true) (hC:P.cellsOf e=4) (h:DataW.trod en P w base spare held fuel e cs=some y) :
  ∃ u v x z m y0 y1 y2 y3,fuel=m+1/\cs=[u,v,x,z]/\DataW.trod en P w base spare held m f0.type [u]=some y0/\DataW.trod en P w base spare held m f1.type [v]=some y1/\DataW.trod en P w base spare held m f2.type [x]=some y2/\DataW.trod en P w base spare held m f3.type [z]=some y3:=by
 obtain⟨xs,m,rfl,_,hl,hx,hf⟩:=DataW.trod_struct he h;rw [hC] at hl;obtain⟨o0,c0⟩:=hone_of hone 0 f0 rfl;obtain⟨o1,c1⟩:=hone_of hone 1 f1 rfl;obtain⟨o2,c2⟩:=hone_of hone 2 f2 rfl;obtain⟨o3,c3⟩:=hone_of hone 3 f3 rfl;have h0:=hf 0 f0 rfl;have h1:=hf 1 f1 rfl;have h2:=hf 2 f2 rfl;have h3:=hf 3 f3 rfl;rw [o0,c0] at h0;rw [o1,c1] at h1;rw [o2,c2] at h2;rw [o3,c3] at h3;match cs,hl with
 |[u,v,x,z],_ =>
  simp at hx;rw [List.getElem?_eq_getElem (by omega)] at h0 h1 h2 h3;exact⟨u,v,x,z,m,_,_,_,_,rfl,rfl,by simpa using h0,by simpa using h1,by simpa using h2,by simpa using h3⟩
theorem v8w {H:Type} {en:TypeId × Value->H} {w:World} {base:Nat} {spare:Nat->Bool} {held:Bool}:∀ (fuel:Nat) (cs:List Value) (y:DataW H × List MemPlace),DataW.trod en Tryz.prog w base spare held fuel 24 cs=some y->∃ (c:VC) (t:VT),cs=c.cells/\ValIs w t c:=by
 intro fuel;induction fuel using Nat.strongRecOn with
 |_ fuel ih =>
  intro cs y h;obtain⟨u,v,x,z,m,y0,y1,y2,y3,rfl,rfl,h0,h1,h2,h3⟩:=v5e Tryz.underlying24 (by kernel_rfl) (by kernel_rfl) h;obtain⟨z0,e0,g0⟩:=v2s Tryz.underlying3 h0;obtain⟨z1,e1,g1⟩:=v2s Tryz.underlying3 h1;obtain⟨s,e2,_,g2⟩:=DataW.trod_string Tryz.underlying9 h2;simp only [List.cons.injEq,and_true] at e0 e1 e2;subst e0 e1 e2;rcases DataW.trod_slice Tryz.underlying22 h3 with⟨e3,_⟩|⟨a,len,cap,elems,rest,n,rfl,e3,_,hb,hl,hm,hlen,hel,_,_⟩
  ·simp only [List.cons.injEq,and_true] at e3;subst e3;exact⟨⟨z0,z1,s,none,0,0⟩,_,rfl,.mk ⟨z0,z1,s,none,0,0⟩ [] ⟨bounds_i64 g0,bounds_i64 g1,g2,fun _=>⟨rfl,rfl⟩,Nat.le_refl _,Nat.zero_le _⟩ rfl (.nil _ _)⟩
  ·simp only [List.cons.injEq,and_true] at e3;subst e3
   have hex:∀ j,j<len->∃ p:VC × VT,(∀ i,i<4->w.cell? (a.add (j*4+i))=p.1.cells[i]?)/\ValIs w p.2 p.1:=by
    intro j hj;have h4:=hel j hj;rw [List.getElem?_eq_getElem (by omega)] at h4;obtain⟨cs',hcs',ht'⟩:=Option.bind_eq_some_iff.1 h4;rw [show Tryz.prog.cellsOf 24=4 from by kernel_rfl] at hcs';obtain⟨_,hcl,hat⟩:=World.cells?_some hcs';obtain⟨c,t,rfl,hv⟩:=ih n (by omega) cs' _ ht';exact⟨(c,t),fun i hi=>by rw [<- Go.Deep.add_add];exact hat i hi,hv⟩
   haveI:Inhabited VT:=⟨.mk 0 0 ⟨#[]⟩ []⟩
   obtain⟨f,hf⟩:=choose_lt hex;obtain⟨l,hll,hr⟩:=v6x f hf len 0 (by omega);exact⟨⟨z0,z1,s,some a,len,cap⟩,_,rfl,.mk ⟨z0,z1,s,some a,len,cap⟩ l ⟨bounds_i64 g0,bounds_i64 g1,g2,fun e=>(by cases e),hl,Nat.le_trans hl hm⟩ hll hr⟩
mutual
def z1h:VT->Nat
 |.mk _ _ _ l=>z1n l+1
def z1n:List VT->Nat
 |[]=>0
 |t::l=>z1h t+z1n l
end
mutual
def z07:VT->Nat
 |.mk k _ _ l=>if k=6\/k=7 then z0v 1 l else 1
def z0v:Nat->List VT->Nat
 |a,[]=>a
 |a,t::l=>z0v (if a<z07 t+1 then z07 t+1 else a) l
end
mutual
def z7i:VT->Int->Int
 |.mk _ _ _ l,left=>z7j l (left-1)
def z7j:List VT->Int->Int
 |[],left=>left
 |t::l,left=>if 0<=left then z7j l (z7i t left) else left
end
theorem z0f (k n:Int) (s:ByteArray) (l:List VT):z1h (.mk k n s l)=z1n l+1:=by rw [z1h]
theorem z08 (t:VT) (l:List VT):z1n (t::l)=z1h t+z1n l:=by rw [z1n]
theorem y5l:∀ (l:List VT) (j:Nat),z1n (l.drop j)<=z1n l:=by
 intro l;induction l with
 |nil=>intro j;simp
 |cons t l ih =>
  intro j;cases j with
  |zero=>exact Nat.le_refl _
  |succ j=>rw [List.drop_succ_cons,z08];have:=ih j;omega
theorem z2u {l:List VT} {j:Nat} {t:VT} (h:l[j]?=some t):z1h t<=z1n l:=by
 induction l generalizing j with
 |nil=>simp at h
 |cons x l ih =>
  rw [z08];cases j with
  |zero=>simp at h;subst h;omega
  |succ j=>have:=ih (by simpa using h);omega
theorem z3f (t:VT) (l:List VT) (left:Int):z7j (t::l) left=if 0<=left then z7j l (z7i t left) else left:=by rw [z7j]
theorem z94 (l:List VT) {left:Int} (h:¬0<=left):z7j l left=left:=by
 cases l with
 |nil=>rw [z7j]
 |cons t l=>rw [z3f,if_neg h]
theorem z1r (a:Nat) (t:VT) (l:List VT):z0v a (t::l)=z0v (if a<z07 t+1 then z07 t+1 else a) l:=by rw [z0v]
mutual
theorem y7r:∀ (t:VT) (left:Int),z7i t left<=left-1
 |.mk _ _ _ l,left=>by rw [z7i];exact y7t l (left-1)
theorem y7t:∀ (l:List VT) (left:Int),z7j l left<=left
 |[],left=>by rw [z7j];exact Int.le_refl _
 |t::l,left=>by
  rw [z3f];split
  ·have:=y7r t left;have:=y7t l (z7i t left);omega
  ·exact Int.le_refl _
end
mutual
theorem y7s:∀ (t:VT) (left:Int),-1<=left->-2<=z7i t left/\(0<=left->-1<=z7i t left)
 |.mk _ _ _ l,left=>fun h=>by
  rw [z7i];by_cases h0:0<=left
  ·have:=y7u l (left-1) (by omega);omega
  ·rw [z94 l (by omega)];omega
theorem y7u:∀ (l:List VT) (left:Int),-1<=left->-1<=z7j l left
 |[],left=>fun h=>by rw [z7j];exact h
 |t::l,left=>fun h=>by
  rw [z3f];split
  ·next h0=>exact y7u l (z7i t left) ((y7s t left h).2 h0)
  ·exact h
end
mutual
theorem z1m:∀ (t:VT),1<=z07 t/\z07 t<=z1h t
 |.mk k _ _ l=>by
  rw [z07,z0f];split
  ·exact z3g l 1 (Nat.le_refl _)
  ·omega
theorem z3g:∀ (l:List VT) (a:Nat),1<=a->a<=z0v a l/\z0v a l<=z1n l+a
 |[],a=>fun h=>by rw [z0v];omega
 |t::l,a=>fun h=>by
  have h1:=z1m t;rw [z1r,z08];split
  ·have h2:=z3g l (z07 t+1) (by omega);omega
  ·have h2:=z3g l a h;omega
end
theorem z00 {a b:Int} (h:a=b):Ending.returned (.int .i64 a)=.returned (.int .i64 b):=by rw [h]
theorem z0s {l:List VT} {k:Nat} (h:k<l.length):∃ t,l[k]?=some t/\l.drop k=t::l.drop (k+1):=⟨l[k],List.getElem?_eq_getElem h,List.drop_eq_getElem_cons h⟩
theorem RowIs.at_ {w w':World} {b off j:Nat} {t:VT} {l:List VT} (h:RowIs w (some ⟨b,off,none⟩) j (t::l)) (hc:Chg NoS w w'):∃ (ek en:Int) (es:ByteArray) (eA:Option Addr) (el ec:Nat),
  w'.cell? ⟨b,off+j*4,none⟩=some (.int .i64 ek)/\w'.cell? ⟨b,off+j*4+1,none⟩=some (.int .i64 en)/\w'.cell? ⟨b,off+j*4+2,none⟩=some (.string es)/\w'.cell? ⟨b,off+j*4+3,none⟩=some (.slice eA el ec)/\ValIs w' t ⟨ek,en,es,eA,el,ec⟩/\RowIs w (some ⟨b,off,none⟩) (j+1) l:=by
 obtain⟨⟨ek,en,es,eA,el,ec⟩,h0,h1,h2,h3,hv,hr⟩:=h.plain;refine⟨ek,en,es,eA,el,ec,?_,?_,?_,?_,hv.chg hc,hr⟩
 ·exact(hc.cell (p:=⟨b,_,none⟩) (by exact z05 h0) (fun e=>e)).trans h0
 ·exact(hc.cell (p:=⟨b,_,none⟩) (by exact z05 h1) (fun e=>e)).trans h1
 ·exact(hc.cell (p:=⟨b,_,none⟩) (by exact z05 h2) (fun e=>e)).trans h2
 ·exact(hc.cell (p:=⟨b,_,none⟩) (by exact z05 h3) (fun e=>e)).trans h3
theorem v3s:∀ (N:Nat) (t:VT),z1h t<=N->∀ (c:VC) (left:Int) (w:World),ValIs w t c->-1<=left->left<=1000000000 ->
  Calls Tryz.prog 12 #[c.val,.int .i64 left] w fun e w'=>e=.returned (.int .i64 (z7i t left))/\Chg NoS w w':=by
 intro N;induction N with
 |zero =>
  intro t ht;obtain⟨k,n,s,l⟩:=t;rw [z0f] at ht;omega
 |succ N ih =>
  intro t ht c left w hv hb1 hb2;obtain⟨tk,tn,ts,l⟩:=t;obtain⟨h1,h2,h3,hg,hl,hr⟩:=hv.inv;obtain⟨ck,cn,cs,A,len,cap⟩:=c;simp only [] at h1 h2 h3 hl hr;rw [z0f] at ht;have hcap:=hg.cap;have hlm:=hg.len;simp only [] at hcap hlm;unfold maxLen at hlm;have HL:=kf hl;have HR:=kf hr;have HF:=kf (show z7i (.mk tk tn ts l) left=z7j l (left-1) from by rw [z7i]);have HIH:=kf (fun(t':VT) (ht':z1h t'<=z1n l)=>ih t' (by omega));unfold VC.val;have HB:=kf (Blk.new w 24 #[.int .i64 ck,.int .i64 cn,.string cs,.slice A len cap]);have HC0:=kf ((Chg.refl NoS w).alloc (.cells #[.int .i64 ck,.int .i64 cn,.string cs,.slice A len cap] 24));obtain⟨W0,hW⟩:∃ W0,W0=w.alloc (.cells #[.int .i64 ck,.int .i64 cn,.string cs,.slice A len cap] 24):=⟨_,rfl⟩
  obtain⟨g,hgg⟩:∃ g,g=w.heap.size:=⟨_,rfl⟩
  rw [<- hW] at HB HC0;rw [<- hgg] at HB;clear hv h1 h2 h3 hg hl hr ih ht;go_enter Tryz.func12,Tryz.ntmps12;go_upto_region 3 with fail;rw [<- hgg,<- hW];clear hgg hW;go_loopw [1,5] (fun vl vk wr=>∃ (k:Nat) (le:Int),k<=len/\-2<=le/\le<=1000000000/\vl=.int .i64 le/\vk=.int .i64 (k:Nat)/\Hid (Chg NoS W0 wr)/\Hid (RowIs w A k (l.drop k))/\Hid (z7j l (left-1)=z7j (l.drop k) le)) (fun _ vk _=>len-(intOf vk).toNat)
  case atStart=>exact⟨0,left-1,by omega,by omega,by omega,rfl,rfl,Chg.refl _ _,by rw [List.drop_zero];exact HR.out,kf (by rw [List.drop_zero])⟩
  case round =>
   obtain⟨k,le,hk,hle1,hle2,rfl,rfl,HCW,HRW,HFW⟩:=hrel;have HBW:=kf (HB.out.chg HCW.out (fun e=>e));have HCR:=kf (HC0.out.trans HCW.out (fun _ _ e=>e));have q3:=HBW.out.cell 3;simp at q3;by_cases h1:k<len
   ·by_cases h2:0<=le
    ·obtain⟨t',ht',hd⟩:=z0s (l:=l) (k:=k) (by rw [HL.out];exact h1)
     obtain⟨b,off,rfl⟩:∃ b off,A=some ⟨b,off,none⟩:=by
      have h:=HR.out;cases hll:l with
      |nil=>rw [hll] at ht';simp at ht'
      |cons t0 l0=>rw [hll] at h;exact h.start
     have hrw:=HRW.out;rw [hd] at hrw;obtain⟨ek,en,es,eA,el,ec,c0,c1,c2,c3,hv',hr'⟩:=hrw.at_ HCR.out;have hge:=(y7s t' le (by omega)).2 h2;have hlt:=y7r t' le;have HX:=kf (HIH.out t' (z2u ht') ⟨ek,en,es,eA,el,ec⟩ le wr hv' (by omega) hle2);unfold VC.val at HX;simp only [] at HX;have HRN:=kf hr';have HFN:=kf (show z7j l (left-1)=z7j (l.drop (k+1)) (z7i t' le) from by rw [HFW.out,hd,z3f,if_pos h2]);obtain⟨r,hr9⟩:∃ r,r=z7i t' le:=⟨_,rfl⟩
     rw [<- hr9] at HX HFN hge hlt;have i1:(k:Int)<len:=by omega
     clear hrw hv' hr' hd ht' hr9;go_wp2_with (go_at_call 12;refine HX.out.mono ?_;rintro e w3 ⟨rfl,hc3⟩;have HC3:=kf (HCW.out.trans hc3 (fun _ _ e=>e));clear hc3);go_roundw
     case rel=>exact⟨k+1,r,by omega,by omega,by omega,rfl,by go_num,HC3,HRN,HFN⟩
     case measure=>simp [intOf];omega
    ·have d1:decide (0<=le)=false:=by simpa using h2
     have HE:=kf (z94 (l.drop k) h2);clear h2;go_wp2_with fail;go_ret;exact⟨z00 (by rw [HF.out,HFW.out,HE.out]),HCR.out⟩
   ·obtain rfl:k=len:=by omega
    have HE:=kf (show z7j (l.drop k) le=le from by rw [List.drop_of_length_le (by rw [HL.out];exact Nat.le_refl _),z7j]);go_wp2_with fail;go_ret;exact⟨z00 (by rw [HF.out,HFW.out,HE.out]),HCR.out⟩
theorem y9l (t:VT) (c:VC) (left:Int) (w:World) (hv:ValIs w t c) (h1:-1<=left) (h2:left<=1000000000) :
  Calls Tryz.prog 12 #[c.val,.int .i64 left] w fun e w'=>e=.returned (.int .i64 (z7i t left))/\Chg NoS w w':=v3s _ t (Nat.le_refl _) c left w hv h1 h2
theorem z7v (c:VC) (w:World):Calls Tryz.prog 62 #[c.val] w fun e w'=>e=.returned (.bool (decide (c.k=6\/c.k=7)))/\Chg NoS w w':=by
 obtain⟨ck,cn,cs,A,len,cap⟩:=c;unfold VC.val;simp only [];by_cases h6:ck=6
 ·subst h6;go_enter Tryz.func62,Tryz.ntmps62;go_wp2_with fail;go_ret;exact⟨by simp,(Chg.refl NoS w).alloc _⟩
 ·have e6:(ck==6)=false:=by simpa using h6
  by_cases h7:ck=7
  ·subst h7;go_enter Tryz.func62,Tryz.ntmps62;go_wp2_with fail;go_ret;exact⟨by simp,(Chg.refl NoS w).alloc _⟩
  ·have e7:(ck==7)=false:=by simpa using h7
   have HD:=kf (show decide (ck=6\/ck=7)=false from by simp [h6,h7]);clear h6 h7;go_enter Tryz.func62,Tryz.ntmps62;go_wp2_with fail;go_ret;exact⟨by rw [HD.out];rfl,(Chg.refl NoS w).alloc _⟩
theorem y5y:∀ (N:Nat) (t:VT),z1h t<=N->N<=1000000000->∀ (c:VC) (w:World),ValIs w t c ->
  Calls Tryz.prog 40 #[c.val] w fun e w'=>e=.returned (.int .i64 (z07 t:Nat))/\Chg NoS w w':=by
 intro N;induction N with
 |zero =>
  intro t ht;obtain⟨k,n,s,l⟩:=t;rw [z0f] at ht;omega
 |succ N ih =>
  intro t ht hN c w hv;obtain⟨tk,tn,ts,l⟩:=t;obtain⟨h1,h2,h3,hg,hl,hr⟩:=hv.inv;have HH:=kf (fun(W:World)=>z7v c W);obtain⟨ck,cn,cs,A,len,cap⟩:=c;simp only [] at h1 h2 h3 hl hr;subst h1;rw [z0f] at ht;have hcap:=hg.cap;have hlm:=hg.len;simp only [] at hcap hlm;unfold maxLen at hlm;have HL:=kf hl;have HR:=kf hr;have HIH:=kf (fun(t':VT) (ht':z1h t'<=z1n l)=>ih t' (by omega) (by omega));unfold VC.val at HH;unfold VC.val;simp only [] at HH ⊢;have HB:=kf (Blk.new w 24 #[.int .i64 ck,.int .i64 cn,.string cs,.slice A len cap]);have HC0:=kf ((Chg.refl NoS w).alloc (.cells #[.int .i64 ck,.int .i64 cn,.string cs,.slice A len cap] 24));obtain⟨W0,hW⟩:∃ W0,W0=w.alloc (.cells #[.int .i64 ck,.int .i64 cn,.string cs,.slice A len cap] 24):=⟨_,rfl⟩
  obtain⟨g,hgg⟩:∃ g,g=w.heap.size:=⟨_,rfl⟩
  rw [<- hW] at HB HC0;rw [<- hgg] at HB;have p0:=HB.out.cell 0;have p1:=HB.out.cell 1;have p2:=HB.out.cell 2;have p3:=HB.out.cell 3;simp at p0 p1 p2 p3;have hsz:z1n l<=1000000000:=by omega
  clear hv h2 h3 hg hl hr ih ht;by_cases h67:ck=6\/ck=7
  ·have HD:=kf (show z07 (.mk ck tn ts l)=z0v 1 l from by rw [z07,if_pos h67]);have hdl:=(z3g l 1 (Nat.le_refl _)).2;rw [show decide (ck=6\/ck=7)=true from by simpa using h67] at HH;clear h67;go_enter Tryz.func40,Tryz.ntmps40;go_upto_region 1 with fail;rw [<- hgg,<- hW];clear hgg hW;go_upto_region 5 with(go_at_call 62;refine(HH.out _).mono ?_;rintro e w2 ⟨rfl,hc2⟩;have HC2:=kf hc2;clear hc2);clear p0 p1 p2 p3;go_loopw [3,4] (fun vd vk wr=>∃ (k d:Nat),k<=len/\1<=d/\d<=1000000001/\vd=.int .i64 (d:Nat)/\vk=.int .i64 (k:Nat)/\Hid (Chg NoS W0 wr)/\Hid (RowIs w A k (l.drop k))/\Hid (z0v 1 l=z0v d (l.drop k))) (fun _ vk _=>len-(intOf vk).toNat)
   case atStart=>exact⟨0,1,by omega,by omega,by omega,rfl,rfl,HC2,by rw [List.drop_zero];exact HR.out,kf (by rw [List.drop_zero])⟩
   case round =>
    obtain⟨k,d,hk,hd1,hd2,rfl,rfl,HCW,HRW,HFW⟩:=hrel;have HBW:=kf (HB.out.chg HCW.out (fun e=>e));have HCR:=kf (HC0.out.trans HCW.out (fun _ _ e=>e));have q3:=HBW.out.cell 3;simp at q3;by_cases h1:k<len
    ·obtain⟨t',ht',hd⟩:=z0s (l:=l) (k:=k) (by rw [HL.out];exact h1)
     obtain⟨b,off,rfl⟩:∃ b off,A=some ⟨b,off,none⟩:=by
      have h:=HR.out;cases hll:l with
      |nil=>rw [hll] at ht';simp at ht'
      |cons t0 l0=>rw [hll] at h;exact h.start
     have hrw:=HRW.out;rw [hd] at hrw;obtain⟨ek,en,es,eA,el,ec,c0,c1,c2,c3,hv',hr'⟩:=hrw.at_ HCR.out;have hdl2:=(z1m t').2;have hsl:=z2u ht';have HX:=kf (HIH.out t' (z2u ht') ⟨ek,en,es,eA,el,ec⟩ wr hv');unfold VC.val at HX;simp only [] at HX;have HRN:=kf hr';have HFN:=kf (show z0v 1 l=z0v (if d<z07 t'+1 then z07 t'+1 else d) (l.drop (k+1)) from by rw [HFW.out,hd,z1r]);have hr8:z07 t'<=1000000000:=by omega
     obtain⟨r,hr9⟩:∃ r,r=z07 t':=⟨_,rfl⟩
     rw [<- hr9] at HX HFN hr8;have i1:(k:Int)<len:=by omega
     clear hrw hv' hr' hd ht' hr9 hdl2 hsl hdl hsz;by_cases h5:d<r+1
     ·have HFM:=kf (show z0v 1 l=z0v (r+1) (l.drop (k+1)) from by rw [HFN.out,if_pos h5]);have d5:decide ((d:Int)<(r:Int)+1)=true:=by simp;omega
      clear h5;go_wp2_with (go_at_call 40;refine HX.out.mono ?_;rintro e w3 ⟨rfl,hc3⟩;have HC3:=kf (HCW.out.trans hc3 (fun _ _ e=>e));clear hc3);go_roundw
      case rel=>exact⟨k+1,r+1,by omega,by omega,by omega,by go_num,by go_num,HC3,HRN,HFM⟩
      case measure=>simp [intOf];omega
     ·have HFM:=kf (show z0v 1 l=z0v d (l.drop (k+1)) from by rw [HFN.out,if_neg h5]);have d5:decide ((d:Int)<(r:Int)+1)=false:=by simp;omega
      clear h5;go_wp2_with (go_at_call 40;refine HX.out.mono ?_;rintro e w3 ⟨rfl,hc3⟩;have HC3:=kf (HCW.out.trans hc3 (fun _ _ e=>e));clear hc3);go_roundw
      case rel=>exact⟨k+1,d,by omega,by omega,by omega,rfl,by go_num,HC3,HRN,HFM⟩
      case measure=>simp [intOf];omega
    ·obtain rfl:k=len:=by omega
     have HE:=kf (show z0v d (l.drop k)=d from by rw [List.drop_of_length_le (by rw [HL.out];exact Nat.le_refl _),z0v]);go_wp2_with fail;go_ret;exact⟨z00 (by rw [HD.out,HFW.out,HE.out]),HCR.out⟩
  ·have HD:=kf (show z07 (.mk ck tn ts l)=1 from by rw [z07,if_neg h67]);rw [show decide (ck=6\/ck=7)=false from by simpa using h67] at HH;clear h67;go_enter Tryz.func40,Tryz.ntmps40;go_upto_region 1 with fail;rw [<- hgg,<- hW];clear hgg hW;go_wp2_with (go_at_call 62;refine(HH.out _).mono ?_;rintro e w2 ⟨rfl,hc2⟩;have HC2:=kf hc2;clear hc2);go_ret;exact⟨z00 (by rw [HD.out];rfl),HC0.out.trans HC2.out (fun _ _ e=>e)⟩
theorem y46 (t:VT) (c:VC) (w:World) (hv:ValIs w t c) (hs:z1h t<=1000000000) :
  Calls Tryz.prog 40 #[c.val] w fun e w'=>e=.returned (.int .i64 (z07 t:Nat))/\Chg NoS w w':=y5y _ t (Nat.le_refl _) hs c w hv
def z3v (k n:Int):Prop:=(k=2/\-2147483647<=n/\n<=2147483647)\/(k=3/\-2147483647000000<=n/\n<=2147483647000000)
instance (k n:Int):Decidable (z3v k n):=inferInstanceAs (Decidable (_\/_))
def z0h (k n:Int) (sz len:Nat):Int:=if sz=0/\len=0/\z3v k n then 0 else 2
theorem z0y {s:ByteArray} (h:s.size=0):s=⟨#[]⟩:=by
 obtain⟨a⟩:=s;have h:a.size=0:=h;rw [Array.eq_empty_of_size_eq_zero h]
theorem z7r {s:ByteArray} (h:s.size≠0):¬s.toList=[]:=by
 rw [ByteArray.toList_eq];obtain⟨⟨l⟩⟩:=s;have h:l.length≠0:=h;rcases l with _|⟨x,l⟩
 ·simp at h
 ·intro h2;cases h2
theorem y9o (k n:Int) (s:ByteArray) (A:Option Addr) (len cap:Nat) (w:World) :
  Calls Tryz.prog 86 #[.agg #[.int .i64 k,.int .i64 n,.string s,.slice A len cap]] w fun e w'=>e=.returned (.int .i64 (z0h k n s.size len))/\Chg NoS w w':=by
 by_cases hs:s.size=0
 ·obtain rfl:=z0y hs;by_cases hl:len=0
  ·subst hl
   have HB:Hid (∀ z:Int,(z3v k n/\z=0)\/(¬z3v k n/\z=2)->z0h k n (ByteArray.mk #[]).size 0=z):=by
    rintro z (⟨h,rfl⟩|⟨h,rfl⟩)
    ·exact if_pos ⟨rfl,rfl,h⟩
    ·exact if_neg (fun h2=>h h2.2.2)
   by_cases h2:k=2
   ·subst h2;by_cases c1:-2147483647<=n
    ·have d1:decide (-2147483647<=n)=true:=by simpa using c1
     by_cases c2:n<=2147483647
     ·have d2:decide (n<=2147483647)=true:=by simpa using c2
      have HZ:=kf (HB.out 0 (.inl ⟨.inl ⟨rfl,c1,c2⟩,rfl⟩));go_enter Tryz.func86,Tryz.ntmps86;go_wp2_with fail;go_ret;refine⟨?_,(Chg.refl NoS w).alloc _⟩;show _=Ending.returned (Value.int IntKind.i64 (z0h _ _ (ByteArray.mk #[]).size _));rw [HZ.out];rfl
     ·have d2:decide (n<=2147483647)=false:=by simpa using c2
      have HZ:=kf (HB.out 2 (.inr ⟨fun h=>by unfold z3v at h;omega,rfl⟩));go_enter Tryz.func86,Tryz.ntmps86;go_wp2_with fail;go_ret;refine⟨?_,(Chg.refl NoS w).alloc _⟩;show _=Ending.returned (Value.int IntKind.i64 (z0h _ _ (ByteArray.mk #[]).size _));rw [HZ.out];rfl
    ·have d1:decide (-2147483647<=n)=false:=by simpa using c1
     have HZ:=kf (HB.out 2 (.inr ⟨fun h=>by unfold z3v at h;omega,rfl⟩));go_enter Tryz.func86,Tryz.ntmps86;go_wp2_with fail;go_ret;refine⟨?_,(Chg.refl NoS w).alloc _⟩;show _=Ending.returned (Value.int IntKind.i64 (z0h _ _ (ByteArray.mk #[]).size _));rw [HZ.out];rfl
   ·have u2:(k==2)=false:=by simpa using h2
    by_cases h3:k=3
    ·subst h3;by_cases c1:-2147483647000000<=n
     ·have d1:decide (-2147483647000000<=n)=true:=by simpa using c1
      by_cases c2:n<=2147483647000000
      ·have d2:decide (n<=2147483647000000)=true:=by simpa using c2
       have HZ:=kf (HB.out 0 (.inl ⟨.inr ⟨rfl,c1,c2⟩,rfl⟩));clear h2 u2;go_enter Tryz.func86,Tryz.ntmps86;go_wp2_with fail;go_ret;refine⟨?_,(Chg.refl NoS w).alloc _⟩;show _=Ending.returned (Value.int IntKind.i64 (z0h _ _ (ByteArray.mk #[]).size _));rw [HZ.out];rfl
      ·have d2:decide (n<=2147483647000000)=false:=by simpa using c2
       have HZ:=kf (HB.out 2 (.inr ⟨fun h=>by unfold z3v at h;omega,rfl⟩));clear h2 u2;go_enter Tryz.func86,Tryz.ntmps86;go_wp2_with fail;go_ret;refine⟨?_,(Chg.refl NoS w).alloc _⟩;show _=Ending.returned (Value.int IntKind.i64 (z0h _ _ (ByteArray.mk #[]).size _));rw [HZ.out];rfl
     ·have d1:decide (-2147483647000000<=n)=false:=by simpa using c1
      have HZ:=kf (HB.out 2 (.inr ⟨fun h=>by unfold z3v at h;omega,rfl⟩));clear h2 u2;go_enter Tryz.func86,Tryz.ntmps86;go_wp2_with fail;go_ret;refine⟨?_,(Chg.refl NoS w).alloc _⟩;show _=Ending.returned (Value.int IntKind.i64 (z0h _ _ (ByteArray.mk #[]).size _));rw [HZ.out];rfl
    ·have u3:(k==3)=false:=by simpa using h3
     have HZ:=kf (HB.out 2 (.inr ⟨fun h=>by unfold z3v at h;omega,rfl⟩));go_enter Tryz.func86,Tryz.ntmps86;go_wp2_with fail;go_ret;refine⟨?_,(Chg.refl NoS w).alloc _⟩;show _=Ending.returned (Value.int IntKind.i64 (z0h _ _ (ByteArray.mk #[]).size _));rw [HZ.out];rfl
  ·have u1:((len:Int)==0)=false:=by simp;omega
   have u1':((len:Int) != 0)=true:=by simp;omega
   have HZ:Hid (z0h k n (ByteArray.mk #[]).size len=2):=if_neg (fun h=>hl h.2.1);go_enter Tryz.func86,Tryz.ntmps86;go_wp2_with fail;go_ret;refine⟨?_,(Chg.refl NoS w).alloc _⟩;show _=Ending.returned (Value.int IntKind.i64 (z0h _ _ (ByteArray.mk #[]).size _));rw [HZ.out];rfl
 ·have u1:=z7r hs;have HZ:Hid (z0h k n s.size len=2):=if_neg (fun h=>hs h.1);clear hs;go_enter Tryz.func86,Tryz.ntmps86;go_wp2_with fail;go_ret;rw [HZ.out];exact⟨rfl,(Chg.refl NoS w).alloc _⟩
def VT.kind:VT->Int|.mk k _ _ _=>k
def VT.num:VT->Int|.mk _ n _ _=>n
def VT.str:VT->ByteArray|.mk _ _ s _=>s
def VT.row:VT->List VT|.mk _ _ _ l=>l
theorem RowIs.drop_ {w:World} {A:Option Addr}:∀ (j:Nat) {i:Nat} {l:List VT},RowIs w A i l->j<=l.length->RowIs w A (i+j) (l.drop j):=by
 intro j;induction j with
 |zero=>intro i l h _;exact h
 |succ j ih =>
  intro i l h hj;match l,hj with
  |t::l,hj =>
   obtain⟨ad,e,_,_,_,hr⟩:=h.inv;have h2:=ih hr (by simpa using hj);rw [show i+(j+1)=i+1+j from by omega,List.drop_succ_cons];exact h2
theorem RowIs.nth {w w':World} {b off j:Nat} {l:List VT} {t:VT} (h:RowIs w (some ⟨b,off,none⟩) 0 l) (hc:Chg NoS w w') (ht:l[j]?=some t):∃ (eA:Option Addr) (el ec:Nat),
  w'.cell? ⟨b,off+j*4,none⟩=some (.int .i64 t.kind)/\w'.cell? ⟨b,off+j*4+1,none⟩=some (.int .i64 t.num)/\w'.cell? ⟨b,off+j*4+2,none⟩=some (.string t.str)/\w'.cell? ⟨b,off+j*4+3,none⟩=some (.slice eA el ec)/\ValIs w' t ⟨t.kind,t.num,t.str,eA,el,ec⟩:=by
 have hj:j<l.length:=(List.getElem?_eq_some_iff.1 ht).1;have h2:=h.drop_ j (by omega);obtain⟨t',ht',hd⟩:=z0s hj;obtain rfl:t=t':=by rw [ht] at ht';exact Option.some.inj ht'
 rw [hd,Nat.zero_add] at h2;obtain⟨ek,en,es,eA,el,ec,c0,c1,c2,c3,hv,_⟩:=h2.at_ hc;obtain⟨k,n,s,l'⟩:=t;obtain⟨e1,e2,e3,_⟩:=hv.inv;simp only [] at e1 e2 e3;subst e1 e2 e3;exact⟨eA,el,ec,c0,c1,c2,c3,hv⟩
theorem y38 (a b:List UInt8):(Op.bytesLess a b || a==b)=!(Op.bytesLess b a):=by
 rw [Go.Proofs.bytesLess_eq,Go.Proofs.bytesLess_eq];by_cases h:a<b
 ·simp [h,List.lt_asymm h]
 ·by_cases e:a=b
  ·subst e;simp [List.lt_irrefl]
  ·have h2:b<a:=by
    rcases Classical.em (b<a) with h3|h3
    ·exact h3
    ·exact absurd (List.le_antisymm (List.not_lt.1 h3) (List.not_lt.1 h)) e
   simp [h,e,h2]
def z1w (s:ByteArray):Prop:=(∀ d∈sl s,d≠0)/\s.size<=127
instance (s:ByteArray):Decidable (z1w s):=inferInstanceAs (Decidable (_/\_))
theorem y19 (s:ByteArray) (w:World) (hl:s.size<=maxLen) :
  Calls Tryz.prog 87 #[.string s] w fun e w'=>e=.returned (.bool (decide (z1w s)))/\w=w':=by
 unfold maxLen at hl;obtain⟨n,hn⟩:∃ n,s.size=n:=⟨_,rfl⟩
 have HLN:Hid ((sl s).length=n):=by show _=_;rw [z3c,hn]
 have HAT:=kf (fun k (h:k<n)=>(fun h2=>z9x s k h2:∀ h2:k<s.size,(s[k]'h2).toNat=(sl s).getD k 0));have HGT:=kf (fun k (h:k<n)=>z9w (s:=s) (k:=k) (by rw [hn];exact h));have HSZ:=kf hn;rw [hn] at hl;go_enter Tryz.func87,Tryz.ntmps87;go_wp2_with fail;go_loop [3] (fun vk=>∃ k:Nat,k<=n/\vk=.int .i64 (k:Nat)/\Hid (∀ d∈(sl s).take k,d≠0)) (fun vk=>n-(intOf vk).toNat)
 case atStart=>exact⟨0,Nat.zero_le _,by go_num,fun d hd=>by simp at hd⟩
 case round =>
  obtain⟨k,hk,rfl,HD⟩:=hrel;by_cases hlt:k<n
  ·obtain⟨x,hx⟩:∃ x,(sl s).getD k 0=x:=⟨_,rfl⟩
   have hxa:=HAT.out k hlt;have HG:=HGT.out k hlt;rw [hx] at hxa HG;have HGX:=kf HG;clear hx HG;have i0:(k:Int)<n:=by omega
   by_cases h0:x=0
   ·subst h0
    have HB:Hid (decide (z1w s)=false):=by
     show _=_;rw [decide_eq_false_iff_not];exact fun h=>h.1 0 (List.mem_of_getElem? HGX.out) rfl
    go_wp2_with fail;go_ret;rw [HB.out];exact⟨rfl,rfl⟩
   ·have d0:((x:Int)==0)=false:=by simpa using h0
    have d0':(x==0)=false:=by simpa using h0
    have HX0:=kf h0;clear h0;go_wp2_with fail;go_round
    case rel =>
     refine⟨k+1,by omega,by go_num,?_⟩;show ∀ d∈(sl s).take (k+1),d≠0;rw [z27 HGX.out];intro d hd;rcases List.mem_append.1 hd with h|h
     ·exact HD.out d h
     ·rw [List.mem_singleton] at h;subst h;exact HX0.out
    case measure=>simp [intOf];omega
  ·obtain rfl:n=k:=by omega
   have HALL:Hid (∀ d∈sl s,d≠0):=by
    have h:=HD.out;rwa [List.take_of_length_le (by rw [HLN.out];exact Nat.le_refl _)] at h
   by_cases h127:n<=127
   ·have d1:decide ((n:Int)<=127)=true:=by simp;omega
    have d1':decide (n<=127)=true:=by simp;omega
    have HB:Hid (decide (z1w s)=true):=by
     show _=_;rw [decide_eq_true_iff];exact⟨HALL.out,by rw [HSZ.out];exact h127⟩
    go_wp2_with fail;go_ret;rw [HB.out];exact⟨rfl,rfl⟩
   ·have d1:decide ((n:Int)<=127)=false:=by simp;omega
    have d1':decide (n<=127)=false:=by simp;omega
    have HB:Hid (decide (z1w s)=false):=by
     show _=_;rw [decide_eq_false_iff_not];exact fun h=>h127 (by rw [<- HSZ.out];exact h.2)
    go_wp2_with fail;go_ret;rw [HB.out];exact⟨rfl,rfl⟩
def z6u (l:List VT):Prop:=∀ j t,l[2*j]?=some t->t.kind=5
def y45 (l:List VT):Prop:=∀ j t u,l[2*j]?=some t->l[2*j+2]?=some u->Op.bytesLess t.str.toList u.str.toList=true
open Classical in
noncomputable def z49 (n:Int) (sz:Nat) (l:List VT):Int:=if n≠0\/sz≠0\/l.length%2≠0\/¬z6u l then 2 else if y45 l then 0 else 16
theorem z22 {n:Int} {sz:Nat} {l:List VT} (h:n≠0\/sz≠0\/l.length%2≠0\/¬z6u l):z49 n sz l=2:=if_pos h
theorem y3f {l:List VT} (h1:l.length%2=0) (h2:z6u l) (h3:¬y45 l):z49 0 0 l=16:=by
 unfold z49;rw [if_neg (by rintro(h|h|h|h);exact h rfl;exact h rfl;exact h h1;exact h h2),if_neg h3]
theorem y1y {l:List VT} (h1:l.length%2=0) (h2:z6u l) (h3:y45 l):z49 0 0 l=0:=by
 unfold z49;rw [if_neg (by rintro(h|h|h|h);exact h rfl;exact h rfl;exact h h1;exact h h2),if_pos h3]
theorem z1j {s:ByteArray} (h:s.size≠0):s.toList.isEmpty=false:=by
 have h:=z7r h;cases hl:s.toList with
 |nil=>exact absurd hl h
 |cons x l=>rfl
theorem y5x (c:VC) (l:List VT) (w:World) (hv:ValIs w (.mk c.k c.n c.s l) c) :
  Calls Tryz.prog 88 #[c.val] w fun e w'=>e=.returned (.int .i64 (z49 c.n c.s.size l))/\Chg NoS w w':=by
 obtain⟨_,_,_,hg,hl,hr⟩:=hv.inv;obtain⟨k,n,s,A,len,cap⟩:=c;simp only [] at hl hr;have hcap:=hg.cap;have hlm:=hg.len;simp only [] at hcap hlm;unfold maxLen at hlm;unfold VC.val;simp only [];have HB:=kf (Blk.new w 24 #[.int .i64 k,.int .i64 n,.string s,.slice A len cap]);have HC0:=kf ((Chg.refl NoS w).alloc (.cells #[.int .i64 k,.int .i64 n,.string s,.slice A len cap] 24));obtain⟨W0,hW⟩:∃ W0,W0=w.alloc (.cells #[.int .i64 k,.int .i64 n,.string s,.slice A len cap] 24):=⟨_,rfl⟩
 obtain⟨g,hgg⟩:∃ g,g=w.heap.size:=⟨_,rfl⟩
 rw [<- hW] at HB HC0;rw [<- hgg] at HB;have p1:=HB.out.cell 1;have p2:=HB.out.cell 2;have p3:=HB.out.cell 3;simp at p1 p2 p3;clear hv hg;by_cases hn:n=0
 ·subst hn;by_cases hs:s.size=0
  ·obtain rfl:=z0y hs;obtain⟨r,hr2⟩:∃ r:Nat,len%2=r:=⟨_,rfl⟩
   have t1:(len:Int).tmod 2=(r:Int):=by rw [Int.tmod_eq_emod_of_nonneg (by omega)];omega
   have t2:(len:Int)%2=(r:Int):=by omega
   by_cases h2:r=0
   ·subst h2;have HEV:=kf (show l.length%2=0 from by rw [hl];exact hr2);have HL:=kf hl;have HR:=kf hr;have HLE:=kf hr2;clear hr2 hl hr hs;go_enter Tryz.func88,Tryz.ntmps88;go_upto_region 1 with fail;rw [<- hgg,<- hW];clear hgg hW;go_upto_region 4 with fail;go_loop [3] (fun vk=>∃ j:Nat,2*j<=len/\vk=.int .i64 ((2*j:Nat):Int)/\Hid (∀ i t,i<j->l[2*i]?=some t->t.kind=5)) (fun vk=>len-(intOf vk).toNat)
    case atStart=>exact⟨0,by omega,by go_num,fun i t hi=>absurd hi (Nat.not_lt_zero i)⟩
    case round =>
     obtain⟨j,hj,rfl,HN⟩:=hrel;obtain⟨q,hq⟩:∃ q,q=2*j:=⟨_,rfl⟩
     rw [<- hq] at hj ⊢;have HQ:=kf hq;clear hq;by_cases h1:q<len
     ·obtain⟨t,ht,_⟩:=z0s (l:=l) (k:=q) (by rw [HL.out];exact h1)
      obtain⟨b,off,rfl⟩:∃ b off,A=some ⟨b,off,none⟩:=by
       have h:=HR.out;cases hll:l with
       |nil=>rw [hll] at ht;simp at ht
       |cons t0 l0=>rw [hll] at h;exact h.start
      obtain⟨eA,el,ec,c0,_,_,_,_⟩:=HR.out.nth HC0.out ht;have i1:(q:Int)<len:=by omega
      obtain⟨tk,htk⟩:∃ tk,t.kind=tk:=⟨_,rfl⟩
      rw [htk] at c0;have HT:=kf ht;have HTK:=kf htk;clear ht htk;by_cases h5:tk=5
      ·subst h5;go_wp2_with fail;go_round
       case rel =>
        refine⟨j+1,by have:=HQ.out;have:=HLE.out;omega,by have:=HQ.out;first|(go_num;done)|(go_num;omega),fun i t' hi hit=>?_⟩;rcases Nat.lt_or_ge i j with h|h
        ·exact HN.out i t' h hit
        ·obtain rfl:i=j:=by omega
         rw [<- HQ.out,HT.out] at hit;cases hit
         exact HTK.out
       case measure=>simp [intOf];omega
      ·have e5:(tk==5)=false:=by simpa using h5
       have e5':(tk != 5)=true:=by simpa using h5
       have HE:=kf (z22 (n:=0) (sz:=0) (l:=l) (.inr (.inr (.inr (fun h=>h5 (by rw [<- HTK.out];exact h j t (by rw [<- HQ.out];exact HT.out)))))));clear h5;go_wp2_with fail;go_ret;exact⟨z00 HE.out.symm,HC0.out⟩
     ·have HNM:Hid (z6u l):=fun i t hit=>HN.out i t (by
       have h:=(List.getElem?_eq_some_iff.1 hit).1;rw [HL.out] at h;have:=HQ.out;omega) hit
      go_upto_region 9 with fail;go_loopw [4] (fun vk wr=>∃ j:Nat,2*j<=len/\vk=.int .i64 ((2*j+2:Nat):Int)/\Hid (Chg NoS W0 wr)/\Hid (∀ i t u,i<j->l[2*i]?=some t->l[2*i+2]?=some u->Op.bytesLess t.str.toList u.str.toList=true)) (fun vk _=>len+2-(intOf vk).toNat)
      case atStart=>exact⟨0,by omega,by go_num,Chg.refl _ _,fun i t u hi=>absurd hi (Nat.not_lt_zero i)⟩
      case round =>
       obtain⟨m,hm,rfl,HCW,HM⟩:=hrel;have HBW:=kf (HB.out.chg HCW.out (fun e=>e));have HCR:=kf (HC0.out.trans HCW.out (fun _ _ e=>e));clear p1 p2 p3;have q3:=HBW.out.cell 3;simp at q3;obtain⟨p,hp⟩:∃ p,p=2*m:=⟨_,rfl⟩
       obtain⟨z,hz⟩:∃ z,z=2*m+2:=⟨_,rfl⟩
       rw [<- hz];rw [<- hp] at hm;have ez:(z:Int)-2=(p:Int):=by omega
       have hzp:z<=len+2:=by omega
       have HPP:=kf hp;have HZZ:=kf hz;clear hp hz;by_cases h3:z<len
       ·have hp3:p<len:=by omega
        obtain⟨t,ht,_⟩:=z0s (l:=l) (k:=p) (by rw [HL.out];exact hp3);obtain⟨u,hu,_⟩:=z0s (l:=l) (k:=z) (by rw [HL.out];exact h3)
        obtain⟨b,off,rfl⟩:∃ b off,A=some ⟨b,off,none⟩:=by
         have h:=HR.out;cases hll:l with
         |nil=>rw [hll] at ht;simp at ht
         |cons t0 l0=>rw [hll] at h;exact h.start
        obtain⟨eA,el,ec,_,_,c2,_,_⟩:=HR.out.nth HCR.out ht;obtain⟨eA',el',ec',_,_,c2',_,_⟩:=HR.out.nth HCR.out hu;have k1:IntKind.i64.wrap (p:Int)=(p:Int):=by rw [IntKind.wrap_i64];omega
        have k2:IntKind.i64.wrap ((z:Int)-2)=(p:Int):=by rw [ez,k1]
        have i1:(z:Int)<len:=by omega
        have i2:(p:Int)<len:=by omega
        have i3:(0:Int)<=(z:Int)-2:=by omega
        have i4:(z:Int)-2<len:=by omega
        obtain⟨ts,hts⟩:∃ ts,t.str=ts:=⟨_,rfl⟩
        obtain⟨us,hus⟩:∃ us,u.str=us:=⟨_,rfl⟩
        rw [hts] at c2;rw [hus] at c2';have HT:=kf ht;have HU:=kf hu;have HTS:=kf hts;have HUS:=kf hus;clear ht hu hts hus;go_upto_region 11 with fail;by_cases hb:Op.bytesLess ts.toList us.toList=true
        ·have HBL:=kf hb;have f1:(Op.bytesLess us.toList ts.toList || us.toList==ts.toList)=false:=by rw [y38,hb];rfl
         clear hb;go_quiet (fail);go_wp2_with fail;go_roundw
         case rel =>
          refine⟨m+1,by have:=HPP.out;have:=HZZ.out;have:=HLE.out;omega,by have:=HZZ.out;first|(go_num;done)|(go_num;omega),HCW.out.drewN nq,fun i t' u' hi hit hiu=>?_⟩;rcases Nat.lt_or_ge i m with h|h
          ·exact HM.out i t' u' h hit hiu
          ·obtain rfl:i=m:=by omega
           rw [<- HPP.out,HT.out] at hit;rw [<- HZZ.out,HU.out] at hiu;cases hit
           cases hiu
           rw [HTS.out,HUS.out];exact HBL.out
         case measure=>simp [intOf];omega
        ·have hb2:Op.bytesLess ts.toList us.toList=false:=by simpa using hb
         have HE:=kf (y3f HEV.out HNM.out (fun h=>hb (by rw [<- HTS.out,<- HUS.out];exact h m t u (by rw [<- HPP.out];exact HT.out) (by rw [<- HZZ.out];exact HU.out))));have f1:(Op.bytesLess us.toList ts.toList || us.toList==ts.toList)=true:=by rw [y38,hb2];rfl
         clear hb hb2;go_quiet (fail);go_wp2_with fail;go_ret;exact⟨z00 HE.out.symm,HCR.out.drewN nq⟩
       ·have HRI:Hid (y45 l):=fun i t u hit hiu=>HM.out i t u (by
         have h:=(List.getElem?_eq_some_iff.1 hiu).1;rw [HL.out] at h;have:=HZZ.out;omega) hit hiu
        have HE:=kf (y1y HEV.out HNM.out HRI.out);go_wp2_with fail;go_ret;exact⟨z00 HE.out.symm,HCR.out⟩
   ·have e2:((r:Int)==0)=false:=by simpa using h2
    have e2':((r:Int) != 0)=true:=by simpa using h2
    have HE:=kf (z22 (n:=0) (sz:=(ByteArray.mk #[]).size) (l:=l) (.inr (.inr (.inl (by rw [hl,hr2];exact h2)))));clear h2 hr2 hl hr hs;go_enter Tryz.func88,Tryz.ntmps88;go_upto_region 1 with fail;rw [<- hgg,<- hW];clear hgg hW;go_wp2_with fail;go_ret;exact⟨z00 HE.out.symm,HC0.out⟩
  ·have u1:=z7r hs;have HE:=kf (z22 (n:=0) (sz:=s.size) (l:=l) (.inr (.inl hs)));clear hs hl hr;go_enter Tryz.func88,Tryz.ntmps88;go_upto_region 1 with fail;rw [<- hgg,<- hW];clear hgg hW;go_wp2_with fail;go_ret;exact⟨z00 HE.out.symm,HC0.out⟩
 ·have e1:(n==0)=false:=by simpa using hn
  have e1':(n != 0)=true:=by simpa using hn
  have HE:=kf (z22 (n:=n) (sz:=s.size) (l:=l) (.inl hn));clear hn hl hr;go_enter Tryz.func88,Tryz.ntmps88;go_upto_region 1 with fail;rw [<- hgg,<- hW];clear hgg hW;go_wp2_with fail;go_ret;exact⟨z00 HE.out.symm,HC0.out⟩
end Go.Proofs.YtmibnkddappgiaaGreatDoor
