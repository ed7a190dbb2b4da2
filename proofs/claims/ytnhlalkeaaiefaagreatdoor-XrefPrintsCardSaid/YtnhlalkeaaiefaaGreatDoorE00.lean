import Derived.Laws.AppendOwnNone
import Derived.Test.YtnhlalkeaaiefaaGreatDoorProg
import Derived.Deep.AppendLies
import Derived.Lib.UnsafeStr
import Derived.Lib.Builder
import Derived.Shelf.RegionOpenPlain
import Derived.Laws.DeepStrings4
import Derived.Lib.SmallJoins
import Derived.BigQuiet
import Derived.Deep.Cut
import Derived.Sort.Walk0
import Derived.Laws.Cover1
import Derived.StillTailTactics
set_option linter.unusedVariables false
set_option maxHeartbeats 64000000
set_option maxRecDepth 100000
set_option linter.unusedSimpArgs false
namespace Go.Proofs.YtnhlalkeaaiefaaGreatDoor
theorem pkA:(∀ (a:Go.Act) (d:Nat) (v:Go.Value),a.put (some d) v={a with tmps:=a.tmps.setIfInBounds d v})/\(∀ (a:Go.Act) (v:Go.Value),a.put none v=a)/\(∀ (l:List Go.Value) (i:Nat) (v:Go.Value),l.toArray.setIfInBounds i v=(l.set i v).toArray)/\(∀ (x:Go.Value) (l:List Go.Value) (v:Go.Value),(x::l).set 0 v=v::l)/\∀ (x:Go.Value) (l:List Go.Value) (i:Nat) (v:Go.Value),(x::l).set (i+1) v=x::l.set i v :=
 ⟨fun _ _ _=>rfl,fun _ _=>rfl,fun l i v=>List.setIfInBounds_toArray l i v,fun _ _ _=>rfl,fun _ _ _ _=>rfl⟩
open Go.RowKit
theorem kf {p:Prop} (h:p):Hid p:=h
structure Chg (S:Nat->Prop) (w w':World):Prop where
 os:w'.os=w.os
 tape:w'.tape=w.tape
 output:w'.output=w.output
 size:w.heap.size<=w'.heap.size
 block:∀ k,k<w.heap.size->¬S k->w'.heap[k]?=w.heap[k]?
def NoS:Nat->Prop:=fun _=>False
theorem Chg.refl (S:Nat->Prop) (w:World):Chg S w w:=⟨rfl,rfl,rfl,Nat.le_refl _,fun _ _ _=>rfl⟩
theorem Chg.trans {S T:Nat->Prop} {a b c:World} (h:Chg S a b) (k:Chg T b c) (hT:∀ i,i<a.heap.size->T i->S i):Chg S a c :=
 ⟨k.os.trans h.os,k.tape.trans h.tape,k.output.trans h.output,Nat.le_trans h.size k.size,fun i hi hs=>(k.block i (Nat.lt_of_lt_of_le hi h.size) (fun ht=>hs (hT i hi ht))).trans (h.block i hi hs)⟩
theorem Chg.mono {S T:Nat->Prop} {a b:World} (h:Chg S a b) (hT:∀ i,i<a.heap.size->S i->T i):Chg T a b :=
 ⟨h.os,h.tape,h.output,h.size,fun i hi ht=>h.block i hi (fun hs=>ht (hT i hi hs))⟩
theorem Chg.drew {S:Nat->Prop} {a b:World} (h:Chg S a b):Chg S a b.drew:=⟨h.os,h.tape,h.output,h.size,h.block⟩
theorem Chg.drewN {S:Nat->Prop} {a b:World} (h:Chg S a b) (n:Nat):Chg S a (b.drewN n):=⟨h.os,h.tape,h.output,h.size,h.block⟩
theorem Chg.alloc {S:Nat->Prop} {a b:World} (h:Chg S a b) (o:Obj):Chg S a (b.alloc o) :=
 ⟨h.os,h.tape,h.output,Nat.le_trans h.size (by simp),fun i hi hs=>(Below.heap_alloc b o i (Nat.lt_of_lt_of_le hi h.size)).trans (h.block i hi hs)⟩
theorem Chg.setCell {S:Nat->Prop} {a b:World} (h:Chg S a b) {p:Addr} (hp:p.block<a.heap.size->S p.block) (u:Value):Chg S a (b.setCell p u) :=
 ⟨h.os,h.tape,h.output,by simpa [World.setCell] using h.size,fun i hi hs=>(Below.heap_setCell b p u i (by rintro rfl;exact hs (hp hi))).trans (h.block i hi hs)⟩
theorem Chg.grown {S:Nat->Prop} {a b c:World} {row:Option Nat} (h:Chg S a b) (hg:b.grownBy c row) (hr:∀ k,row=some k->k<a.heap.size->S k):Chg S a c :=
 ⟨hg.os.trans h.os,hg.tape.trans h.tape,hg.output.trans h.output,Nat.le_trans h.size hg.size,fun i hi hs=>(hg.block i (Nat.lt_of_lt_of_le hi h.size) (fun e=>hs (hr i e.symm hi))).trans (h.block i hi hs)⟩
theorem Chg.below {S:Nat->Prop} {a b:World} {B:Nat} (h:Chg S a b) (hB:B<=a.heap.size) (hS:∀ i,i<B->¬S i):Below B a b :=
 ⟨h.os,h.tape,h.output,h.size,fun i hi=>h.block i (Nat.lt_of_lt_of_le hi hB) (hS i hi)⟩
theorem Chg.of_below {a b:World} {S:Nat->Prop} (h:Below a.heap.size a b):Chg S a b:=⟨h.os,h.tape,h.output,h.size,fun i hi _=>h.block i hi⟩
theorem Chg.cell {S:Nat->Prop} {a b:World} (h:Chg S a b) {p:Addr} (hp:p.block<a.heap.size) (hs:¬S p.block):b.cell? p=a.cell? p:=World.cell?_of_block (h.block p.block hp hs)
theorem Chg.no_below {a b:World} (h:Chg NoS a b):Below a.heap.size a b:=h.below (Nat.le_refl _) (fun _ _ h=>h)
def Blk (w:World) (g:Nat) (t:TypeId) (cs:Array Value):Prop:=w.heap[g]?=some (.cells cs t (0,0))
section
variable {w w':World} {g:Nat} {t:TypeId} {cs:Array Value}
theorem Blk.lt (h:Blk w g t cs):g<w.heap.size:=(Array.getElem?_eq_some_iff.1 h).1
theorem Blk.cell (h:Blk w g t cs) (i:Nat):w.cell? ⟨g,i,none⟩=cs[i]?:=cell_of_row w g i cs t (0,0) h
theorem Blk.frozen (h:Blk w g t cs) (i:Nat):w.frozen? ⟨g,i,none⟩=false:=by
 have h':w.heap[g]?=some (.cells cs t (0,0)):=h;simp [World.frozen?,h']
theorem Blk.new (w:World) (t:TypeId) (cs:Array Value):Blk (w.alloc (.cells cs t)) w.heap.size t cs:=heap_alloc_new w _
theorem Blk.chg {S:Nat->Prop} (h:Blk w g t cs) (hc:Chg S w w') (hs:¬S g):Blk w' g t cs:=(hc.block g h.lt hs).trans h
theorem Blk.drew (h:Blk w g t cs):Blk w.drew g t cs:=h
theorem Blk.drewN (h:Blk w g t cs) (n:Nat):Blk (w.drewN n) g t cs:=h
theorem Blk.alloc (h:Blk w g t cs) (o:Obj):Blk (w.alloc o) g t cs:=(Below.heap_alloc w o g h.lt).trans h
theorem Blk.set_ (h:Blk w g t cs) (i:Nat) (u:Value):Blk (w.setCell ⟨g,i,none⟩ u) g t (cs.setIfInBounds i u):=by
 have h':w.heap[g]?=some (.cells cs t (0,0)):=h;show(w.setCell ⟨g,i,none⟩ u).heap[g]?=_;simp [World.setCell,Array.getElem?_modify,h']
theorem Blk.far (h:Blk w g t cs) {p:Addr} (hp:g≠p.block) (u:Value):Blk (w.setCell p u) g t cs:=(Below.heap_setCell w p u g hp).trans h
theorem Blk.grown {row:Option Nat} (h:Blk w g t cs) (hb:w.grownBy w' row) (hg:some g≠row):Blk w' g t cs:=(hb.block g h.lt hg).trans h
theorem Blk.ne_ {g':Nat} {t':TypeId} {cs':Array Value} (h:Blk w g t cs) (h':Blk w g' t' cs') (hne:t≠t'):g≠g':=by
 rintro rfl;have e:=h.symm.trans h';injection e with e
 injection e with _ e
 exact hne e
end
section
variable {w w':World} {base:Nat} {e:TypeId} {size n:Nat} {v:Value} {xs:List Value}
theorem v31 (h:w.ownsRow base e size v n xs) {g:Nat} (hg:v.ownBlock=some g):g<w.heap.size:=by
 rcases h.2 with⟨rfl,_⟩|⟨g',cap,cur,rfl,_,hh,_⟩
 ·simp [Value.ownBlock] at hg
 ·have e:g'=g:=by simpa [Value.ownBlock] using hg
  subst e;exact(Array.getElem?_eq_some_iff.1 hh).1
theorem z1i {g:Nat} {t:TypeId} {cs:Array Value} (h:w.ownsRow base e size v n xs) (hg:Blk w g t cs) (hne:e≠t):v.ownBlock≠some g:=by
 rcases h.2 with⟨rfl,_⟩|⟨g',cap,cur,rfl,_,hh,_⟩
 ·simp [Value.ownBlock]
 ·intro he;have e1:g'=g:=by simpa [Value.ownBlock] using he
  subst e1;exact Blk.ne_ (t:=e) (t':=t) hh hg hne rfl
theorem z0i {S:Nat->Prop} (h:w.ownsRow base e size v n xs) (hc:Chg S w w') (hs:∀ g,v.ownBlock=some g->¬S g):w'.ownsRow base e size v n xs:=by
 refine⟨h.1,?_⟩;rcases h.2 with h2|⟨g',cap,cur,rfl,hb,hh,r⟩
 ·exact .inl h2
 ·exact .inr ⟨g',cap,cur,rfl,hb,(hc.block g' (Array.getElem?_eq_some_iff.1 hh).1 (hs g' rfl)).trans hh,r⟩
theorem v12 (h:w.ownsRow base e size v n xs) (hn:0<n):∃ g cap,v=.slice (some ⟨g,0,none⟩) n cap/\n<=cap/\cap<=maxLen:=by
 rcases h.2 with⟨_,h0⟩|⟨g',cap,cur,rfl,hb,hh,h1,h2,_⟩
 ·omega
 ·exact⟨g',cap,rfl,h1,h2⟩
theorem z0n (h:w.ownsRow base e size v n xs):∃ A cap,v=.slice A n cap/\(A=none->n=0/\cap=0):=by
 rcases h.2 with⟨rfl,rfl⟩|⟨g',cap,cur,rfl,_⟩
 ·exact⟨none,0,rfl,fun _=>⟨rfl,rfl⟩⟩
 ·exact⟨_,cap,rfl,fun h=>by cases h⟩
theorem v13 (h:w.ownsRow base e size v n xs):w.drew.ownsRow base e size v n xs:=h
theorem y73 (h:w.ownsRow base e size v n xs) (k:Nat):(w.drewN k).ownsRow base e size v n xs:=h
theorem z2p (w:World) (base:Nat) (e:TypeId) (size:Nat):w.ownsRow base e size (.slice none 0 0) 0 []:=⟨by simp,.inl ⟨rfl,rfl⟩⟩
end
def Src (w:World) (size:Nat) (A:Option Addr) (n c:Nat) (xs:List Value):Prop :=
 xs.length=n*size/\(A=none->n=0/\c=0)/\∀ ad,A=some ad->∀ j u,xs[j]?=some u->w.cell? (ad.add j)=some u
theorem z55 {w:World} {base:Nat} {e:TypeId} {size n c:Nat} {A:Option Addr} {xs:List Value} (h:w.ownsRow base e size (.slice A n c) n xs):Src w size A n c xs:=by
 refine⟨h.1,?_,?_⟩
 ·rintro rfl;rcases h.2 with⟨h',h0⟩|⟨g',cap,cur,h',_⟩
  ·simp only [Value.slice.injEq] at h';exact⟨h0,h'.2.2⟩
  ·simp at h'
 ·rintro ad rfl j u hu;rcases h.2 with⟨h',h0⟩|⟨g',cap,cur,h',_⟩
  ·simp at h'
  ·simp only [Value.slice.injEq,Option.some.injEq] at h';obtain⟨rfl,_,rfl⟩:=h'
   have hj:j<n*size:=by
    have:=(List.getElem?_eq_some_iff.1 hu).1;rw [h.1] at this;exact this
   have hc:=h.cellAt j hj;rw [hu] at hc;by_cases h0:j=0
   ·subst h0;simpa [Addr.add] using hc
   ·simpa [Addr.add,h0] using hc
theorem z2e {P:Program} {w:World} {ops:Array Oper} {rest:List Oper} {o:Oper} {a:Act} {Q:Exit->Act->World->Prop} (hgd:o.guard=none) (s x:Operand) (t:TypeId)
  (ho:o.op=.call { callee:=.builtin .append,args:=#[s,x],argTypes:=#[t,t] })
  (e:TypeId) (i:TypeInfo) (z:Value) (size bytes:Nat) (ht:P.underlying t=some (.slice e)) (hi:P.info? e=some i) (hz:i.zero=some z)
  (hsize:i.size=size) (hby:i.bytes=bytes) (hzs:z.cells.size=size) (hsz:0<size)
  (v:Value) (n:Nat) (xs:List Value) (hs:a.eval s=v) (hown:w.ownsRow 0 e size v n xs)
  (A:Option Addr) (m c:Nat) (news:List Value) (hx:a.eval x=.slice A m c) (hnews:Src w size A m c news) (h1:∀ u∈news,u.oneCell'=true)
  (h63:n+m<=maxLen) (hbytes:(n+m)*bytes<=140737488355328)
  (h:∀ v' w',w'.ownsRow 0 e size v' (n+m) (xs++news)->w.grownBy w' v.ownBlock->(v'.ownBlock=v.ownBlock\/v'.ownBlock=some w.heap.size)->wpList P ops Q rest (a.put o.dst v') w') :
  wpList P ops Q (o::rest) a w:=by
 rcases A with _|ad
 ·obtain⟨rfl,rfl⟩:=hnews.2.1 rfl;have hn:news=[]:=List.eq_nil_of_length_eq_zero (by simpa using hnews.1);subst hn;exact wpList_append_own_none hgd s x t ho 0 e i size ht hi v n xs hs hown hx (h v w (by simpa using hown) (World.grownBy.refl w _) (.inl rfl))
 ·exact wpList_append_own_at w hgd s x t ho 0 e i z size bytes ht hi hz hsize hby hzs hsz v n xs hs hown ad m c news hx hnews.1 (hnews.2.2 ad rfl) h1 h63 hbytes (Nat.zero_le _) (fun v' w' a b _ d=>h v' w' a b d)
theorem z57 {P:Program} {f:FuncId} {args:Array Value} {w:World} {n:Nat} {v:Value}
  (h:Calls P f args (w.drewN n) fun e w'=>e=.returned v/\w.drewN n=w'):Calls P f args (w.drewN n) fun e w''=>e=.returned v/\∃ m,w''=w.drewN m :=
 h.mono fun _ _ ⟨he,hm⟩=>⟨he,n,hm.symm⟩
theorem z7a {P:Program} {f:FuncId} {args:Array Value} {w:World} {a n:Nat} {v:Value}
  (h:Calls P f args (w.drewN (a+n)) fun e w'=>e=.returned v/\w.drewN (a+n)=w'):Calls P f args (w.drewN (a+n)) fun e w''=>e=.returned v/\∃ m,w''=w.drewN (a+m) :=
 h.mono fun _ _ ⟨he,hm⟩=>⟨he,n,hm.symm⟩
open Go.RowKit Go.Deep Go.ChangeShapes Go.WideShapes
theorem z04 {w:World} {p:Addr} {u:Value} (h:w.cell? p=some u):p.block<w.heap.size:=by
 rcases Nat.lt_or_ge p.block w.heap.size with h1|h1
 ·exact h1
 ·exfalso
  simp [World.cell?,Array.getElem?_eq_none h1] at h
theorem Src.below {w0 w w':World} {size n c:Nat} {A:Option Addr} {xs:List Value} (h:Src w size A n c xs) (hc:Chg NoS w w'):Src w' size A n c xs :=
 ⟨h.1,h.2.1,fun ad hA j u hu=>by
  have h1:=h.2.2 ad hA j u hu;rw [hc.cell (by exact z04 h1) (fun h=>h)];exact h1⟩
theorem Src.plain {w:World} {size n c:Nat} {A:Option Addr} {xs:List Value} (h:Src w size A n c xs) (hn:0<xs.length) :
  ∃ b off,A=some ⟨b,off,none⟩/\∀ j u,xs[j]?=some u->w.cell? ⟨b,off+j,none⟩=some u:=by
 rcases A with _|⟨b,off,sp⟩
 ·have h1:=(h.2.1 rfl).1;have h2:=h.1;rw [h1,Nat.zero_mul] at h2;omega
 ·have h0:=h.2.2 _ rfl 0 _ (List.getElem?_eq_getElem hn);have hs:sp=none:=by simpa [Addr.add] using World.cell?_spot h0
  subst hs;refine⟨b,off,rfl,fun j u hu=>?_⟩;have h1:=h.2.2 _ rfl j u hu;by_cases hj:j=0
  ·subst hj;simpa [Addr.add] using h1
  ·simpa [Addr.add,hj] using h1
theorem z8u {α:Type} (f:α->List Value) (size:Nat) (hf:∀ p,(f p).length=size):∀ ps:List α,(ps.flatMap f).length=ps.length*size
 |[]=>by simp
 |p::ps=>by
  rw [List.flatMap_cons,List.length_append,hf,z8u f size hf ps,List.length_cons,Nat.succ_mul];omega
theorem y3e {α:Type} (f:α->List Value) (size:Nat) (hf:∀ p,(f p).length=size):∀ (ps:List α) (i j:Nat) (p:α),ps[i]?=some p->j<size->(ps.flatMap f)[i*size+j]?=(f p)[j]?
 |[],i,j,p,h,_=>by simp at h
 |q::ps,0,j,p,h,hj=>by
  simp at h;subst h;rw [List.flatMap_cons,List.getElem?_append_left (by rw [hf];omega)];simp
 |q::ps,i+1,j,p,h,hj=>by
  simp at h;rw [List.flatMap_cons,List.getElem?_append_right (by rw [hf,Nat.succ_mul];omega),hf,show(i+1)*size+j-size=i*size+j from by rw [Nat.succ_mul];omega];exact y3e f size hf ps i j p h hj
theorem y08 {α:Type} [Inhabited α] {H:Type} {en:TypeId × Value->H} {P:Program} {w:World} {base fuel:Nat} {spare:Nat->Bool} {held:Bool} {t e:TypeId} {A:Option Addr} {len cap:Nat} {x:DataW H × List MemPlace}
  (enc:α->List Value) (good:α->Prop) (size:Nat) (ht:P.underlying t=some (.slice e)) (hc:P.cellsOf e=size) (henc:∀ p,(enc p).length=size)
  (hel:∀ (n:Nat) (cs:List Value) (y:DataW H × List MemPlace),DataW.trod en P w base spare held n e cs=some y->cs.length=size->∃ p,cs=enc p/\good p)
  (h:DataW.trod en P w base spare held fuel t [.slice A len cap]=some x) :
  len<=maxLen/\∃ ps:List α,ps.length=len/\Src w size A len cap (ps.flatMap enc)/\∀ p∈ps,good p:=by
 rcases open_slice ht h with⟨h0,_⟩|⟨a,len',cap',m,n,D,Pl,hcs,hb,hl,hm,hmm,hx,hi⟩
 ·simp only [List.cons.injEq,Value.slice.injEq,and_true] at h0;obtain⟨rfl,rfl,rfl⟩:=h0;exact⟨by simp,[],rfl,⟨by simp,fun _=>⟨rfl,rfl⟩,fun _ h=>(by cases h)⟩,fun _ h=>(by cases h)⟩
 ·simp only [List.cons.injEq,Value.slice.injEq,and_true] at hcs;obtain⟨rfl,rfl,rfl⟩:=hcs;have hlm:len<=m:=by rw [hmm];split<;>omega
  have hex:∀ i,i<len->∃ p:α,good p/\∀ j,j<size->w.cell? (a.add (i*size+j))=(enc p)[j]?:=by
   intro i hil;obtain⟨cs',hcs',ht'⟩:=hi i (by omega);rw [hc] at hcs';obtain⟨_,hcl,hat⟩:=World.cells?_some hcs';obtain⟨p,rfl,hg⟩:=hel n cs' _ ht' hcl;exact⟨p,hg,fun j hj=>by rw [<- Go.Deep.add_add];exact hat j hj⟩
  obtain⟨f,hf⟩:=choose_lt hex;refine⟨by omega,(List.range len).map f,by simp,⟨by rw [z8u enc size henc];simp,fun h=>(by cases h),?_⟩,?_⟩
  ·intro ad had j u hu;cases had
   have hjl:j<len*size:=by
    have:=(List.getElem?_eq_some_iff.1 hu).1;rw [z8u enc size henc] at this;simpa using this
   rcases Nat.eq_zero_or_pos size with h0|h0
   ·subst h0;simp at hjl
   ·have hq:j / size<len:=Nat.div_lt_of_lt_mul (by rw [Nat.mul_comm];exact hjl);have hr:j%size<size:=Nat.mod_lt _ h0;have hd:j / size*size+j%size=j:=by rw [Nat.mul_comm];exact Nat.div_add_mod j size
    have hg:=y3e enc size henc ((List.range len).map f) (j / size) (j%size) (f (j / size)) (by simp [hq]) hr;rw [hd,hu] at hg;have:=(hf (j / size) hq).2 (j%size) hr;rw [hd] at this;rw [this,<- hg]
  ·intro p hp;obtain⟨i,hi',rfl⟩:=List.mem_map.1 hp;exact(hf i (List.mem_range.1 hi')).1
theorem z6y {H:Type} {en:TypeId × Value->H} {P:Program} {w:World} {base n:Nat} {spare:Nat->Bool} {held:Bool} {e:TypeId} {cs:List Value} {y:DataW H × List MemPlace} {k:IntKind}
  (he:P.underlying e=some (.int k)) (h:DataW.trod en P w base spare held n e cs=some y):∃ z:Int,cs=[.int k z]/\(Lit.int k z).wf=true:=by
 obtain⟨z,rfl,_,hz⟩:=DataW.trod_int he h;exact⟨z,rfl,hz⟩
theorem y8y {H:Type} {en:TypeId × Value->H} {P:Program} {w:World} {base n:Nat} {spare:Nat->Bool} {held:Bool} {e:TypeId} {cs:List Value} {y:DataW H × List MemPlace}
  (he:P.underlying e=some .bool) (h:DataW.trod en P w base spare held n e cs=some y):∃ b:Bool,cs=[.bool b]:=by
 obtain⟨b,rfl,_⟩:=DataW.trod_bool he h;exact⟨b,rfl⟩
def isD (d:Nat):Prop:=48<=d/\d<=57
instance (d:Nat):Decidable (isD d):=inferInstanceAs (Decidable (_/\_))
def dn (n:Nat):List Nat:=if h:n=0 then [] else dn (n / 10)++[48+n%10]
termination_by n
decreasing_by omega
theorem y91:dn 0=[]:=by rw [dn,dif_pos rfl]
theorem v28 {n:Nat} (h:n≠0):dn n=dn (n / 10)++[48+n%10]:=by rw [dn,dif_neg h]
def z45 (a:Nat) (l:List Nat):Nat:=l.foldl (fun n d=>10*n+(d-48)) a
theorem y25 (a:Nat) (l m:List Nat):z45 a (l++m)=z45 (z45 a l) m:=List.foldl_append
theorem v8n (n:Nat):z45 0 (dn n)=n:=by
 induction n using Nat.strongRecOn with
 |_ n ih =>
  by_cases h:n=0
  ·subst h;rw [y91];rfl
  ·rw [v28 h,y25,ih (n / 10) (by omega)];show 10*(n / 10)+(48+n%10-48)=n;omega
theorem v84 (n:Nat):∀ d∈dn n,isD d:=by
 induction n using Nat.strongRecOn with
 |_ n ih =>
  by_cases h:n=0
  ·subst h;rw [y91];intro d hd;cases hd
  ·rw [v28 h];intro d hd;rcases List.mem_append.1 hd with h1|h1
   ·exact ih (n / 10) (by omega) d h1
   ·rw [List.mem_singleton] at h1;subst h1;unfold isD;omega
theorem z0v {n k:Nat} (h:n<10 ^ k):(dn n).length<=k:=by
 induction k generalizing n with
 |zero=>simp at h;subst h;rw [y91];exact Nat.le_refl _
 |succ k ih =>
  by_cases h0:n=0
  ·subst h0;rw [y91];exact Nat.zero_le _
  ·rw [v28 h0,List.length_append,List.length_singleton];have:=ih (n:=n / 10) (by rw [Nat.pow_succ] at h;omega);omega
theorem y90 {n k:Nat} (h:10 ^ k<=n):k<(dn n).length:=by
 induction k generalizing n with
 |zero =>
  have h0:n≠0:=by simp at h;omega
  rw [v28 h0,List.length_append,List.length_singleton];omega
 |succ k ih =>
  have h1:10 ^ k<=n / 10:=by rw [Nat.pow_succ] at h;omega
  have h0:n≠0:=by
   have:0<10 ^ k:=Nat.pow_pos (by omega);omega
  rw [v28 h0,List.length_append,List.length_singleton];have:=ih h1;omega
def txt (n least:Nat):List Nat:=List.replicate (least-(dn n).length) 48++dn n
theorem z52 (n least:Nat):∀ d∈txt n least,isD d:=by
 intro d hd;rcases List.mem_append.1 hd with h|h
 ·rw [(List.mem_replicate.1 h).2];unfold isD;omega
 ·exact v84 n d h
theorem z1d (n least:Nat):(txt n least).length=max least (dn n).length:=by
 rw [txt,List.length_append,List.length_replicate];omega
theorem y26 (n least:Nat) (h:n≠0\/least≠0):txt n least=txt (n / 10) (least-1)++[48+n%10]:=by
 by_cases h0:n=0
 ·subst h0;rw [txt,txt,Nat.zero_div,y91,List.length_nil,Nat.sub_zero,Nat.sub_zero,List.append_nil,List.append_nil];obtain⟨k,rfl⟩:∃ k,least=k+1:=⟨least-1,by omega⟩
  rw [Nat.add_sub_cancel,List.replicate_succ']
 ·rw [txt,txt,v28 h0,List.length_append,List.length_singleton,<- List.append_assoc];congr 3;omega
theorem v07:txt 0 0=[]:=by rw [txt,y91];rfl
structure Ns where
 n:Nat
 parts:Nat
 digits:Nat
 fr:Option Nat
 over:Bool
def z17 (s:Ns) (c:Nat):Option Ns :=
 if c=46/\s.fr=none then some { s with fr:=some 0 }
 else if isD c then
  match s.fr with
  |none=>some { s with n:=if s.over then s.n else 10*s.n+(c-48),digits:=s.digits+1,over:=s.over || decide (2147483647<if s.over then s.n else 10*s.n+(c-48)) }
  |some j=>some { s with parts:=s.parts+100000 / 10 ^ min j 6*(c-48),digits:=s.digits+1,fr:=some (j+1) }
 else none
def z18 (s:Ns):List Nat->Option Ns
 |[]=>some s
 |c::l=>match z17 s c with
  |none=>none
  |some t=>z18 t l
theorem z6r (s:Ns) (l m:List Nat):z18 s (l++m)=(z18 s l).bind fun t=>z18 t m:=by
 induction l generalizing s with
 |nil=>rfl
 |cons c l ih =>
  rw [List.cons_append,z18,z18];cases h:z17 s c with
  |none=>rfl
  |some t=>exact ih t
def ns0:Ns:=⟨0,0,0,none,false⟩
def signed:List Nat->Bool × List Nat
 |[]=>(false,[])
 |c::l=>if c=43 then(false,l) else if c=45 then(true,l) else(false,c::l)
def z0j (l:List Nat):Int × Nat × Int :=
 match z18 ns0 (signed l).2 with
 |none=>(11,0,0)
 |some s =>
  if s.digits=0 then(11,0,0)
  else if s.over=true\/(s.fr≠none/\s.n=2147483647/\0<s.parts) then(5,0,0)
  else
   let x:Int:=if s.fr=none then(s.n:Int) else((1000000*s.n+s.parts:Nat):Int)
   (0,if s.fr=none then 2 else 3,if (signed l).1 then 0-x else x)
theorem y78:∀ (l:List Nat) (s:Ns),(∀ d∈l,isD d)->s.fr=none->s.over=false->z45 s.n l<=2147483647->z18 s l=some { s with n:=z45 s.n l,digits:=s.digits+l.length }:=by
 intro l;induction l with
 |nil=>intro s _ _ _ _;rfl
 |cons c l ih =>
  intro s hd hf ho hv;have hc:=hd c (List.mem_cons_self ..)
  have hle:∀ (l:List Nat) (a:Nat),a<=z45 a l:=by
   intro l;induction l with
   |nil=>intro a;exact Nat.le_refl _
   |cons x l ih2 =>
    intro a;have:=ih2 (10*a+(x-48));show a<=z45 (10*a+(x-48)) l;omega
  have h1:10*s.n+(c-48)<=2147483647:=Nat.le_trans (hle l _) hv
  have hst:z17 s c=some { s with n:=10*s.n+(c-48),digits:=s.digits+1 }:=by
   unfold z17;have:¬(c=46/\s.fr=none):=by unfold isD at hc;omega
   rw [if_neg this,if_pos hc,hf];simp only [ho,Bool.false_eq_true,if_false,Bool.false_or];have hd2:decide (2147483647<10*s.n+(c-48))=false:=by simp;omega
   rw [hd2]
  rw [z18,hst];simp only;rw [ih { s with n:=10*s.n+(c-48),digits:=s.digits+1 } (fun d hd2=>hd d (List.mem_cons_of_mem _ hd2)) hf ho hv];simp only [List.length_cons];congr 2;omega
def z63 (j:Nat):List Nat->Nat
 |[]=>0
 |c::l=>100000 / 10 ^ min j 6*(c-48)+z63 (j+1) l
theorem y34:∀ (l:List Nat) (s:Ns) (j:Nat),(∀ d∈l,isD d)->s.fr=some j->z18 s l=some { s with parts:=s.parts+z63 j l,digits:=s.digits+l.length,fr:=some (j+l.length) }:=by
 intro l;induction l with
 |nil=>intro s j _ hf;simp [z18,z63,<- hf]
 |cons c l ih =>
  intro s j hd hf;have hc:=hd c (List.mem_cons_self ..)
  have hst:z17 s c=some { s with parts:=s.parts+100000 / 10 ^ min j 6*(c-48),digits:=s.digits+1,fr:=some (j+1) }:=by
   unfold z17;have:¬(c=46/\s.fr=none):=by rw [hf];simp
   rw [if_neg this,if_pos hc,hf]
  rw [z18,hst];simp only;rw [ih { s with parts:=s.parts+100000 / 10 ^ min j 6*(c-48),digits:=s.digits+1,fr:=some (j+1) } (j+1) (fun d hd2=>hd d (List.mem_cons_of_mem _ hd2)) rfl];simp only [List.length_cons,z63];congr 2
  ·omega
  ·omega
  ·congr 1;omega
def z1e:Nat->List Nat->List Nat
 |0,l=>l
 |k+1,l=>if l.getLast?=some 48 then z1e k l.dropLast else l
def z33 (x:Int):List Nat:=if x<0 then [45] else []
def z06 (x:Int):List Nat:=z33 x++txt x.natAbs 1
def z0q (x:Int):List Nat:=z33 x++(txt (x.natAbs / 1000000) 1++46::z1e 5 (txt (x.natAbs%1000000) 6))
theorem y5x:∀ (k:Nat) (l:List Nat),(∀ d∈l,isD d)->∀ d∈z1e k l,isD d:=by
 intro k;induction k with
 |zero=>intro l h;exact h
 |succ k ih =>
  intro l h;rw [z1e];split
  ·exact ih _ (fun d hd=>h d (List.dropLast_subset _ hd))
  ·exact h
structure NsIn (s:Ns):Prop where
 n:s.over=false->s.n<=2147483647
 none_:s.fr=none->s.parts=0
 some_:∀ j,s.fr=some j->s.parts+10 ^ (6-min j 6)<=1000000
theorem y7h:∀ j,j<=5->100000 / 10 ^ min j 6*9+10 ^ (6-min (j+1) 6)<=10 ^ (6-min j 6):=by decide
theorem NsIn.step {s t:Ns} {c:Nat} (h:NsIn s) (e:z17 s c=some t):NsIn t:=by
 unfold z17 at e;split at e
 ·rename_i h1;injection e with e
  subst e;refine⟨h.n,fun h2=>(by cases h2),fun j hj=>?_⟩;injection hj with hj
  subst hj;show s.parts+_<=_;rw [h.none_ h1.2];decide
 ·split at e
  ·rename_i hc;rcases hf:s.fr with _|j
   ·rw [hf] at e;injection e with e
    subst e;refine⟨fun ho=>?_,fun _=>h.none_ hf,fun j hj=>?_⟩
    ·simp only [Bool.or_eq_false_iff,decide_eq_false_iff_not] at ho;simp only;omega
    ·first|(rw [hf] at hj;cases hj)|cases hj
   ·rw [hf] at e;injection e with e
    subst e;refine⟨h.n,fun h2=>(by cases h2),fun i hi=>?_⟩;injection hi with hi
    subst hi;have h1:=h.some_ j hf;show s.parts+100000 / 10 ^ min j 6*(c-48)+10 ^ (6-min (j+1) 6)<=1000000;by_cases hj:j<=5
    ·have h2:=y7h j hj;have h3:100000 / 10 ^ min j 6*(c-48)<=100000 / 10 ^ min j 6*9:=Nat.mul_le_mul_left _ (by unfold isD at hc;omega);omega
    ·have e1:min j 6=6:=by omega
     have e2:min (j+1) 6=6:=by omega
     rw [e1] at h1 ⊢;rw [e2];have e3:100000 / 10 ^ 6=0:=by decide
     rw [e3];omega
  ·cases e
theorem NsIn.all:∀ (l:List Nat) {s t:Ns},NsIn s->z18 s l=some t->NsIn t:=by
 intro l;induction l with
 |nil=>intro s t h e;injection e with e;subst e;exact h
 |cons c l ih =>
  intro s t h e;rw [z18] at e;cases hs:z17 s c with
  |none=>rw [hs] at e;cases e
  |some u=>rw [hs] at e;exact ih (h.step hs) e
theorem ns0_in:NsIn ns0:=⟨fun _=>by decide,fun _=>rfl,fun j h=>by cases h⟩
theorem y76 {l:List Nat} {k:Nat} {x:Int} (h:z0j l=(0,k,x)):(k=2/\x.natAbs<=2147483647)\/(k=3/\x.natAbs<=2147483647*1000000):=by
 unfold z0j at h;split at h
 ·simp at h
 ·rename_i s hs;have hi:=ns0_in.all _ hs;split at h
  ·simp at h
  ·split at h
   ·simp at h
   ·rename_i h2
    have ho:s.over=false:=by
     cases hv:s.over
     ·rfl
     ·exact absurd (.inl hv) h2
    have hn:=hi.n ho;simp only [Prod.mk.injEq,true_and] at h;obtain⟨hk,hx⟩:=h;rcases hf:s.fr with _|j
    ·rw [hf] at hk hx;simp only [if_true] at hk hx;refine .inl ⟨hk.symm,?_⟩;split at hx<;>omega
    ·rw [hf] at hk hx;simp only [reduceCtorEq,if_false] at hk hx;refine .inr ⟨hk.symm,?_⟩;have h3:=hi.some_ j hf;have h4:0<10 ^ (6-min j 6):=Nat.pow_pos (by omega);have h5:¬(s.n=2147483647/\0<s.parts):=fun h6=>h2 (.inr ⟨by rw [hf];simp,h6.1,h6.2⟩);split at hx<;>omega
def z3s (c:Nat):Bool:=c==0 || c==9 || c==10 || c==12 || c==13 || c==32
def z4p (c:Nat):Bool:=c==40 || c==41 || c==60 || c==62 || c==91 || c==93 || c==123 || c==125 || c==47 || c==37
def y0c (c:Nat):Bool:=!z3s c&&!z4p c
def skp:Bool->List Nat->Nat
 |_,[]=>0
 |true,c::l=>skp (!(c==10 || c==13)) l+1
 |false,c::l=>if z3s c then skp false l+1 else if c=37 then skp true l+1 else 0
theorem v2u:∀ (l:List Nat) (f:Bool),skp f l<=l.length:=by
 intro l;induction l with
 |nil=>intro f;cases f<;>exact Nat.le_refl _
 |cons c l ih =>
  intro f;cases f
  ·simp only [skp,List.length_cons];split
   ·have:=ih false;omega
   ·split
    ·have:=ih true;omega
    ·omega
  ·simp only [skp,List.length_cons];have:=ih (!(c==10 || c==13));omega
theorem v8k:∀ (l m:List Nat) (f:Bool),skp f l<l.length->skp f (l++m)=skp f l:=by
 intro l m;induction l with
 |nil=>intro f h;simp at h
 |cons c l ih =>
  intro f h;rw [List.cons_append];cases f
  ·simp only [skp,List.length_cons] at h ⊢;split
   ·rw [ih false (by simp_all)]
   ·split
    ·rw [ih true (by simp_all)]
    ·rfl
  ·simp only [skp,List.length_cons] at h ⊢;rw [ih _ (by omega)]
theorem y2j:∀ (l:List Nat) (f:Bool),skp f l<l.length->∃ c m,l.drop (skp f l)=c::m/\z3s c=false/\c≠37:=by
 intro l;induction l with
 |nil=>intro f h;simp at h
 |cons c l ih =>
  intro f h;cases f
  ·simp only [skp,List.length_cons] at h ⊢;split
   ·next hs=>rw [if_pos hs] at h;rw [List.drop_succ_cons];exact ih false (by omega)
   ·next hs =>
    rw [if_neg hs] at h;split
    ·next h37=>rw [if_pos h37] at h;rw [List.drop_succ_cons];exact ih true (by omega)
    ·next h37=>exact⟨c,l,rfl,by simpa using hs,h37⟩
  ·simp only [skp,List.length_cons] at h ⊢;rw [List.drop_succ_cons];exact ih _ (by omega)
def rgs:List Nat->Nat
 |[]=>0
 |c::l=>if y0c c then rgs l+1 else 0
theorem y6h:∀ l:List Nat,rgs l<=l.length:=by
 intro l;induction l with
 |nil=>exact Nat.le_refl _
 |cons c l ih =>
  simp only [rgs,List.length_cons];split<;>omega
def z3k (c:Nat):Option Nat:=if 48<=c/\c<=57 then some (c-48) else if 97<=c/\c<=102 then some (c-87) else if 65<=c/\c<=70 then some (c-55) else none
theorem y1n {c d:Nat} (h:z3k c=some d):d<16:=by
 unfold z3k at h;split at h
 ·cases h;omega
 ·split at h
  ·cases h;omega
  ·split at h
   ·cases h;omega
   ·cases h
def y3k (last:Bool):Int:=if last then 10 else 6
def z1w:Nat->Nat->List Nat->Nat × Nat
 |0,n,_=>(n,0)
 |_+1,n,[]=>(n,0)
 |k+1,n,c::l=>if 48<=c/\c<=55 then((z1w k (8*n+(c-48)) l).1,(z1w k (8*n+(c-48)) l).2+1) else(n,0)
theorem y1h:∀ (k n:Nat) (l:List Nat),(z1w k n l).2<=k/\(z1w k n l).2<=l.length:=by
 intro k;induction k with
 |zero=>intro n l;exact⟨Nat.le_refl _,Nat.zero_le _⟩
 |succ k ih =>
  intro n l;cases l with
  |nil=>exact⟨Nat.zero_le _,Nat.le_refl _⟩
  |cons c l =>
   rw [z1w];split
   ·have:=ih (8*n+(c-48)) l;simp only [List.length_cons];omega
   ·exact⟨Nat.zero_le _,Nat.zero_le _⟩
def z3n (last:Bool):List Nat->Int × Option Nat × Nat
 |[]=>(y3k last,none,0)
 |c::l =>
  if c=110 then(0,some 10,1)
  else if c=114 then(0,some 13,1)
  else if c=116 then(0,some 9,1)
  else if c=98 then(0,some 8,1)
  else if c=102 then(0,some 12,1)
  else if c=10 then(0,none,1)
  else if c=13 then
   if l=[]/\last=false then(6,none,0) else if l.head?=some 10 then(0,none,2) else(0,none,1)
  else if c<48\/55<c then(0,some c,1)
  else if (z1w 3 0 (c::l)).2<3/\(c::l).length<=(z1w 3 0 (c::l)).2/\last=false then(6,none,0)
  else(0,some ((z1w 3 0 (c::l)).1%256),(z1w 3 0 (c::l)).2)
theorem z4r (last:Bool) (c:Nat) (l:List Nat):z3n last (c::l) =
  if c=110 then(0,some 10,1)
  else if c=114 then(0,some 13,1)
  else if c=116 then(0,some 9,1)
  else if c=98 then(0,some 8,1)
  else if c=102 then(0,some 12,1)
  else if c=10 then(0,none,1)
  else if c=13 then
   if l=[]/\last=false then(6,none,0) else if l.head?=some 10 then(0,none,2) else(0,none,1)
  else if c<48\/55<c then(0,some c,1)
  else if (z1w 3 0 (c::l)).2<3/\(c::l).length<=(z1w 3 0 (c::l)).2/\last=false then(6,none,0)
  else(0,some ((z1w 3 0 (c::l)).1%256),(z1w 3 0 (c::l)).2):=rfl
theorem v5a (last:Bool) (l:List Nat):(z3n last l).2.2<=l.length:=by
 cases l with
 |nil=>exact Nat.le_refl _
 |cons c l =>
  unfold z3n;have ho:=y1h 3 0 (c::l);simp only [List.length_cons] at ho ⊢;repeat' split
  all_goals first
   |(simp only [];omega)
   |(next h=>cases l with
     |nil=>simp at h
     |cons d l=>simp only [List.length_cons];omega)
def z11 (last:Bool) (deep:Nat) (out:List Nat) (p:Nat) (l:List Nat):Int × List Nat × Nat :=
 match l with
 |[]=>(y3k last,[],0)
 |c::l =>
  if c=92 then
   if (z3n last l).1≠0 then((z3n last l).1,[],0)
   else z11 last deep (out++(z3n last l).2.1.toList) (p+1+(z3n last l).2.2) (l.drop (z3n last l).2.2)
  else if c=13 then
   if l=[]/\last=false then(6,[],0)
   else if l.head?=some 10 then z11 last deep (out++[10]) (p+2) (l.drop 1)
   else z11 last deep (out++[10]) (p+1) l
  else if c=40 then z11 last (deep+1) (out++[40]) (p+1) l
  else if c=41 then
   if deep=1 then(0,out,p+1) else z11 last (deep-1) (out++[41]) (p+1) l
  else z11 last deep (out++[c]) (p+1) l
termination_by l.length
decreasing_by all_goals simp only [List.length_cons,List.length_drop];omega
theorem z1x (last:Bool) (deep:Nat) (out:List Nat) (p:Nat):z11 last deep out p []=(y3k last,[],0):=by rw [z11]
theorem z12 (last:Bool) (deep:Nat) (out:List Nat) (p c:Nat) (l:List Nat):z11 last deep out p (c::l) =
  if c=92 then
   if (z3n last l).1≠0 then((z3n last l).1,[],0)
   else z11 last deep (out++(z3n last l).2.1.toList) (p+1+(z3n last l).2.2) (l.drop (z3n last l).2.2)
  else if c=13 then
   if l=[]/\last=false then(6,[],0)
   else if l.head?=some 10 then z11 last deep (out++[10]) (p+2) (l.drop 1)
   else z11 last deep (out++[10]) (p+1) l
  else if c=40 then z11 last (deep+1) (out++[40]) (p+1) l
  else if c=41 then
   if deep=1 then(0,out,p+1) else z11 last (deep-1) (out++[41]) (p+1) l
  else z11 last deep (out++[c]) (p+1) l:=by rw [z11]
theorem v3o (last:Bool):∀ (n:Nat) (l:List Nat) (deep:Nat) (out:List Nat) (p:Nat),l.length<=n->(z11 last deep out p l).1=0->p<(z11 last deep out p l).2.2/\(z11 last deep out p l).2.2<=p+l.length:=by
 intro n;induction n with
 |zero =>
  intro l deep out p hn h;obtain rfl:l=[]:=List.length_eq_zero_iff.1 (by omega);rw [z1x] at h;cases last<;>cases h
 |succ n ih =>
  intro l deep out p hn h;cases l with
  |nil=>rw [z1x] at h;cases last<;>cases h
  |cons c l =>
   have hl:l.length<=n:=by simp only [List.length_cons] at hn;omega
   simp only [List.length_cons];rw [z12] at h ⊢;by_cases h1:c=92
   ·rw [if_pos h1] at h ⊢;by_cases h3:(z3n last l).1≠0
    ·rw [if_pos h3] at h;exact absurd h h3
    ·rw [if_neg h3] at h ⊢;have hle:=v5a last l;have:=ih (l.drop (z3n last l).2.2) _ _ _ (by rw [List.length_drop];omega) h;rw [List.length_drop] at this;omega
   rw [if_neg h1] at h ⊢;by_cases h4:c=13
   ·rw [if_pos h4] at h ⊢;split at h
    ·cases h
    ·next hx =>
     rw [if_neg hx];split at h
     ·next h5 =>
      rw [if_pos h5];have:=ih (l.drop 1) _ _ _ (by rw [List.length_drop];omega) h;rw [List.length_drop] at this;cases l with
      |nil=>simp at h5
      |cons d l=>simp only [List.length_cons] at this ⊢;omega
     ·next h5 =>
      rw [if_neg h5];have:=ih l _ _ _ hl h;omega
   rw [if_neg h4] at h ⊢;by_cases h6:c=40
   ·rw [if_pos h6] at h ⊢;have:=ih l _ _ _ hl h;omega
   rw [if_neg h6] at h ⊢;by_cases h7:c=41
   ·rw [if_pos h7] at h ⊢;by_cases h8:deep=1
    ·rw [if_pos h8];simp only [];omega
    ·rw [if_neg h8] at h ⊢;have:=ih l _ _ _ hl h;omega
   rw [if_neg h7] at h ⊢;have:=ih l _ _ _ hl h;omega
def z3y:List Nat->List Nat
 |[]=>[]
 |[a]=>[16*a]
 |a::b::l=>(16*a+b)::z3y l
def z2c (last:Bool) (ds:List Nat) (p:Nat):List Nat->Int × List Nat × Nat
 |[]=>(y3k last,[],0)
 |c::l =>
  if c=62 then(0,z3y ds,p+1)
  else if z3s c then z2c last ds (p+1) l
  else match z3k c with
   |none=>(11,[],0)
   |some d=>z2c last (ds++[d]) (p+1) l
theorem v54 (last:Bool):∀ (l ds:List Nat) (p:Nat),(z2c last ds p l).1=0->p<(z2c last ds p l).2.2/\(z2c last ds p l).2.2<=p+l.length:=by
 intro l;induction l with
 |nil=>intro ds p h;cases last<;>cases h
 |cons c l ih =>
  intro ds p h;simp only [List.length_cons];simp only [z2c] at h ⊢;by_cases h1:c=62
  ·rw [if_pos h1];simp only [];omega
  rw [if_neg h1] at h ⊢;by_cases h2:z3s c=true
  ·rw [if_pos h2] at h ⊢;have:=ih _ _ h;omega
  rw [if_neg h2] at h ⊢;cases h3:z3k c with
  |none=>rw [h3] at h;cases h
  |some d=>rw [h3] at h;simp only [] at h ⊢;have:=ih _ _ h;omega
def nameF:List Nat->Option (List Nat)
 |[]=>some []
 |c::l =>
  if c≠35 then(nameF l).map (c::·)
  else match l with
   |x::y::m=>match z3k x,z3k y with
    |some a,some b=>(nameF m).map ((16*a+b)::·)
    |_,_=>none
   |_=>none
def z5g (w:List Nat):Int × List Nat :=
 match nameF w with
 |none=>(17,[])
 |some o=>if 0∈o\/127<o.length then(17,[]) else(0,o)
structure Tkn where
 kind:Nat
 from_:Nat
 to:Nat
 vk:Nat
 vn:Int
 vs:List Nat
 s:List Nat
def noT (p:Nat):Tkn:=⟨0,p,p,0,0,[],[]⟩
def y5a (c:Nat):Bool:=(decide (48<=c)&&decide (c<=57)) || c==43 || c==45 || c==46
def z1y (last:Bool) (p c:Nat) (l:List Nat):Int × Tkn :=
 if c=91 then(0,⟨2,p,p+1,0,0,[],[]⟩)
 else if c=93 then(0,⟨3,p,p+1,0,0,[],[]⟩)
 else if c=60/\l.head?=some 60 then(0,⟨4,p,p+2,0,0,[],[]⟩)
 else if c=62/\l.head?=some 62 then(0,⟨5,p,p+2,0,0,[],[]⟩)
 else if c=62/\l=[]/\last=false then(6,noT p)
 else if c=60 then
  if (z2c last [] (p+1) l).1≠0 then((z2c last [] (p+1) l).1,noT p) else(0,⟨1,p,(z2c last [] (p+1) l).2.2,4,0,(z2c last [] (p+1) l).2.1,[]⟩)
 else if c=40 then
  if (z11 last 1 [] (p+1) l).1≠0 then((z11 last 1 [] (p+1) l).1,noT p) else(0,⟨1,p,(z11 last 1 [] (p+1) l).2.2,4,0,(z11 last 1 [] (p+1) l).2.1,[]⟩)
 else if c=47 then
  if rgs l=l.length/\last=false then(6,noT p)
  else if (z5g (l.take (rgs l))).1≠0 then((z5g (l.take (rgs l))).1,noT p) else(0,⟨1,p,p+1+rgs l,5,0,(z5g (l.take (rgs l))).2,[]⟩)
 else if z4p c then(11,noT p)
 else if rgs l=l.length/\last=false then(6,noT p)
 else if y5a c then
  if (z0j ((c::l).take (rgs l+1))).1≠0 then((z0j ((c::l).take (rgs l+1))).1,noT p) else(0,⟨1,p,p+1+rgs l,(z0j ((c::l).take (rgs l+1))).2.1,(z0j ((c::l).take (rgs l+1))).2.2,[],[]⟩)
 else(0,⟨6,p,p+1+rgs l,0,0,[],(c::l).take (rgs l+1)⟩)
def z0f (b:List Nat) (pos:Nat) (last:Bool):Int × Tkn :=
 match b.drop (pos+skp false (b.drop pos)) with
 |[]=>(if last then 0 else 6,noT (pos+skp false (b.drop pos)))
 |c::l=>z1y last (pos+skp false (b.drop pos)) c l
theorem v3x (last:Bool) (p:Nat) (l:List Nat) (h:l.head?≠some 60):z1y last p 60 l =
  if (z2c last [] (p+1) l).1≠0 then((z2c last [] (p+1) l).1,noT p) else(0,⟨1,p,(z2c last [] (p+1) l).2.2,4,0,(z2c last [] (p+1) l).2.1,[]⟩):=by
 unfold z1y;rw [if_neg (show ¬60=91 by decide),if_neg (show ¬60=93 by decide),if_neg (show ¬(60=60/\l.head?=some 60) from fun e=>h e.2),if_neg (show ¬(60=62/\l.head?=some 62) from fun e=>absurd e.1 (by decide)),if_neg (show ¬(60=62/\l=[]/\last=false) from fun e=>absurd e.1 (by decide)),if_pos (show 60=60 from rfl)]
theorem y11 (last:Bool) (p c:Nat) (l:List Nat):((z1y last p c l).1≠0/\(z1y last p c l).2=noT p)\/((z1y last p c l).1=0/\(z1y last p c l).2.kind≠0/\(z1y last p c l).2.from_=p/\p<(z1y last p c l).2.to/\(z1y last p c l).2.to<=p+1+l.length):=by
 have hrl:=y6h l;unfold z1y;by_cases h1:c=91
 ·rw [if_pos h1];exact .inr ⟨rfl,by simp,rfl,by simp only [];omega,by simp only [];omega⟩
 rw [if_neg h1];by_cases h2:c=93
 ·rw [if_pos h2];exact .inr ⟨rfl,by simp,rfl,by simp only [];omega,by simp only [];omega⟩
 rw [if_neg h2];by_cases h3:c=60/\l.head?=some 60
 ·rw [if_pos h3];cases l with
  |nil=>simp at h3
  |cons d l=>exact .inr ⟨rfl,by simp,rfl,by simp only [];omega,by simp only [List.length_cons];omega⟩
 rw [if_neg h3];by_cases h4:c=62/\l.head?=some 62
 ·rw [if_pos h4];cases l with
  |nil=>simp at h4
  |cons d l=>exact .inr ⟨rfl,by simp,rfl,by simp only [];omega,by simp only [List.length_cons];omega⟩
 rw [if_neg h4];by_cases h5:c=62/\l=[]/\last=false
 ·rw [if_pos h5];exact .inl ⟨by simp,rfl⟩
 rw [if_neg h5];by_cases h6:c=60
 ·rw [if_pos h6];by_cases h9:(z2c last [] (p+1) l).1≠0
  ·rw [if_pos h9];exact .inl ⟨h9,rfl⟩
  ·rw [if_neg h9];have:=v54 last l [] (p+1) (Decidable.not_not.1 h9);exact .inr ⟨rfl,by simp,rfl,by simp only [];omega,by simp only [];omega⟩
 rw [if_neg h6];by_cases h7:c=40
 ·rw [if_pos h7];by_cases h9:(z11 last 1 [] (p+1) l).1≠0
  ·rw [if_pos h9];exact .inl ⟨h9,rfl⟩
  ·rw [if_neg h9];have:=v3o last _ l 1 [] (p+1) (Nat.le_refl _) (Decidable.not_not.1 h9);exact .inr ⟨rfl,by simp,rfl,by simp only [];omega,by simp only [];omega⟩
 rw [if_neg h7];by_cases h8:c=47
 ·rw [if_pos h8];split
  ·exact .inl ⟨by simp,rfl⟩
  ·split
   ·next h9=>exact .inl ⟨h9,rfl⟩
   ·exact .inr ⟨rfl,by simp,rfl,by simp only [];omega,by simp only [];omega⟩
 rw [if_neg h8];split
 ·exact .inl ⟨by simp,rfl⟩
 ·split
  ·exact .inl ⟨by simp,rfl⟩
  ·split
   ·split
    ·next h9=>exact .inl ⟨h9,rfl⟩
    ·exact .inr ⟨rfl,by simp,rfl,by simp only [];omega,by simp only [];omega⟩
   ·exact .inr ⟨rfl,by simp,rfl,by simp only [];omega,by simp only [];omega⟩
theorem y1i (b:List Nat) (pos:Nat) (last:Bool) (hp:pos<=b.length) :
  (∃ p,pos<=p/\p<=b.length/\(z0f b pos last).2=noT p/\((z0f b pos last).1=0->last=true/\p=b.length)) \/
  ((z0f b pos last).1=0/\(z0f b pos last).2.kind≠0/\pos<=(z0f b pos last).2.from_/\(z0f b pos last).2.from_<(z0f b pos last).2.to/\(z0f b pos last).2.to<=b.length/\z0f b (z0f b pos last).2.from_ last=z0f b pos last):=by
 have hs:=v2u (b.drop pos) false;rw [List.length_drop] at hs;cases hc:b.drop (pos+skp false (b.drop pos)) with
 |nil =>
  have hl:=congrArg List.length hc;rw [List.length_drop,List.length_nil] at hl;have e:z0f b pos last=(if last then 0 else 6,noT (pos+skp false (b.drop pos))):=by unfold z0f;rw [hc]
  rw [e];refine .inl ⟨pos+skp false (b.drop pos),by omega,by omega,rfl,fun h=>?_⟩;cases last
  ·cases h
  ·exact⟨rfl,by omega⟩
 |cons c l =>
  have hl:=congrArg List.length hc;rw [List.length_drop,List.length_cons] at hl;have e:z0f b pos last=z1y last (pos+skp false (b.drop pos)) c l:=by unfold z0f;rw [hc]
  rw [e];rcases y11 last (pos+skp false (b.drop pos)) c l with⟨h1,h2⟩|⟨h1,h2,h3,h4,h5⟩
  ·exact .inl ⟨pos+skp false (b.drop pos),by omega,by omega,h2,fun h=>absurd h h1⟩
  ·refine .inr ⟨h1,h2,by rw [h3];omega,by rw [h3];exact h4,by omega,?_⟩;rw [h3];obtain⟨c',m,hd,hsp,h37⟩:=y2j (b.drop pos) false (by rw [List.length_drop];omega);rw [List.drop_drop,hc] at hd;cases hd
   have h0:skp false (b.drop (pos+skp false (b.drop pos)))=0:=by
    rw [hc];simp only [skp];rw [if_neg (by rw [hsp];decide),if_neg h37]
   unfold z0f;rw [h0,Nat.add_zero,hc]
def z08 (bs:List Nat):List Value:=bs.map fun b=>.int .u8 (b:Nat)
theorem z4n {bs:List Nat} {k x:Nat} (h:bs[k]?=some x):(z08 bs)[k]?=some (.int .u8 (x:Nat)):=by simp [z08,h]
theorem z3j (a b:List Nat):z08 (a++b)=z08 a++z08 b:=by simp [z08]
theorem z82 (a:List Nat):(z08 a).length=a.length:=by simp [z08]
theorem z19 {bs:List Nat} {k:Nat} (h:k<bs.length):∃ x,bs[k]?=some x/\bs.drop k=x::bs.drop (k+1) :=
 ⟨bs[k],List.getElem?_eq_getElem h,List.drop_eq_getElem_cons h⟩
theorem z5x {w w':World} {A:Option Addr} {n c:Nat} {bs:List Nat} (h:Src w 1 A n c (z08 bs)) (hc:Chg NoS w w') (hk:0<bs.length) :
  ∃ b off,A=some ⟨b,off,none⟩/\∀ j x,bs[j]?=some x->w'.cell? ⟨b,off+j,none⟩=some (.int .u8 (x:Nat)):=by
 obtain⟨b,off,rfl,hcell⟩:=h.plain (by rw [z82];omega);refine⟨b,off,rfl,fun j x hj=>?_⟩;have e0:=hcell j (.int .u8 (x:Nat)) (z4n hj);exact(hc.cell (p:=⟨b,_,none⟩) (by exact z04 e0) (fun h=>h)).trans e0
theorem y18 {a b:Int} (h:a=b):Ending.returned (.int .i64 a)=.returned (.int .i64 b):=by rw [h]
theorem z67:(Tryz.prog.info? 5).map (fun i=>(i.zero,i.size,i.bytes))=some (some (.int .u8 0),1,1):=by kernel_rfl
theorem z2s {o:Option TypeInfo} {z:Value} {a b:Nat} (h:o.map (fun i=>(i.zero,i.size,i.bytes))=some (some z,a,b)):∃ i,o=some i/\i.zero=some z/\i.size=a/\i.bytes=b:=by
 rcases o with _|i
 ·cases h
 ·simp at h;exact⟨i,rfl,h.1,h.2.1,h.2.2⟩
def KB (R:Nat) (V W:World):Prop:=∀ g T cs,g≠R->T≠5->Blk V g T cs->Blk W g T cs
theorem KB.refl (R:Nat) (V:World):KB R V V:=fun _ _ _ _ _ h=>h
theorem KB.trans {R:Nat} {V W X:World} (h:KB R V W) (k:KB R W X):KB R V X:=fun g T cs a b c=>k g T cs a b (h g T cs a b c)
theorem KB.chg {R:Nat} {V W:World} (h:Chg NoS V W):KB R V W:=fun _ _ _ _ _ c=>c.chg h (fun h=>h)
theorem KB.set {R:Nat} {V W:World} (h:KB R V W) (i:Nat) (u:Value):KB R V (W.setCell ⟨R,i,none⟩ u):=fun g T cs a b c=>(h g T cs a b c).far (p:=⟨R,i,none⟩) a u
theorem KB.grown {R:Nat} {V W W':World} {base:Nat} {v:Value} {m:Nat} {xs:List Value} (h:KB R V W) (ho:W.ownsRow base 5 1 v m xs) (hg:W.grownBy W' v.ownBlock):KB R V W' :=
 fun g T cs a b c=>(h g T cs a b c).grown hg (z1i ho (h g T cs a b c) (Ne.symm b)).symm
def rcl (q:Value) (A2:Option Addr) (n2 c2:Nat) (A:Option Addr) (n c p:Nat) (last:Bool):Array Value :=
 #[q,.slice A2 n2 c2,.slice A n c,.int .i64 (p:Nat),.bool last]
structure RDx (V w W:World) (A:Option Addr) (n c:Nat) (last:Bool) (R p:Nat) (out:List Nat) (q:Value) (A2:Option Addr) (c2:Nat):Prop where
 blk:Blk W R 198 (rcl q A2 out.length c2 A n c p last)
 used:q=.pointer none\/q=.pointer (some ⟨R,0,none⟩)
 own:W.ownsRow w.heap.size 5 1 (.slice A2 out.length c2) out.length (z08 out)
 chg:Chg NoS w W
 new:w.heap.size<=R
 kb:KB R V W
def RD (V w W:World) (A:Option Addr) (n c:Nat) (last:Bool) (R p:Nat) (out:List Nat):Prop:=∃ q A2 c2,RDx V w W A n c last R p out q A2 c2
section
variable {V w W W':World} {A A2:Option Addr} {n c R p c2:Nat} {last:Bool} {out:List Nat} {q:Value}
theorem RDx.cells (h:RDx V w W A n c last R p out q A2 c2):W.cell? ⟨R,0,none⟩=some q/\W.cell? ⟨R,1,none⟩=some (.slice A2 out.length c2)/\W.cell? ⟨R,2,none⟩=some (.slice A n c)/\W.cell? ⟨R,3,none⟩=some (.int .i64 (p:Nat))/\W.cell? ⟨R,4,none⟩=some (.bool last):=by
 refine⟨?_,?_,?_,?_,?_⟩<;>(rw [h.blk.cell];rfl)
theorem RDx.frozen (h:RDx V w W A n c last R p out q A2 c2) (i:Nat):W.frozen? ⟨R,i,none⟩=false:=h.blk.frozen i
theorem RDx.shape (h:RDx V w W A n c last R p out q A2 c2):W.shape? R=some (198,5):=by
 have h':W.heap[R]?=some (.cells (rcl q A2 out.length c2 A n c p last) 198 (0,0)):=h.blk;simp [World.shape?,h',rcl]
theorem RDx.neq (h:RDx V w W A n c last R p out q A2 c2):(Value.slice A2 out.length c2).ownBlock≠some R:=z1i h.own h.blk (by decide)
theorem z4h {g:Nat} {u:Value} {i base:Nat} {e:TypeId} {v:Value} {m:Nat} {xs:List Value} (h:W.ownsRow base e 1 v m xs) (hne:v.ownBlock≠some g):(W.setCell ⟨g,i,none⟩ u).ownsRow base e 1 v m xs :=
 z0i (S:=fun k=>k=g) h ((Chg.refl (fun k=>k=g) W).setCell (p:=⟨g,i,none⟩) (fun _=>rfl) u) (fun k hk e=>hne (by rw [hk,e]))
theorem RDx.at_ (h:RDx V w W A n c last R p out q A2 c2) (p':Nat):RDx V w (W.setCell ⟨R,3,none⟩ (.int .i64 (p':Nat))) A n c last R p' out q A2 c2 :=
 ⟨h.blk.set_ 3 _,h.used,z4h h.own h.neq,h.chg.setCell (p:=⟨R,3,none⟩) (fun e=>absurd e (Nat.not_lt.2 h.new)) _,h.new,h.kb.set _ _⟩
theorem RDx.use (h:RDx V w W A n c last R p out q A2 c2):RDx V w (W.setCell ⟨R,0,none⟩ (.pointer (some ⟨R,0,none⟩))) A n c last R p out (.pointer (some ⟨R,0,none⟩)) A2 c2 :=
 ⟨h.blk.set_ 0 _,.inr rfl,z4h h.own h.neq,h.chg.setCell (p:=⟨R,0,none⟩) (fun e=>absurd e (Nat.not_lt.2 h.new)) _,h.new,h.kb.set _ _⟩
theorem RDx.call (h:RDx V w W A n c last R p out q A2 c2) (hc:Chg NoS W W'):RDx V w W' A n c last R p out q A2 c2 :=
 ⟨h.blk.chg hc (fun h=>h),h.used,z0i (S:=NoS) h.own hc (fun _ _ e=>e),h.chg.trans hc (fun _ _ e=>e),h.new,h.kb.trans (KB.chg hc)⟩
theorem RDx.drew (h:RDx V w W A n c last R p out q A2 c2):RDx V w W.drew A n c last R p out q A2 c2:=h.call ((Chg.refl _ _).drew)
theorem RDx.alloc (h:RDx V w W A n c last R p out q A2 c2) (o:Obj):RDx V w (W.alloc o) A n c last R p out q A2 c2:=h.call ((Chg.refl _ _).alloc o)
theorem RDx.grow {A3:Option Addr} {c3:Nat} {out':List Nat} (h:RDx V w W A n c last R p out q A2 c2) (hg:W.grownBy W' (Value.slice A2 out.length c2).ownBlock)
  (ho:W'.ownsRow w.heap.size 5 1 (.slice A3 out'.length c3) out'.length (z08 out')):RDx V w (W'.setCell ⟨R,1,none⟩ (.slice A3 out'.length c3)) A n c last R p out' q A3 c3:=by
 have hb:Blk W' R 198 (rcl q A2 out.length c2 A n c p last):=h.blk.grown hg h.neq.symm;have hne:(Value.slice A3 out'.length c3).ownBlock≠some R:=z1i ho hb (by decide);refine⟨hb.set_ 1 _,h.used,z4h ho hne,?_,h.new,(h.kb.grown h.own hg).set _ _⟩;exact(h.chg.grown hg (fun k hk e=>absurd e (Nat.not_lt.2 (h.own.lt k hk).1))).setCell (p:=⟨R,1,none⟩) (fun e=>absurd e (Nat.not_lt.2 h.new)) _
theorem RDx.at_cells (h:RDx V w W A n c last R p out q A2 c2) (hg:W.grownBy W' (Value.slice A2 out.length c2).ownBlock):W'.cell? ⟨R,0,none⟩=some q/\W'.cell? ⟨R,1,none⟩=some (.slice A2 out.length c2)/\W'.frozen? ⟨R,1,none⟩=false:=by
 have hb:Blk W' R 198 (rcl q A2 out.length c2 A n c p last):=h.blk.grown hg h.neq.symm;exact⟨by rw [hb.cell];rfl,by rw [hb.cell];rfl,hb.frozen 1⟩
theorem RDx.rd (h:RDx V w W A n c last R p out q A2 c2):RD V w W A n c last R p out:=⟨_,_,_,h⟩
theorem RD.chg (h:RD V w W A n c last R p out):Chg NoS w W:=by
 obtain⟨_,_,_,h⟩:=h;exact h.chg
theorem RD.new (h:RD V w W A n c last R p out):w.heap.size<=R:=by
 obtain⟨_,_,_,h⟩:=h;exact h.new
theorem RD.call (h:RD V w W A n c last R p out) (hc:Chg NoS W W'):RD V w W' A n c last R p out:=by
 obtain⟨_,_,_,h⟩:=h;exact⟨_,_,_,h.call hc⟩
theorem RD.drewN (h:RD V w W A n c last R p out) (k:Nat):RD V w (W.drewN k) A n c last R p out:=h.call ((Chg.refl _ _).drewN k)
theorem RD.alloc (h:RD V w W A n c last R p out) (o:Obj):RD V w (W.alloc o) A n c last R p out:=h.call ((Chg.refl _ _).alloc o)
theorem RD.at_ (h:RD V w W A n c last R p out) (p':Nat):RD V w (W.setCell ⟨R,3,none⟩ (.int .i64 (p':Nat))) A n c last R p' out:=by
 obtain⟨_,_,_,h⟩:=h;exact⟨_,_,_,h.at_ p'⟩
theorem RD.cells (h:RD V w W A n c last R p out):W.cell? ⟨R,2,none⟩=some (.slice A n c)/\W.cell? ⟨R,3,none⟩=some (.int .i64 (p:Nat))/\W.cell? ⟨R,4,none⟩=some (.bool last)/\W.frozen? ⟨R,3,none⟩=false:=by
 obtain⟨_,_,_,h⟩:=h;exact⟨h.cells.2.2.1,h.cells.2.2.2.1,h.cells.2.2.2.2,h.frozen 3⟩
theorem RD.kb (h:RD V w W A n c last R p out):KB R V W:=by
 obtain⟨_,_,_,h⟩:=h;exact h.kb
theorem RD.base {V':World} (h:RD V w W A n c last R p out) (k:KB R V' W):RD V' w W A n c last R p out:=by
 obtain⟨_,_,_,h⟩:=h;exact⟨_,_,_,h.blk,h.used,h.own,h.chg,h.new,k⟩
theorem RD.here (h:RD V w W A n c last R p out):RD W w W A n c last R p out:=h.base (KB.refl _ _)
theorem RD.lt (h:RD V w W A n c last R p out):R<W.heap.size:=by
 obtain⟨_,_,_,h⟩:=h;exact h.blk.lt
end
structure RE (V w W:World) (R p:Nat):Prop where
 cell:W.cell? ⟨R,3,none⟩=some (.int .i64 (p:Nat))
 chg:Chg NoS w W
 kb:KB R V W
theorem RD.re {V w W:World} {A:Option Addr} {n c R p:Nat} {last:Bool} {out:List Nat} (h:RD V w W A n c last R p out):RE V w W R p:=⟨h.cells.2.1,h.chg,h.kb⟩
theorem RE.call {V w W W':World} {R p:Nat} (h:RE V w W R p) (hc:Chg NoS W W'):RE V w W' R p :=
 ⟨(hc.cell (p:=⟨R,3,none⟩) (z04 h.cell) (fun h=>h)).trans h.cell,h.chg.trans hc (fun _ _ e=>e),h.kb.trans (KB.chg hc)⟩
theorem RE.back {V V' w W:World} {R p:Nat} (h:RE V w W R p) (k:KB R V' V):RE V' w W R p:=⟨h.cell,h.chg,k.trans h.kb⟩
theorem Chg.freeze {w W:World} (h:Chg NoS w W) {g:Nat} (hg:w.heap.size<=g) (n:Nat):Chg NoS w (W.freeze ⟨g,0,none⟩ n):=by
 have hb:=Lib.below_freeze (B:=w.heap.size) h.no_below (p:=⟨g,0,none⟩) hg n;exact Chg.of_below hb
theorem y1p {W:World} {g R i:Nat} (hne:R≠g) (n:Nat):(W.freeze ⟨g,0,none⟩ n).cell? ⟨R,i,none⟩=W.cell? ⟨R,i,none⟩:=by
 unfold World.freeze;split
 ·rfl
 ·simp only [World.cell?];rw [Array.getElem?_modify,if_neg (fun e=>hne e.symm)]
theorem KB.far {R g:Nat} {V W:World} (h:KB R V W) (hg:V.heap.size<=g) (i:Nat) (u:Value):KB R V (W.setCell ⟨g,i,none⟩ u) :=
 fun k T cs a b c=>(h k T cs a b c).far (p:=⟨g,i,none⟩) (Nat.ne_of_lt (Nat.lt_of_lt_of_le c.lt hg)) u
theorem RE.far {V w W:World} {R p g:Nat} (h:RE V w W R p) (hR:g≠R) (hV:V.heap.size<=g) (hw:w.heap.size<=g) (i:Nat) (u:Value):RE V w (W.setCell ⟨g,i,none⟩ u) R p:=by
 refine⟨?_,h.chg.setCell (p:=⟨g,i,none⟩) (fun e=>absurd e (Nat.not_lt.2 hw)) u,h.kb.far hV i u⟩;have e:(W.setCell ⟨g,i,none⟩ u).heap[R]?=W.heap[R]?:=Below.heap_setCell W ⟨g,i,none⟩ u R (fun e=>hR e.symm);exact(World.cell?_of_block (a:=⟨R,3,none⟩) e).trans h.cell
theorem RE.set4 {V w W:World} {R p g:Nat} (h:RE V w W R p) (hR:g≠R) (hV:V.heap.size<=g) (hw:w.heap.size<=g) (a b c d:Value) :
  RE V w ((((W.setCell ⟨g,0,none⟩ a).setCell ⟨g,1,none⟩ b).setCell ⟨g,2,none⟩ c).setCell ⟨g,3,none⟩ d) R p :=
 (((h.far hR hV hw 0 a).far hR hV hw 1 b).far hR hV hw 2 c).far hR hV hw 3 d
theorem RE.set8 {V w W:World} {R p g:Nat} (h:RE V w W R p) (hR:g≠R) (hV:V.heap.size<=g) (hw:w.heap.size<=g) (a0 a1 a2 a3 a4 a5 a6 a7:Value) :
  RE V w ((((((((W.setCell ⟨g,0,none⟩ a0).setCell ⟨g,1,none⟩ a1).setCell ⟨g,2,none⟩ a2).setCell ⟨g,3,none⟩ a3).setCell ⟨g,4,none⟩ a4).setCell ⟨g,5,none⟩ a5).setCell ⟨g,6,none⟩ a6).setCell ⟨g,7,none⟩ a7) R p :=
 (((((((h.far hR hV hw 0 a0).far hR hV hw 1 a1).far hR hV hw 2 a2).far hR hV hw 3 a3).far hR hV hw 4 a4).far hR hV hw 5 a5).far hR hV hw 6 a6).far hR hV hw 7 a7
structure Cl4 (W:World) (g:Nat) (T:TypeId) (a b c d:Value):Prop where
 c0:W.cell? ⟨g,0,none⟩=some a
 c1:W.cell? ⟨g,1,none⟩=some b
 c2:W.cell? ⟨g,2,none⟩=some c
 c3:W.cell? ⟨g,3,none⟩=some d
 f0:W.frozen? ⟨g,0,none⟩=false
 f1:W.frozen? ⟨g,1,none⟩=false
 f2:W.frozen? ⟨g,2,none⟩=false
 f3:W.frozen? ⟨g,3,none⟩=false
theorem Blk.cl4 {W:World} {g:Nat} {T:TypeId} {a b c d:Value} (h:Blk W g T #[a,b,c,d]):Cl4 W g T a b c d :=
 ⟨(h.cell 0).trans rfl,(h.cell 1).trans rfl,(h.cell 2).trans rfl,(h.cell 3).trans rfl,h.frozen 0,h.frozen 1,h.frozen 2,h.frozen 3⟩
structure Cl8 (W:World) (g:Nat) (T:TypeId) (a0 a1 a2 a3 a4 a5 a6 a7:Value):Prop where
 c0:W.cell? ⟨g,0,none⟩=some a0
 c1:W.cell? ⟨g,1,none⟩=some a1
 c2:W.cell? ⟨g,2,none⟩=some a2
 c3:W.cell? ⟨g,3,none⟩=some a3
 c4:W.cell? ⟨g,4,none⟩=some a4
 c5:W.cell? ⟨g,5,none⟩=some a5
 c6:W.cell? ⟨g,6,none⟩=some a6
 c7:W.cell? ⟨g,7,none⟩=some a7
 f0:W.frozen? ⟨g,0,none⟩=false
 f1:W.frozen? ⟨g,1,none⟩=false
 f2:W.frozen? ⟨g,2,none⟩=false
 f3:W.frozen? ⟨g,3,none⟩=false
 f4:W.frozen? ⟨g,4,none⟩=false
 f5:W.frozen? ⟨g,5,none⟩=false
 f6:W.frozen? ⟨g,6,none⟩=false
 f7:W.frozen? ⟨g,7,none⟩=false
theorem Blk.cl8 {W:World} {g:Nat} {T:TypeId} {a0 a1 a2 a3 a4 a5 a6 a7:Value} (h:Blk W g T #[a0,a1,a2,a3,a4,a5,a6,a7]):Cl8 W g T a0 a1 a2 a3 a4 a5 a6 a7 :=
 ⟨(h.cell 0).trans rfl,(h.cell 1).trans rfl,(h.cell 2).trans rfl,(h.cell 3).trans rfl,(h.cell 4).trans rfl,(h.cell 5).trans rfl,(h.cell 6).trans rfl,(h.cell 7).trans rfl,h.frozen 0,h.frozen 1,h.frozen 2,h.frozen 3,h.frozen 4,h.frozen 5,h.frozen 6,h.frozen 7⟩
theorem KB.freeze {R:Nat} {V W:World} (h:KB R V W) {g:Nat} {cs:Array Value} {fz:Nat × Nat} (hg:W.heap[g]?=some (.cells cs 5 fz)) (n:Nat):KB R V (W.freeze ⟨g,0,none⟩ n):=by
 intro k T cs' a b c;have h1:=h k T cs' a b c
 have hne:g≠k:=by
  rintro rfl;have h2:W.heap[g]?=some (.cells cs' T (0,0)):=h1;rw [hg] at h2;simp only [Option.some.injEq,Obj.cells.injEq] at h2;exact b h2.2.1.symm
 have h2:W.heap[k]?=some (.cells cs' T (0,0)):=h1;unfold World.freeze;split
 ·exact h1
 ·show(W.heap.modify g _)[k]?=_;rw [Array.getElem?_modify,if_neg hne];exact h2
def sl (s:ByteArray):List Nat:=s.data.toList.map UInt8.toNat
theorem z1a (s:ByteArray):(sl s).length=s.size:=by
 rw [sl,List.length_map,Array.length_toList];rfl
theorem v0g (s:ByteArray):∀ d∈sl s,d<256:=by
 intro d hd;obtain⟨x,_,rfl⟩:=List.mem_map.1 hd;exact x.toNat_lt
theorem z5t (s:ByteArray) (k:Nat) (h:k<s.size):(s[k]'h).toNat=(sl s).getD k 0:=by
 have h1:k<s.data.toList.length:=by rw [Array.length_toList];exact h
 rw [List.getD_eq_getElem?_getD,sl,List.getElem?_map,List.getElem?_eq_getElem h1];simp;rfl
theorem z9s {s:ByteArray} {k:Nat} (h:k<s.size):(sl s)[k]?=some ((sl s).getD k 0):=by
 have h1:k<(sl s).length:=by rw [z1a];exact h
 rw [List.getD_eq_getElem?_getD,List.getElem?_eq_getElem h1];rfl
theorem z1k {l:List Nat} {k x:Nat} (h:l[k]?=some x):l.take (k+1)=l.take k++[x]:=by
 rw [List.take_add_one,h];rfl
def sb (l:List Nat):ByteArray:=⟨(l.map UInt8.ofNat).toArray⟩
theorem z01 (l:List Nat):(sb l).size=l.length:=by
 show(l.map UInt8.ofNat).toArray.size=_;rw [List.size_toArray,List.length_map]
theorem z0e (l m:List Nat):sb l++sb m=sb (l++m):=by
 unfold sb;rw [ByteArray.mk_append_mk,List.map_append]
theorem v8r (s:ByteArray):sb (sl s)=s:=by
 obtain⟨⟨l⟩⟩:=s;unfold sb sl;rw [List.map_map];have e:(UInt8.ofNat ∘ UInt8.toNat)=id:=by funext x;simp
 rw [e,List.map_id]
theorem z6f (l:List Nat) (h:∀ d∈l,d<256):sl (sb l)=l:=by
 unfold sb sl;show(l.map UInt8.ofNat).map UInt8.toNat=l;rw [List.map_map]
 have e:l.map (UInt8.toNat ∘ UInt8.ofNat)=l.map id:=List.map_congr_left fun d hd=>by
  show(UInt8.ofNat d).toNat=d;have:=h d hd;simp;omega
 rw [e,List.map_id]
theorem y3n:(Tryz.prog.info? 155).map (·.size)=some 2:=by kernel_rfl
theorem v2k:liesAt Tryz.prog Tryz.prog.depth 198 (5 / Tryz.prog.cellsOf 198) 0 155 1=true:=by kernel_rfl
theorem z87:Tryz.prog.cellsOf 5=1:=by kernel_rfl
theorem z4q:Tryz.prog.funcs[(194:Nat)]?=some Tryz.f194:=by kernel_rfl
theorem y0p {V w W:World} {A A2:Option Addr} {n c R p c2:Nat} {last:Bool} {out:List Nat} {q:Value} (h:RDx V w W A n c last R p out q A2 c2) :
  Calls Tryz.prog 166 #[.pointer (some ⟨R,0,none⟩)] W fun e W'=>e=.returned (.tuple #[])/\RDx V w W' A n c last R p out (.pointer (some ⟨R,0,none⟩)) A2 c2:=by
 obtain⟨j,hj,hjs⟩:=Option.map_eq_some_iff.1 y3n;rcases h.used with rfl|rfl
 ·have h0:=h.cells.1;have hf:=h.frozen 0;have hsh:=h.shape;have HU:=kf h.use
  have g1:(convert 153 229 (.pointer (some ⟨R,0,none⟩))).run Tryz.prog W=.ok (.pointer (some ⟨R,0,none⟩)) W :=
   Lib.run_to_unsafe W ⟨R,0,none⟩ Tryz.underlying153 Tryz.underlying229 hj (by rw [hjs];decide) hsh (Nat.zero_lt_succ 4)
  have g2:(convert 229 153 (.pointer (some ⟨R,0,none⟩))).run Tryz.prog W=.ok (.pointer (some ⟨R,0,none⟩)) W :=
   Lib.run_from_unsafe W ⟨R,0,none⟩ Tryz.underlying229 Tryz.underlying153 hj hsh v2k
  clear h;go_enter Tryz.func166,Tryz.ntmps166;go_wp2;rw [run_callFunc_extern z4q (by kernel_rfl) (by kernel_rfl) (by kernel_rfl) (e:=Extern.AbiNoEscape.same) (by kernel_rfl)];rw [Lib.run_noEscape];simp only [Result.andThen];rw [Oper.upon_value];go_wp2;go_end0;exact⟨rfl,HU.out⟩
 ·have h0:=h.cells.1;have HU:=kf h;clear h;go_enter Tryz.func166,Tryz.ntmps166;go_wp2;rw [Lib.run_neq_ptr_same W _ Tryz.underlying153 hj];go_wp2;go_end0;exact⟨rfl,HU.out⟩
theorem z58 {V w W:World} {A:Option Addr} {n c R p:Nat} {last:Bool} {out:List Nat} (h:RD V w W A n c last R p out) (x:Nat) (hl:out.length<=1000000) :
  Calls Tryz.prog 172 #[.pointer (some ⟨R,0,none⟩),.int .u8 (x:Nat)] W fun e W'=>e=.returned .nilIface/\RD V w W' A n c last R p (out++[x]):=by
 obtain⟨q,A2,c2,h⟩:=h;obtain⟨i0,hi,hz0,hz1,hz2⟩:=z2s z67;have HC:=kf (y0p h);clear h;go_enter Tryz.func172,Tryz.ntmps172;go_wp2_with (go_at_call 166;refine HC.out.mono ?_);rintro e w1 ⟨rfl,h1⟩;have c0:=h1.cells.1;have c1:=h1.cells.2.1;have hs:=h1.chg.size;have hown:=h1.own;have HR:=kf h1;clear h1;go_wp2_with (at_builtin;refine wpList_append_own _ rfl _ _ 32 rfl w.heap.size 5 i0 (.int .u8 0) 1 1 Tryz.underlying32 hi hz0 hz1 hz2 rfl (by decide) _ _ _ rfl (hown.alloc _) ⟨w1.heap.size,0,none⟩ 1 1 [.int .u8 (x:Nat)] rfl rfl ?c1 ?c2 ?c3 ?c4 ?c5 ?_)
 case c1 =>
  intro j u hj;match j,hj with
  |0,hj=>simp at hj;subst hj;simp [Addr.add]
 case c2=>intro u hu;simp at hu;subst hu;rfl
 case c3=>unfold maxLen;omega
 case c4=>omega
 case c5=>simp;omega
 intro v' w2 hown' hgrow _;have h2:=(HR.out.alloc (.cells #[.int .u8 (x:Nat)] 5)).at_cells hgrow;obtain⟨d0,d1,f1⟩:=h2;obtain⟨A3,c3,rfl,_⟩:=z0n hown';have hl1:(out++[x]).length=out.length+1:=by simp
 have HF:=kf ((HR.out.alloc (.cells #[.int .u8 (x:Nat)] 5)).grow (out':=out++[x]) (A3:=A3) (c3:=c3) hgrow (by rw [hl1,z3j];exact hown'));rw [hl1] at HF;clear hown hown' hgrow hl1;go_wp2;go_ret;exact⟨rfl,HF.out.rd⟩
theorem z6d (l:List Nat) (h:∀ d∈l,d<256):Lib.strCells (sb l)=z08 l:=by
 unfold Lib.strCells sb z08;rw [List.map_map];refine List.map_congr_left fun d hd=>?_;have:=h d hd;simp;omega
theorem y6q {V w W:World} {A:Option Addr} {n c R p:Nat} {last:Bool} {out:List Nat} (h:RD V w W A n c last R p out) (l:List Nat) (hb:∀ d∈l,d<256) (hl:out.length<=1000000) (hl2:l.length<=1000000) :
  Calls Tryz.prog 136 #[.pointer (some ⟨R,0,none⟩),.string (sb l)] W fun e W'=>e=.returned (.tuple #[.int .i64 (l.length:Nat),.nilIface])/\RD V w W' A n c last R p (out++l):=by
 obtain⟨q,A2,c2,h⟩:=h;obtain⟨i0,hi,hz0,hz1,hz2⟩:=z2s z67;have HC:=kf (y0p h);have hsz:=z01 l;have HS:=kf (z6d l hb);obtain⟨s,hs⟩:∃ s,sb l=s:=⟨_,rfl⟩
 rw [hs] at hsz HS ⊢;obtain⟨m,hm⟩:∃ m,l.length=m:=⟨_,rfl⟩
 have hm2:(out++l).length=out.length+m:=by rw [List.length_append,hm]
 rw [hm] at hsz hl2 ⊢;clear h hs hb;go_enter Tryz.func136,Tryz.ntmps136;go_wp2_with (go_at_call 166;refine HC.out.mono ?_);rintro e w1 ⟨rfl,h1⟩;have c0:=h1.cells.1;have c1:=h1.cells.2.1;have hs:=h1.chg.size;have hown:=h1.own;have HR:=kf h1;clear h1;go_wp2_with (at_builtin;refine Lib.wpList_append_own_string _ rfl _ _ 32 9 rfl w.heap.size 5 i0 Tryz.underlying32 Tryz.underlying9 hi hz0 hz1 hz2 _ _ _ rfl hown s rfl ?c3 ?c4 ?c5 ?_)
 case c3=>unfold maxLen;omega
 case c4=>omega
 case c5=>omega
 intro v' w2 hown' hgrow _;have h2:=HR.out.at_cells hgrow;obtain⟨d0,d1,f1⟩:=h2;(try rw [hsz] at hown')
 rw [HS.out,<- z3j] at hown';obtain⟨A3,c3,rfl,_⟩:=z0n hown';have HF:=kf (HR.out.grow (out':=out++l) (A3:=A3) (c3:=c3) hgrow (by rw [hm2];exact hown'));rw [hm2] at HF;clear hown hown' hgrow hm2 hm HS;go_wp2;go_ret2;exact⟨rfl,HF.out.rd⟩
theorem v0x {V w W:World} {A:Option Addr} {n c R p:Nat} {last:Bool} {out:List Nat} (h:RD V w W A n c last R p out) :
  Calls Tryz.prog 146 #[.pointer (some ⟨R,0,none⟩)] W fun e W'=>e=.returned (.int .i64 (out.length:Nat))/\W=W':=by
 obtain⟨q,A2,c2,h⟩:=h;have c1:=h.cells.2.1;clear h;go_enter Tryz.func146,Tryz.ntmps146;go_wp2;go_ret;exact⟨rfl,rfl⟩
theorem y1c {V w W:World} {A:Option Addr} {n c R p:Nat} {last:Bool} {out:List Nat} (h:RD V w W A n c last R p out) (hb:∀ d∈out,d<256) (hl:out.length<=1000000) :
  Calls Tryz.prog 99 #[.pointer (some ⟨R,0,none⟩)] W fun e W'=>e=.returned (.string (sb out))/\RE V w W' R p:=by
 obtain⟨q,A2,c2,h⟩:=h;have mixed:Tryz.prog.follows Departure.mixedOrders=true:=by kernel_rfl
 have hre:=h.rd.re.call ((Chg.refl NoS W).drew);have c1:=h.drew.cells.2.1;have hown:=h.own;have hne:=h.neq;have hnew:=h.new;obtain⟨m,hm⟩:∃ m,out.length=m:=⟨_,rfl⟩
 rw [hm] at c1 hown hne hl;rcases hown.2 with⟨hv,h0⟩|⟨g,cap,cur,hv,hbg,hg,hnc,hcm,hcs,htake⟩
 ·simp only [Value.slice.injEq] at hv;obtain⟨rfl,h0',rfl⟩:=hv;subst h0';obtain rfl:out=[]:=List.eq_nil_of_length_eq_zero hm;have hUS:∀ W2,(Builtin.unsafeString_ #[192,3] 9 #[.pointer none,.int .i64 0]).run Tryz.prog W2=.ok (.string .empty) W2:=fun W2=>Lib.run_unsafeString_none W2 _ _ _ none;have hSD:(Builtin.unsafeSliceData_ #[32] 192 #[.slice none 0 0]).run Tryz.prog W.drew=.ok (.pointer none) W.drew:=rfl;have HRE:=kf hre;clear hre hne hown h hm;go_enter Tryz.func99,Tryz.ntmps99;go_wp2;go_region_o
  all_goals (go_wp2;go_ret;exact⟨rfl,HRE.out⟩)
 ·simp only [Value.slice.injEq] at hv;obtain⟨rfl,_,rfl⟩:=hv;have hgR:R≠g:=fun e=>hne (by rw [e];rfl);have hgd:W.drew.heap[g]?=some (.cells cur 5 (0,0)):=hg;have hsh:W.drew.shape? g=some (5,cur.size):=by simp [World.shape?,hgd]
  by_cases h0:m=0
  ·subst h0;obtain rfl:out=[]:=List.eq_nil_of_length_eq_zero hm;have hUS:∀ W2 q,(Builtin.unsafeString_ #[192,3] 9 #[.pointer q,.int .i64 0]).run Tryz.prog W2=.ok (.string .empty) W2:=fun W2 q=>Lib.run_unsafeString_none W2 _ _ _ q;by_cases hc0:c2=0
   ·subst hc0
    have hSD:(Builtin.unsafeSliceData_ #[32] 192 #[.slice (some ⟨g,0,none⟩) 0 0]).run Tryz.prog W.drew=.ok (.pointer (some ⟨W.drew.heap.size,0,none⟩)) (W.drew.alloc (.view ⟨g,0,none⟩ 5)) :=
     Lib.run_unsafeSliceData_zero W.drew _ _ 5 Tryz.underlying192 ⟨g,0,none⟩ 0 (5,cur.size) hsh
    have k2:(W.drew.alloc (.view ⟨g,0,none⟩ 5)).cell? ⟨R,1,none⟩=some (.slice (some ⟨g,0,none⟩) 0 0) :=
     (((Chg.refl NoS W.drew).alloc _).cell (p:=⟨R,1,none⟩) (z04 c1) (fun h=>h)).trans c1
    have c3:(W.alloc (.view ⟨g,0,none⟩ 5)).drew.cell? ⟨R,1,none⟩=some (.slice (some ⟨g,0,none⟩) 0 0):=k2;have c0:W.cell? ⟨R,1,none⟩=some (.slice (some ⟨g,0,none⟩) 0 0):=c1;have HRE:=kf (hre.call ((Chg.refl NoS W.drew).alloc (.view ⟨g,0,none⟩ 5)));clear hre hne hown h hm hsh hgd hg hgR htake hcs hcm hnc;go_enter Tryz.func99,Tryz.ntmps99;go_wp2;go_region_o
    all_goals (go_wp2;go_ret;exact⟨rfl,HRE.out⟩)
   ·have hSD:(Builtin.unsafeSliceData_ #[32] 192 #[.slice (some ⟨g,0,none⟩) 0 c2]).run Tryz.prog W.drew=.ok (.pointer (some ⟨g,0,none⟩)) W.drew :=
     Lib.run_unsafeSliceData_row _ _ _ _ _ _ hc0
    have HRE:=kf hre;clear hre hne hown h hm hsh hgd hg hgR htake hcs hcm hnc hc0;go_enter Tryz.func99,Tryz.ntmps99;go_wp2;go_region_o
    all_goals (go_wp2;go_ret;exact⟨rfl,HRE.out⟩)
  ·have hSD:(Builtin.unsafeSliceData_ #[32] 192 #[.slice (some ⟨g,0,none⟩) m c2]).run Tryz.prog W.drew=.ok (.pointer (some ⟨g,0,none⟩)) W.drew :=
    Lib.run_unsafeSliceData_row _ _ _ _ _ _ (by omega)
   have hml:(out.map UInt8.ofNat).length=m:=by rw [List.length_map,hm]
   have hUS:(Builtin.unsafeString_ #[192,3] 9 #[.pointer (some ⟨g,0,none⟩),.int .i64 (m:Nat)]).run Tryz.prog W.drew=.ok (.string (sb out)) (W.drew.freeze ⟨g,0,none⟩ m):=by
    have hu:=Lib.run_unsafeString_row (P:=Tryz.prog) W.drew 192 3 9 5 Tryz.underlying192 z87 g cur.size hsh (out.map UInt8.ofNat) (fun e=>h0 (by rw [<- hml,e];rfl)) (by rw [hml];omega) (by rw [hml];unfold maxLen at hcm;omega) (fun j x hx=>by
     rw [List.getElem?_map] at hx;cases hj:out[j]? with
     |none=>rw [hj] at hx;cases hx
     |some y =>
      rw [hj] at hx;simp only [Option.map_some,Option.some.injEq] at hx;subst hx;have hy:=hb y (List.mem_of_getElem? hj);have:=hown.cells (g:=g) rfl j _ (z4n hj);have e:((UInt8.ofNat y).toNat:Nat)=y:=by simp;omega
      rw [e];exact this)
    rw [hml] at hu;exact hu
   have HRE:=kf (show RE V w (W.drew.freeze ⟨g,0,none⟩ m) R p from⟨(y1p hgR m).trans hre.cell,hre.chg.freeze hbg m,hre.kb.freeze hgd m⟩);obtain⟨s,hs⟩:∃ s,sb out=s:=⟨_,rfl⟩
   rw [hs] at hUS ⊢;clear hre hne hown h hm hsh hgd hg hgR htake hcs hcm hnc hml hs;go_enter Tryz.func99,Tryz.ntmps99;go_wp2;go_region_o
   all_goals (go_wp2;go_ret;exact⟨rfl,HRE.out⟩)
def y95 (A:Option Addr) (lo cap:Nat):Option Addr:=if cap=lo then A else A.map (·.add (lo*1))
theorem y94 (A:Option Addr) (cap:Nat):y95 A 0 cap=A:=by
 unfold y95;split
 ·rfl
 ·rcases A with _|b
  ·rfl
  ·simp [Addr.add]
theorem v2o (a:Addr) (i j:Nat):(a.add (i*1)).add j=a.add (i+j):=by
 unfold Addr.add;by_cases hi:i=0
 ·subst hi;simp
 ·by_cases hj:j=0
  ·subst hj;simp [hi]
  ·simp [hi,hj];omega
theorem y2e {w:World} {A:Option Addr} {n c lo m:Nat} {xs:List Value} (h:Src w 1 A n c xs) (hc:n<=c) (hm:lo+m<=n):Src w 1 (y95 A lo c) m (c-lo) ((xs.drop lo).take m):=by
 have hl:=h.1;refine⟨by simp;omega,fun e=>?_,fun ad e j u hu=>?_⟩
 ·unfold y95 at e;split at e
  ·have:=h.2.1 e;omega
  ·rcases A with _|b
   ·have:=h.2.1 rfl;omega
   ·cases e
 ·have hj:j<m:=by
   have:=(List.getElem?_eq_some_iff.1 hu).1;simp at this;omega
  rw [List.getElem?_take_of_lt hj,List.getElem?_drop] at hu;unfold y95 at e;rw [if_neg (by omega)] at e;rcases A with _|b
  ·cases e
  ·simp only [Option.map_some,Option.some.injEq] at e;subst e;rw [v2o];exact h.2.2 b rfl (lo+j) u hu
theorem v8p (w:World):(sizeOf (Tryz.prog.elem 32)).run Tryz.prog w=.ok 1 w:=by go_simp
theorem v94 (A:Option Addr) (len cap lo:Nat) (h:lo<=len) (w:World):(Instr.sliceAt 32 (.slice A len cap) (some (.int .i64 (lo:Nat))) none none).run Tryz.prog w=.ok (.slice (y95 A lo cap) (len-lo) (cap-lo)) w:=by
 rw [run_sliceAt_slice w _ _ _ _ _ Tryz.underlying32,run_slice_l w _ A len cap Tryz.underlying32 .i64 (lo:Nat) (by omega) (by omega),v8p];simp [Result.andThen,sliced,y95]
theorem z4s (b off lo c:Nat):y95 (some ⟨b,off,none⟩) lo c=if c=lo then some ⟨b,off,none⟩ else some ⟨b,off+lo,none⟩:=by
 unfold y95;split
 ·rfl
 ·by_cases h:lo=0
  ·subst h;rfl
  ·simp [Addr.add,h]
theorem y1t:∀ d,d<10->(ByteArray.mk #[48,49,50,51,52,53,54,55,56,57]).extract d (d+1)=sb [48+d]:=by
 intro d h;rcases d with _|_|_|_|_|_|_|_|_|_|d
 all_goals first
  |rfl
  |decide
  |omega
theorem z4e (n least:Nat) (w:World) (hn:n<10 ^ 20) (hn63:n<=9223372036854775807) (hl:least<=20) :
  Calls Tryz.prog 63 #[.int .i64 (n:Nat),.int .i64 (least:Nat)] w fun e w'=>e=.returned (.string (sb (txt n least)))/\w=w':=by
 have HT:=kf hn;clear hn;go_enter Tryz.func63,Tryz.ntmps63;go_wp2_with fail;go_loop [0,5,6,7] (fun vm vs vk vd=>∃ (m k:Nat) (s:ByteArray),k<=20/\m<=9223372036854775807/\s.size=k/\vm=.int .i64 (m:Nat)/\vs=.string s/\vk=.int .i64 (k:Nat)/\Hid (∃ S:List Nat,s=sb S/\S.length=k/\m<10 ^ (20-k)/\txt n least=txt m (least-k)++S)) (fun _ _ vk _=>20-(intOf vk).toNat)
 case atStart=>exact⟨n,0,sb [],by omega,hn63,rfl,rfl,rfl,by go_num,⟨[],rfl,rfl,HT.out,by simp⟩⟩
 case round =>
  obtain⟨m,k,s,hk,hm,hs,rfl,rfl,rfl,HS⟩:=hrel;obtain⟨d,hd⟩:∃ d,d=m%10:=⟨_,rfl⟩
  have ed:(m:Int)%10=(d:Int):=by omega
  have hd10:d<10:=by omega
  obtain⟨q,hq⟩:∃ q,q=m / 10:=⟨_,rfl⟩
  have eq:(m:Int) / 10=(q:Int):=by omega
  have HDQ:=kf (⟨hd,hq⟩:d=m%10/\q=m / 10);have hex:=y1t d hd10;have hq63:q<=9223372036854775807:=by omega
  obtain⟨c,hc⟩:∃ c,c=sb [48+d]:=⟨_,rfl⟩
  rw [<- hc] at hex;have hc1:c.size=1:=by rw [hc,z01];rfl
  have HC:=kf hc;clear hd hq hc
  have hstep:Hid ((m≠0\/k<least)->k<20->∃ S:List Nat,c++s=sb S/\S.length=k+1/\q<10 ^ (20-(k+1))/\txt n least=txt q (least-(k+1))++S):=by
   intro h1 h2;obtain⟨S,rfl,h3,h4,h5⟩:=HS.out;refine⟨(48+d)::S,by rw [HC.out,z0e];rfl,by simp [h3],?_,?_⟩
   ·rw [HDQ.out.2];have e:10 ^ (20-k)=10 ^ (20-(k+1))*10:=by rw [<- Nat.pow_succ];congr 1;omega
    omega
   ·rw [h5,y26 m (least-k) (by omega),<- HDQ.out.1,<- HDQ.out.2,List.append_assoc,show least-(k+1)=least-k-1 from by omega];rfl
  have hend:Hid (¬(m≠0\/k<least)\/¬k<20->s=sb (txt n least)):=by
   intro h1;obtain⟨S,rfl,h3,h4,h5⟩:=HS.out
   have h6:m=0/\least<=k:=by
    rcases h1 with h1|h1
    ·omega
    ·obtain rfl:k=20:=by omega
     simp at h4;omega
   rw [h5,h6.1,show least-k=0 from by omega,v07,List.nil_append]
  by_cases h20:k<20
  ·by_cases hm0:m=0
   ·have d1:decide ((0:Int)<m)=false:=by simp;omega
    have d1':decide (0<m)=false:=by simp;omega
    by_cases hkl:k<least
    ·have d2:decide ((k:Int)<least)=true:=by simp;omega
     have d2':decide (k<least)=true:=by simp;omega
     have HN:=kf (hstep.out (.inr hkl) h20);clear hm0 hstep hend;go_wp2_with fail;go_round
     case rel=>exact⟨q,k+1,c++s,by omega,hq63,by rw [ByteArray.size_append];omega,rfl,rfl,by go_num,HN.out⟩
     case measure=>simp [intOf];omega
    ·have d2:decide ((k:Int)<least)=false:=by simp;omega
     have d2':decide (k<least)=false:=by simp;omega
     have HE:=kf (hend.out (.inl (by omega)));clear hm0 hstep hend;go_wp2_with fail;go_ret;rw [<- HE.out];exact⟨rfl,rfl⟩
   ·have d1:decide ((0:Int)<m)=true:=by simp;omega
    have d1':decide (0<m)=true:=by simp;omega
    have HN:=kf (hstep.out (.inl hm0) h20);clear hm0 hstep hend;go_wp2_with fail;go_round
    case rel=>exact⟨q,k+1,c++s,by omega,hq63,by rw [ByteArray.size_append];omega,rfl,rfl,by go_num,HN.out⟩
    case measure=>simp [intOf];omega
  ·have HE:=kf (hend.out (.inr h20));have d3:decide ((k:Int)<20)=false:=by simp;omega
   have d3':decide (k<20)=false:=by simp;omega
   clear hstep hend;go_wp2_with fail;go_ret;rw [<- HE.out];exact⟨rfl,rfl⟩
def z27 (n d:Int):List Nat × Int:=if n<0\/d<1\/20<d\/d.toNat<(txt n.toNat d.toNat).length then([],2) else(txt n.toNat d.toNat,0)
theorem z36 {n d:Int} (h:n<0\/d<1\/20<d\/d.toNat<(txt n.toNat d.toNat).length):z27 n d=([],2):=if_pos h
theorem v0k (n d:Int) (w:World) (h0:-9223372036854775808<=n/\n<=9223372036854775807) (h1:-9223372036854775808<=d/\d<=9223372036854775807) :
  Calls Tryz.prog 32 #[.int .i64 n,.int .i64 d] w fun e w'=>e=.returned (.tuple #[.string (sb (z27 n d).1),.int .i64 (z27 n d).2])/\w=w':=by
 by_cases c1:n<0
 ·have HB:Hid (z27 n d=([],2)):=z36 (.inl c1);have d1:decide (n<0)=true:=by simpa using c1
  go_enter Tryz.func32,Tryz.ntmps32;go_wp2_with fail;go_ret2;rw [HB.out];exact⟨rfl,rfl⟩
 ·have d1:decide (n<0)=false:=by simpa using c1
  by_cases c2:d<1
  ·have HB:Hid (z27 n d=([],2)):=z36 (.inr (.inl c2));have d2:decide (d<1)=true:=by simpa using c2
   go_enter Tryz.func32,Tryz.ntmps32;go_wp2_with fail;go_ret2;rw [HB.out];exact⟨rfl,rfl⟩
  ·have d2:decide (d<1)=false:=by simpa using c2
   by_cases c3:20<d
   ·have HB:Hid (z27 n d=([],2)):=z36 (.inr (.inr (.inl c3)));have d3:decide (20<d)=true:=by simpa using c3
    go_enter Tryz.func32,Tryz.ntmps32;go_wp2_with fail;go_ret2;rw [HB.out];exact⟨rfl,rfl⟩
   ·have d3:decide (20<d)=false:=by simpa using c3
    obtain⟨n,rfl⟩:=Int.eq_ofNat_of_zero_le (show 0<=n by omega);obtain⟨d,rfl⟩:=Int.eq_ofNat_of_zero_le (show 0<=d by omega);have HT:=kf (z4e n d w (by omega) (by omega) (by omega));obtain⟨s,hs⟩:∃ s,s=sb (txt n d):=⟨_,rfl⟩
    have HSS:=kf (z01 (txt n d));rw [<- hs] at HT HSS;have HS:=kf hs;obtain⟨m,hm⟩:∃ m,s.size=m:=⟨_,rfl⟩
    rw [hm] at HSS;clear hs;have d1':decide ((n:Int)<0)=false:=by simp
    by_cases c4:d<m
    ·have HB:Hid (z27 (n:Nat) (d:Nat)=([],2)):=z36 (.inr (.inr (.inr (by rw [Int.toNat_natCast,Int.toNat_natCast,<- HSS.out];exact c4))));have d4:decide ((d:Int)<m)=true:=by simp;omega
     have d4':decide (d<m)=true:=by simp;omega
     go_enter Tryz.func32,Tryz.ntmps32;go_wp2_with (go_at_call 63;refine HT.out.mono ?_;rintro e w' ⟨rfl,rfl⟩);go_ret2;rw [HB.out];exact⟨rfl,rfl⟩
    ·have HB:Hid (z27 (n:Nat) (d:Nat)=(txt n d,0)):=by
      show _=_;unfold z27;rw [Int.toNat_natCast,Int.toNat_natCast,if_neg (by rw [<- HSS.out];omega)]
     have d4:decide ((d:Int)<m)=false:=by simp;omega
     have d4':decide (d<m)=false:=by simp;omega
     go_enter Tryz.func32,Tryz.ntmps32;go_wp2_with (go_at_call 63;refine HT.out.mono ?_;rintro e w' ⟨rfl,rfl⟩);go_ret2;rw [HB.out,HS.out];exact⟨rfl,rfl⟩
def z2x (k n:Int):Prop:=(k=2/\-2147483647<=n/\n<=2147483647)\/(k=3/\-2147483647000000<=n/\n<=2147483647000000)
instance (k n:Int):Decidable (z2x k n):=inferInstanceAs (Decidable (_\/_))
def z05 (k n:Int) (sz len:Nat):Int:=if sz=0/\len=0/\z2x k n then 0 else 2
theorem z0t {s:ByteArray} (h:s.size=0):s=⟨#[]⟩:=by
 obtain⟨a⟩:=s;have h:a.size=0:=h;rw [Array.eq_empty_of_size_eq_zero h]
theorem z7n {s:ByteArray} (h:s.size≠0):¬s.toList=[]:=by
 rw [ByteArray.toList_eq];obtain⟨⟨l⟩⟩:=s;have h:l.length≠0:=h;rcases l with _|⟨x,l⟩
 ·simp at h
 ·intro h2;cases h2
theorem y2q (k n:Int) (s:ByteArray) (A:Option Addr) (len cap:Nat) (w:World) :
  Calls Tryz.prog 84 #[.agg #[.int .i64 k,.int .i64 n,.string s,.slice A len cap]] w fun e w'=>e=.returned (.int .i64 (z05 k n s.size len))/\Chg NoS w w':=by
 by_cases hs:s.size=0
 ·obtain rfl:=z0t hs;by_cases hl:len=0
  ·subst hl
   have HB:Hid (∀ z:Int,(z2x k n/\z=0)\/(¬z2x k n/\z=2)->z05 k n (ByteArray.mk #[]).size 0=z):=by
    rintro z (⟨h,rfl⟩|⟨h,rfl⟩)
    ·exact if_pos ⟨rfl,rfl,h⟩
    ·exact if_neg (fun h2=>h h2.2.2)
   by_cases h2:k=2
   ·subst h2;by_cases c1:-2147483647<=n
    ·have d1:decide (-2147483647<=n)=true:=by simpa using c1
     by_cases c2:n<=2147483647
     ·have d2:decide (n<=2147483647)=true:=by simpa using c2
      have HZ:=kf (HB.out 0 (.inl ⟨.inl ⟨rfl,c1,c2⟩,rfl⟩));go_enter Tryz.func84,Tryz.ntmps84;go_wp2_with fail;go_ret;refine⟨?_,(Chg.refl NoS w).alloc _⟩;show _=Ending.returned (Value.int IntKind.i64 (z05 _ _ (ByteArray.mk #[]).size _));rw [HZ.out];rfl
     ·have d2:decide (n<=2147483647)=false:=by simpa using c2
      have HZ:=kf (HB.out 2 (.inr ⟨fun h=>by unfold z2x at h;omega,rfl⟩));go_enter Tryz.func84,Tryz.ntmps84;go_wp2_with fail;go_ret;refine⟨?_,(Chg.refl NoS w).alloc _⟩;show _=Ending.returned (Value.int IntKind.i64 (z05 _ _ (ByteArray.mk #[]).size _));rw [HZ.out];rfl
    ·have d1:decide (-2147483647<=n)=false:=by simpa using c1
     have HZ:=kf (HB.out 2 (.inr ⟨fun h=>by unfold z2x at h;omega,rfl⟩));go_enter Tryz.func84,Tryz.ntmps84;go_wp2_with fail;go_ret;refine⟨?_,(Chg.refl NoS w).alloc _⟩;show _=Ending.returned (Value.int IntKind.i64 (z05 _ _ (ByteArray.mk #[]).size _));rw [HZ.out];rfl
   ·have u2:(k==2)=false:=by simpa using h2
    by_cases h3:k=3
    ·subst h3;by_cases c1:-2147483647000000<=n
     ·have d1:decide (-2147483647000000<=n)=true:=by simpa using c1
      by_cases c2:n<=2147483647000000
      ·have d2:decide (n<=2147483647000000)=true:=by simpa using c2
       have HZ:=kf (HB.out 0 (.inl ⟨.inr ⟨rfl,c1,c2⟩,rfl⟩));clear h2 u2;go_enter Tryz.func84,Tryz.ntmps84;go_wp2_with fail;go_ret;refine⟨?_,(Chg.refl NoS w).alloc _⟩;show _=Ending.returned (Value.int IntKind.i64 (z05 _ _ (ByteArray.mk #[]).size _));rw [HZ.out];rfl
      ·have d2:decide (n<=2147483647000000)=false:=by simpa using c2
       have HZ:=kf (HB.out 2 (.inr ⟨fun h=>by unfold z2x at h;omega,rfl⟩));clear h2 u2;go_enter Tryz.func84,Tryz.ntmps84;go_wp2_with fail;go_ret;refine⟨?_,(Chg.refl NoS w).alloc _⟩;show _=Ending.returned (Value.int IntKind.i64 (z05 _ _ (ByteArray.mk #[]).size _));rw [HZ.out];rfl
     ·have d1:decide (-2147483647000000<=n)=false:=by simpa using c1
      have HZ:=kf (HB.out 2 (.inr ⟨fun h=>by unfold z2x at h;omega,rfl⟩));clear h2 u2;go_enter Tryz.func84,Tryz.ntmps84;go_wp2_with fail;go_ret;refine⟨?_,(Chg.refl NoS w).alloc _⟩;show _=Ending.returned (Value.int IntKind.i64 (z05 _ _ (ByteArray.mk #[]).size _));rw [HZ.out];rfl
    ·have u3:(k==3)=false:=by simpa using h3
     have HZ:=kf (HB.out 2 (.inr ⟨fun h=>by unfold z2x at h;omega,rfl⟩));go_enter Tryz.func84,Tryz.ntmps84;go_wp2_with fail;go_ret;refine⟨?_,(Chg.refl NoS w).alloc _⟩;show _=Ending.returned (Value.int IntKind.i64 (z05 _ _ (ByteArray.mk #[]).size _));rw [HZ.out];rfl
  ·have u1:((len:Int)==0)=false:=by simp;omega
   have u1':((len:Int) != 0)=true:=by simp;omega
   have HZ:Hid (z05 k n (ByteArray.mk #[]).size len=2):=if_neg (fun h=>hl h.2.1);go_enter Tryz.func84,Tryz.ntmps84;go_wp2_with fail;go_ret;refine⟨?_,(Chg.refl NoS w).alloc _⟩;show _=Ending.returned (Value.int IntKind.i64 (z05 _ _ (ByteArray.mk #[]).size _));rw [HZ.out];rfl
 ·have u1:=z7n hs;have HZ:Hid (z05 k n s.size len=2):=if_neg (fun h=>hs h.1);clear hs;go_enter Tryz.func84,Tryz.ntmps84;go_wp2_with fail;go_ret;rw [HZ.out];exact⟨rfl,(Chg.refl NoS w).alloc _⟩
inductive VT
 |mk (k n:Int) (s:ByteArray) (l:List VT)
structure VC where
 k:Int
 n:Int
 s:ByteArray
 A:Option Addr
 len:Nat
 cap:Nat
deriving Inhabited
def VC.cells (c:VC):List Value:=[.int .i64 c.k,.int .i64 c.n,.string c.s,.slice c.A c.len c.cap]
def VC.val (c:VC):Value:=.agg #[.int .i64 c.k,.int .i64 c.n,.string c.s,.slice c.A c.len c.cap]
structure VC.Good (c:VC):Prop where
 k:-9223372036854775808<=c.k/\c.k<=9223372036854775807
 n:-9223372036854775808<=c.n/\c.n<=9223372036854775807
 s:c.s.size<=maxLen
 nil:c.A=none->c.len=0/\c.cap=0
 cap:c.len<=c.cap
 len:c.len<=maxLen
mutual
inductive ValIs (w:World):VT->VC->Prop
 |mk (c:VC) (l:List VT) (hg:c.Good) (hl:l.length=c.len) (hr:RowIs w c.A 0 l):ValIs w (.mk c.k c.n c.s l) c
inductive RowIs (w:World):Option Addr->Nat->List VT->Prop
 |nil (A:Option Addr) (j:Nat):RowIs w A j []
 |cons (ad:Addr) (j:Nat) (t:VT) (l:List VT) (e:VC) (hcell:∀ i,i<4->w.cell? (ad.add (j*4+i))=e.cells[i]?) (h:ValIs w t e) (hr:RowIs w (some ad) (j+1) l):RowIs w (some ad) j (t::l)
end
theorem ValIs.good {w:World} {t:VT} {c:VC} (h:ValIs w t c):c.Good:=by cases h with|mk c l hg hl hr=>exact hg
theorem ValIs.inv {w:World} {k n:Int} {s:ByteArray} {l:List VT} {c:VC} (h:ValIs w (.mk k n s l) c):c.k=k/\c.n=n/\c.s=s/\c.Good/\l.length=c.len/\RowIs w c.A 0 l:=by
 cases h with|mk c l hg hl hr=>exact⟨rfl,rfl,rfl,hg,hl,hr⟩
theorem RowIs.inv {w:World} {A:Option Addr} {j:Nat} {t:VT} {l:List VT} (h:RowIs w A j (t::l)):∃ ad e,A=some ad/\(∀ i,i<4->w.cell? (ad.add (j*4+i))=e.cells[i]?)/\ValIs w t e/\RowIs w A (j+1) l:=by
 cases h with|cons ad j t l e hcell h hr=>exact⟨ad,e,rfl,hcell,h,hr⟩
mutual
theorem ValIs.chg {w w':World} (hc:Chg NoS w w'):∀ {t:VT} {c:VC},ValIs w t c->ValIs w' t c
 |_,_,.mk c l hg hl hr=>.mk c l hg hl (RowIs.chg hc hr)
theorem RowIs.chg {w w':World} (hc:Chg NoS w w'):∀ {A:Option Addr} {j:Nat} {l:List VT},RowIs w A j l->RowIs w' A j l
 |_,_,_,.nil A j=>.nil A j
 |_,_,_,.cons ad j t l e hcell h hr=>.cons ad j t l e (fun i hi=>by
   have h0:=hcell i hi;have hlt:∃ u,e.cells[i]?=some u:=⟨_,List.getElem?_eq_getElem (show i<e.cells.length from hi)⟩
   obtain⟨u,hu⟩:=hlt;rw [hu] at h0 ⊢;exact(hc.cell (by exact z04 h0) (fun e=>e)).trans h0) (ValIs.chg hc h) (RowIs.chg hc hr)
end
theorem RowIs.start {w:World} {A:Option Addr} {t:VT} {l:List VT} (h:RowIs w A 0 (t::l)):∃ b off,A=some ⟨b,off,none⟩:=by
 obtain⟨⟨b,off,sp⟩,e,rfl,hc,hv,hr⟩:=h.inv;have h0:=hc 0 (by decide);have hs:sp=none:=by simpa [Addr.add] using World.cell?_spot (h0.trans (show e.cells[0]?=some _ from rfl))
 exact⟨b,off,by rw [hs]⟩
theorem RowIs.plain {w:World} {b off j:Nat} {t:VT} {l:List VT} (h:RowIs w (some ⟨b,off,none⟩) j (t::l)):∃ e:VC,
  w.cell? ⟨b,off+j*4,none⟩=some (.int .i64 e.k)/\w.cell? ⟨b,off+j*4+1,none⟩=some (.int .i64 e.n)/\w.cell? ⟨b,off+j*4+2,none⟩=some (.string e.s)/\w.cell? ⟨b,off+j*4+3,none⟩=some (.slice e.A e.len e.cap)/\ValIs w t e/\RowIs w (some ⟨b,off,none⟩) (j+1) l:=by
 obtain⟨ad,e,hA,hc,hv,hr⟩:=h.inv;cases hA
 have hadd:∀ i,(⟨b,off,none⟩:Addr).add i=⟨b,off+i,none⟩:=fun i=>by unfold Addr.add;split<;>simp_all
 have h0:=hc 0 (by decide);have h1:=hc 1 (by decide);have h2:=hc 2 (by decide);have h3:=hc 3 (by decide);rw [hadd] at h0 h1 h2 h3;exact⟨e,h0,h1,h2,h3,hv,hr⟩
mutual
def z2n:VT->Nat
 |.mk _ _ _ l=>z7q l+1
def z7q:List VT->Nat
 |[]=>0
 |t::l=>z2n t+z7q l
end
mutual
def z0p:VT->Nat
 |.mk k _ _ l=>if k=6\/k=7 then z0w 1 l else 1
def z0w:Nat->List VT->Nat
 |a,[]=>a
 |a,t::l=>z0w (if a<z0p t+1 then z0p t+1 else a) l
end
mutual
def z83:VT->Int->Int
 |.mk _ _ _ l,left=>z7f l (left-1)
def z7f:List VT->Int->Int
 |[],left=>left
 |t::l,left=>if 0<=left then z7f l (z83 t left) else left
end
theorem z0x (k n:Int) (s:ByteArray) (l:List VT):z2n (.mk k n s l)=z7q l+1:=by rw [z2n]
theorem z4a (t:VT) (l:List VT):z7q (t::l)=z2n t+z7q l:=by rw [z7q]
theorem z1r {l:List VT} {j:Nat} {t:VT} (h:l[j]?=some t):z2n t<=z7q l:=by
 induction l generalizing j with
 |nil=>simp at h
 |cons x l ih =>
  rw [z4a];cases j with
  |zero=>simp at h;subst h;omega
  |succ j=>have:=ih (by simpa using h);omega
theorem z38 (t:VT) (l:List VT) (left:Int):z7f (t::l) left=if 0<=left then z7f l (z83 t left) else left:=by rw [z7f]
theorem z8w (l:List VT) {left:Int} (h:¬0<=left):z7f l left=left:=by
 cases l with
 |nil=>rw [z7f]
 |cons t l=>rw [z38,if_neg h]
theorem z1v (a:Nat) (t:VT) (l:List VT):z0w a (t::l)=z0w (if a<z0p t+1 then z0p t+1 else a) l:=by rw [z0w]
mutual
theorem y8o:∀ (t:VT) (left:Int),z83 t left<=left-1
 |.mk _ _ _ l,left=>by rw [z83];exact y8q l (left-1)
theorem y8q:∀ (l:List VT) (left:Int),z7f l left<=left
 |[],left=>by rw [z7f];exact Int.le_refl _
 |t::l,left=>by
  rw [z38];split
  ·have:=y8o t left;have:=y8q l (z83 t left);omega
  ·exact Int.le_refl _
end
mutual
theorem y8p:∀ (t:VT) (left:Int),-1<=left->-2<=z83 t left/\(0<=left->-1<=z83 t left)
 |.mk _ _ _ l,left=>fun h=>by
  rw [z83];by_cases h0:0<=left
  ·have:=y8r l (left-1) (by omega);omega
  ·rw [z8w l (by omega)];omega
theorem y8r:∀ (l:List VT) (left:Int),-1<=left->-1<=z7f l left
 |[],left=>fun h=>by rw [z7f];exact h
 |t::l,left=>fun h=>by
  rw [z38];split
  ·next h0=>exact y8r l (z83 t left) ((y8p t left h).2 h0)
  ·exact h
end
mutual
theorem z1n:∀ (t:VT),1<=z0p t/\z0p t<=z2n t
 |.mk k _ _ l=>by
  rw [z0p,z0x];split
  ·exact z39 l 1 (Nat.le_refl _)
  ·omega
theorem z39:∀ (l:List VT) (a:Nat),1<=a->a<=z0w a l/\z0w a l<=z7q l+a
 |[],a=>fun h=>by rw [z0w];omega
 |t::l,a=>fun h=>by
  have h1:=z1n t;rw [z1v,z4a];split
  ·have h2:=z39 l (z0p t+1) (by omega);omega
  ·have h2:=z39 l a h;omega
end
theorem z00 {a b:Int} (h:a=b):Ending.returned (.int .i64 a)=.returned (.int .i64 b):=by rw [h]
theorem z0r {l:List VT} {k:Nat} (h:k<l.length):∃ t,l[k]?=some t/\l.drop k=t::l.drop (k+1):=⟨l[k],List.getElem?_eq_getElem h,List.drop_eq_getElem_cons h⟩
theorem RowIs.at_ {w w':World} {b off j:Nat} {t:VT} {l:List VT} (h:RowIs w (some ⟨b,off,none⟩) j (t::l)) (hc:Chg NoS w w'):∃ (ek en:Int) (es:ByteArray) (eA:Option Addr) (el ec:Nat),
  w'.cell? ⟨b,off+j*4,none⟩=some (.int .i64 ek)/\w'.cell? ⟨b,off+j*4+1,none⟩=some (.int .i64 en)/\w'.cell? ⟨b,off+j*4+2,none⟩=some (.string es)/\w'.cell? ⟨b,off+j*4+3,none⟩=some (.slice eA el ec)/\ValIs w' t ⟨ek,en,es,eA,el,ec⟩/\RowIs w (some ⟨b,off,none⟩) (j+1) l:=by
 obtain⟨⟨ek,en,es,eA,el,ec⟩,h0,h1,h2,h3,hv,hr⟩:=h.plain;refine⟨ek,en,es,eA,el,ec,?_,?_,?_,?_,hv.chg hc,hr⟩
 ·exact(hc.cell (p:=⟨b,_,none⟩) (by exact z04 h0) (fun e=>e)).trans h0
 ·exact(hc.cell (p:=⟨b,_,none⟩) (by exact z04 h1) (fun e=>e)).trans h1
 ·exact(hc.cell (p:=⟨b,_,none⟩) (by exact z04 h2) (fun e=>e)).trans h2
 ·exact(hc.cell (p:=⟨b,_,none⟩) (by exact z04 h3) (fun e=>e)).trans h3
theorem v47:∀ (N:Nat) (t:VT),z2n t<=N->∀ (c:VC) (left:Int) (w:World),ValIs w t c->-1<=left->left<=1000000000 ->
  Calls Tryz.prog 23 #[c.val,.int .i64 left] w fun e w'=>e=.returned (.int .i64 (z83 t left))/\Chg NoS w w':=by
 intro N;induction N with
 |zero =>
  intro t ht;obtain⟨k,n,s,l⟩:=t;rw [z0x] at ht;omega
 |succ N ih =>
  intro t ht c left w hv hb1 hb2;obtain⟨tk,tn,ts,l⟩:=t;obtain⟨h1,h2,h3,hg,hl,hr⟩:=hv.inv;obtain⟨ck,cn,cs,A,len,cap⟩:=c;simp only [] at h1 h2 h3 hl hr;rw [z0x] at ht;have hcap:=hg.cap;have hlm:=hg.len;simp only [] at hcap hlm;unfold maxLen at hlm;have HL:=kf hl;have HR:=kf hr;have HF:=kf (show z83 (.mk tk tn ts l) left=z7f l (left-1) from by rw [z83]);have HIH:=kf (fun(t':VT) (ht':z2n t'<=z7q l)=>ih t' (by omega));unfold VC.val;have HB:=kf (Blk.new w 25 #[.int .i64 ck,.int .i64 cn,.string cs,.slice A len cap]);have HC0:=kf ((Chg.refl NoS w).alloc (.cells #[.int .i64 ck,.int .i64 cn,.string cs,.slice A len cap] 25));obtain⟨W0,hW⟩:∃ W0,W0=w.alloc (.cells #[.int .i64 ck,.int .i64 cn,.string cs,.slice A len cap] 25):=⟨_,rfl⟩
  obtain⟨g,hgg⟩:∃ g,g=w.heap.size:=⟨_,rfl⟩
  rw [<- hW] at HB HC0;rw [<- hgg] at HB;clear hv h1 h2 h3 hg hl hr ih ht;go_enter Tryz.func23,Tryz.ntmps23;go_upto_region 3 with fail;rw [<- hgg,<- hW];clear hgg hW;go_loopw [1,5] (fun vl vk wr=>∃ (k:Nat) (le:Int),k<=len/\-2<=le/\le<=1000000000/\vl=.int .i64 le/\vk=.int .i64 (k:Nat)/\Hid (Chg NoS W0 wr)/\Hid (RowIs w A k (l.drop k))/\Hid (z7f l (left-1)=z7f (l.drop k) le)) (fun _ vk _=>len-(intOf vk).toNat)
  case atStart=>exact⟨0,left-1,by omega,by omega,by omega,rfl,rfl,Chg.refl _ _,by rw [List.drop_zero];exact HR.out,kf (by rw [List.drop_zero])⟩
  case round =>
   obtain⟨k,le,hk,hle1,hle2,rfl,rfl,HCW,HRW,HFW⟩:=hrel;have HBW:=kf (HB.out.chg HCW.out (fun e=>e));have HCR:=kf (HC0.out.trans HCW.out (fun _ _ e=>e));have q3:=HBW.out.cell 3;simp at q3;by_cases h1:k<len
   ·by_cases h2:0<=le
    ·obtain⟨t',ht',hd⟩:=z0r (l:=l) (k:=k) (by rw [HL.out];exact h1)
     obtain⟨b,off,rfl⟩:∃ b off,A=some ⟨b,off,none⟩:=by
      have h:=HR.out;cases hll:l with
      |nil=>rw [hll] at ht';simp at ht'
      |cons t0 l0=>rw [hll] at h;exact h.start
     have hrw:=HRW.out;rw [hd] at hrw;obtain⟨ek,en,es,eA,el,ec,c0,c1,c2,c3,hv',hr'⟩:=hrw.at_ HCR.out;have hge:=(y8p t' le (by omega)).2 h2;have hlt:=y8o t' le;have HX:=kf (HIH.out t' (z1r ht') ⟨ek,en,es,eA,el,ec⟩ le wr hv' (by omega) hle2);unfold VC.val at HX;simp only [] at HX;have HRN:=kf hr';have HFN:=kf (show z7f l (left-1)=z7f (l.drop (k+1)) (z83 t' le) from by rw [HFW.out,hd,z38,if_pos h2]);obtain⟨r,hr9⟩:∃ r,r=z83 t' le:=⟨_,rfl⟩
     rw [<- hr9] at HX HFN hge hlt;have i1:(k:Int)<len:=by omega
     clear hrw hv' hr' hd ht' hr9;go_wp2_with (go_at_call 23;refine HX.out.mono ?_;rintro e w3 ⟨rfl,hc3⟩;have HC3:=kf (HCW.out.trans hc3 (fun _ _ e=>e));clear hc3);go_roundw
     case rel=>exact⟨k+1,r,by omega,by omega,by omega,rfl,by go_num,HC3,HRN,HFN⟩
     case measure=>simp [intOf];omega
    ·have d1:decide (0<=le)=false:=by simpa using h2
     have HE:=kf (z8w (l.drop k) h2);clear h2;go_wp2_with fail;go_ret;exact⟨z00 (by rw [HF.out,HFW.out,HE.out]),HCR.out⟩
   ·obtain rfl:k=len:=by omega
    have HE:=kf (show z7f (l.drop k) le=le from by rw [List.drop_of_length_le (by rw [HL.out];exact Nat.le_refl _),z7f]);go_wp2_with fail;go_ret;exact⟨z00 (by rw [HF.out,HFW.out,HE.out]),HCR.out⟩
theorem v0o (t:VT) (c:VC) (left:Int) (w:World) (hv:ValIs w t c) (h1:-1<=left) (h2:left<=1000000000) :
  Calls Tryz.prog 23 #[c.val,.int .i64 left] w fun e w'=>e=.returned (.int .i64 (z83 t left))/\Chg NoS w w':=v47 _ t (Nat.le_refl _) c left w hv h1 h2
theorem z7t (c:VC) (w:World):Calls Tryz.prog 106 #[c.val] w fun e w'=>e=.returned (.bool (decide (c.k=6\/c.k=7)))/\Chg NoS w w':=by
 obtain⟨ck,cn,cs,A,len,cap⟩:=c;unfold VC.val;simp only [];by_cases h6:ck=6
 ·subst h6;go_enter Tryz.func106,Tryz.ntmps106;go_wp2_with fail;go_ret;exact⟨by simp,(Chg.refl NoS w).alloc _⟩
 ·have e6:(ck==6)=false:=by simpa using h6
  by_cases h7:ck=7
  ·subst h7;go_enter Tryz.func106,Tryz.ntmps106;go_wp2_with fail;go_ret;exact⟨by simp,(Chg.refl NoS w).alloc _⟩
  ·have e7:(ck==7)=false:=by simpa using h7
   have HD:=kf (show decide (ck=6\/ck=7)=false from by simp [h6,h7]);clear h6 h7;go_enter Tryz.func106,Tryz.ntmps106;go_wp2_with fail;go_ret;exact⟨by rw [HD.out];rfl,(Chg.refl NoS w).alloc _⟩
theorem y6m:∀ (N:Nat) (t:VT),z2n t<=N->N<=1000000000->∀ (c:VC) (w:World),ValIs w t c ->
  Calls Tryz.prog 70 #[c.val] w fun e w'=>e=.returned (.int .i64 (z0p t:Nat))/\Chg NoS w w':=by
 intro N;induction N with
 |zero =>
  intro t ht;obtain⟨k,n,s,l⟩:=t;rw [z0x] at ht;omega
 |succ N ih =>
  intro t ht hN c w hv;obtain⟨tk,tn,ts,l⟩:=t;obtain⟨h1,h2,h3,hg,hl,hr⟩:=hv.inv;have HH:=kf (fun(W:World)=>z7t c W);obtain⟨ck,cn,cs,A,len,cap⟩:=c;simp only [] at h1 h2 h3 hl hr;subst h1;rw [z0x] at ht;have hcap:=hg.cap;have hlm:=hg.len;simp only [] at hcap hlm;unfold maxLen at hlm;have HL:=kf hl;have HR:=kf hr;have HIH:=kf (fun(t':VT) (ht':z2n t'<=z7q l)=>ih t' (by omega) (by omega));unfold VC.val at HH;unfold VC.val;simp only [] at HH ⊢;have HB:=kf (Blk.new w 25 #[.int .i64 ck,.int .i64 cn,.string cs,.slice A len cap]);have HC0:=kf ((Chg.refl NoS w).alloc (.cells #[.int .i64 ck,.int .i64 cn,.string cs,.slice A len cap] 25));obtain⟨W0,hW⟩:∃ W0,W0=w.alloc (.cells #[.int .i64 ck,.int .i64 cn,.string cs,.slice A len cap] 25):=⟨_,rfl⟩
  obtain⟨g,hgg⟩:∃ g,g=w.heap.size:=⟨_,rfl⟩
  rw [<- hW] at HB HC0;rw [<- hgg] at HB;have p0:=HB.out.cell 0;have p1:=HB.out.cell 1;have p2:=HB.out.cell 2;have p3:=HB.out.cell 3;simp at p0 p1 p2 p3;have hsz:z7q l<=1000000000:=by omega
  clear hv h2 h3 hg hl hr ih ht;by_cases h67:ck=6\/ck=7
  ·have HD:=kf (show z0p (.mk ck tn ts l)=z0w 1 l from by rw [z0p,if_pos h67]);have hdl:=(z39 l 1 (Nat.le_refl _)).2;rw [show decide (ck=6\/ck=7)=true from by simpa using h67] at HH;clear h67;go_enter Tryz.func70,Tryz.ntmps70;go_upto_region 1 with fail;rw [<- hgg,<- hW];clear hgg hW;go_upto_region 5 with(go_at_call 106;refine(HH.out _).mono ?_;rintro e w2 ⟨rfl,hc2⟩;have HC2:=kf hc2;clear hc2);clear p0 p1 p2 p3;go_loopw [3,4] (fun vd vk wr=>∃ (k d:Nat),k<=len/\1<=d/\d<=1000000001/\vd=.int .i64 (d:Nat)/\vk=.int .i64 (k:Nat)/\Hid (Chg NoS W0 wr)/\Hid (RowIs w A k (l.drop k))/\Hid (z0w 1 l=z0w d (l.drop k))) (fun _ vk _=>len-(intOf vk).toNat)
   case atStart=>exact⟨0,1,by omega,by omega,by omega,rfl,rfl,HC2,by rw [List.drop_zero];exact HR.out,kf (by rw [List.drop_zero])⟩
   case round =>
    obtain⟨k,d,hk,hd1,hd2,rfl,rfl,HCW,HRW,HFW⟩:=hrel;have HBW:=kf (HB.out.chg HCW.out (fun e=>e));have HCR:=kf (HC0.out.trans HCW.out (fun _ _ e=>e));have q3:=HBW.out.cell 3;simp at q3;by_cases h1:k<len
    ·obtain⟨t',ht',hd⟩:=z0r (l:=l) (k:=k) (by rw [HL.out];exact h1)
     obtain⟨b,off,rfl⟩:∃ b off,A=some ⟨b,off,none⟩:=by
      have h:=HR.out;cases hll:l with
      |nil=>rw [hll] at ht';simp at ht'
      |cons t0 l0=>rw [hll] at h;exact h.start
     have hrw:=HRW.out;rw [hd] at hrw;obtain⟨ek,en,es,eA,el,ec,c0,c1,c2,c3,hv',hr'⟩:=hrw.at_ HCR.out;have hdl2:=(z1n t').2;have hsl:=z1r ht';have HX:=kf (HIH.out t' (z1r ht') ⟨ek,en,es,eA,el,ec⟩ wr hv');unfold VC.val at HX;simp only [] at HX;have HRN:=kf hr';have HFN:=kf (show z0w 1 l=z0w (if d<z0p t'+1 then z0p t'+1 else d) (l.drop (k+1)) from by rw [HFW.out,hd,z1v]);have hr8:z0p t'<=1000000000:=by omega
     obtain⟨r,hr9⟩:∃ r,r=z0p t':=⟨_,rfl⟩
     rw [<- hr9] at HX HFN hr8;have i1:(k:Int)<len:=by omega
     clear hrw hv' hr' hd ht' hr9 hdl2 hsl hdl hsz;by_cases h5:d<r+1
     ·have HFM:=kf (show z0w 1 l=z0w (r+1) (l.drop (k+1)) from by rw [HFN.out,if_pos h5]);have d5:decide ((d:Int)<(r:Int)+1)=true:=by simp;omega
      clear h5;go_wp2_with (go_at_call 70;refine HX.out.mono ?_;rintro e w3 ⟨rfl,hc3⟩;have HC3:=kf (HCW.out.trans hc3 (fun _ _ e=>e));clear hc3);go_roundw
      case rel=>exact⟨k+1,r+1,by omega,by omega,by omega,by go_num,by go_num,HC3,HRN,HFM⟩
      case measure=>simp [intOf];omega
     ·have HFM:=kf (show z0w 1 l=z0w d (l.drop (k+1)) from by rw [HFN.out,if_neg h5]);have d5:decide ((d:Int)<(r:Int)+1)=false:=by simp;omega
      clear h5;go_wp2_with (go_at_call 70;refine HX.out.mono ?_;rintro e w3 ⟨rfl,hc3⟩;have HC3:=kf (HCW.out.trans hc3 (fun _ _ e=>e));clear hc3);go_roundw
      case rel=>exact⟨k+1,d,by omega,by omega,by omega,rfl,by go_num,HC3,HRN,HFM⟩
      case measure=>simp [intOf];omega
    ·obtain rfl:k=len:=by omega
     have HE:=kf (show z0w d (l.drop k)=d from by rw [List.drop_of_length_le (by rw [HL.out];exact Nat.le_refl _),z0w]);go_wp2_with fail;go_ret;exact⟨z00 (by rw [HD.out,HFW.out,HE.out]),HCR.out⟩
  ·have HD:=kf (show z0p (.mk ck tn ts l)=1 from by rw [z0p,if_neg h67]);rw [show decide (ck=6\/ck=7)=false from by simpa using h67] at HH;clear h67;go_enter Tryz.func70,Tryz.ntmps70;go_upto_region 1 with fail;rw [<- hgg,<- hW];clear hgg hW;go_wp2_with (go_at_call 106;refine(HH.out _).mono ?_;rintro e w2 ⟨rfl,hc2⟩;have HC2:=kf hc2;clear hc2);go_ret;exact⟨z00 (by rw [HD.out];rfl),HC0.out.trans HC2.out (fun _ _ e=>e)⟩
theorem y4j (t:VT) (c:VC) (w:World) (hv:ValIs w t c) (hs:z2n t<=1000000000) :
  Calls Tryz.prog 70 #[c.val] w fun e w'=>e=.returned (.int .i64 (z0p t:Nat))/\Chg NoS w w':=y6m _ t (Nat.le_refl _) hs c w hv
def VT.kind:VT->Int|.mk k _ _ _=>k
def VT.num:VT->Int|.mk _ n _ _=>n
def VT.str:VT->ByteArray|.mk _ _ s _=>s
theorem RowIs.drop_ {w:World} {A:Option Addr}:∀ (j:Nat) {i:Nat} {l:List VT},RowIs w A i l->j<=l.length->RowIs w A (i+j) (l.drop j):=by
 intro j;induction j with
 |zero=>intro i l h _;exact h
 |succ j ih =>
  intro i l h hj;match l,hj with
  |t::l,hj =>
   obtain⟨ad,e,_,_,_,hr⟩:=h.inv;have h2:=ih hr (by simpa using hj);rw [show i+(j+1)=i+1+j from by omega,List.drop_succ_cons];exact h2
theorem RowIs.nth {w w':World} {b off j:Nat} {l:List VT} {t:VT} (h:RowIs w (some ⟨b,off,none⟩) 0 l) (hc:Chg NoS w w') (ht:l[j]?=some t):∃ (eA:Option Addr) (el ec:Nat),
  w'.cell? ⟨b,off+j*4,none⟩=some (.int .i64 t.kind)/\w'.cell? ⟨b,off+j*4+1,none⟩=some (.int .i64 t.num)/\w'.cell? ⟨b,off+j*4+2,none⟩=some (.string t.str)/\w'.cell? ⟨b,off+j*4+3,none⟩=some (.slice eA el ec)/\ValIs w' t ⟨t.kind,t.num,t.str,eA,el,ec⟩:=by
 have hj:j<l.length:=(List.getElem?_eq_some_iff.1 ht).1;have h2:=h.drop_ j (by omega);obtain⟨t',ht',hd⟩:=z0r hj;obtain rfl:t=t':=by rw [ht] at ht';exact Option.some.inj ht'
 rw [hd,Nat.zero_add] at h2;obtain⟨ek,en,es,eA,el,ec,c0,c1,c2,c3,hv,_⟩:=h2.at_ hc;obtain⟨k,n,s,l'⟩:=t;obtain⟨e1,e2,e3,_⟩:=hv.inv;simp only [] at e1 e2 e3;subst e1 e2 e3;exact⟨eA,el,ec,c0,c1,c2,c3,hv⟩
theorem y37 (a b:List UInt8):(Op.bytesLess a b || a==b)=!(Op.bytesLess b a):=by
 rw [Go.Proofs.bytesLess_eq,Go.Proofs.bytesLess_eq];by_cases h:a<b
 ·simp [h,List.lt_asymm h]
 ·by_cases e:a=b
  ·subst e;simp [List.lt_irrefl]
  ·have h2:b<a:=by
    rcases Classical.em (b<a) with h3|h3
    ·exact h3
    ·exact absurd (List.le_antisymm (List.not_lt.1 h3) (List.not_lt.1 h)) e
   simp [h,e,h2]
def z1o (s:ByteArray):Prop:=(∀ d∈sl s,d≠0)/\s.size<=127
instance (s:ByteArray):Decidable (z1o s):=inferInstanceAs (Decidable (_/\_))
theorem z6h (s:ByteArray) (w:World) (hl:s.size<=maxLen) :
  Calls Tryz.prog 86 #[.string s] w fun e w'=>e=.returned (.bool (decide (z1o s)))/\w=w':=by
 unfold maxLen at hl;obtain⟨n,hn⟩:∃ n,s.size=n:=⟨_,rfl⟩
 have HLN:Hid ((sl s).length=n):=by show _=_;rw [z1a,hn]
 have HAT:=kf (fun k (h:k<n)=>(fun h2=>z5t s k h2:∀ h2:k<s.size,(s[k]'h2).toNat=(sl s).getD k 0));have HGT:=kf (fun k (h:k<n)=>z9s (s:=s) (k:=k) (by rw [hn];exact h));have HSZ:=kf hn;rw [hn] at hl;go_enter Tryz.func86,Tryz.ntmps86;go_wp2_with fail;go_loop [3] (fun vk=>∃ k:Nat,k<=n/\vk=.int .i64 (k:Nat)/\Hid (∀ d∈(sl s).take k,d≠0)) (fun vk=>n-(intOf vk).toNat)
 case atStart=>exact⟨0,Nat.zero_le _,by go_num,fun d hd=>by simp at hd⟩
 case round =>
  obtain⟨k,hk,rfl,HD⟩:=hrel;by_cases hlt:k<n
  ·obtain⟨x,hx⟩:∃ x,(sl s).getD k 0=x:=⟨_,rfl⟩
   have hxa:=HAT.out k hlt;have HG:=HGT.out k hlt;rw [hx] at hxa HG;have HGX:=kf HG;clear hx HG;have i0:(k:Int)<n:=by omega
   by_cases h0:x=0
   ·subst h0
    have HB:Hid (decide (z1o s)=false):=by
     show _=_;rw [decide_eq_false_iff_not];exact fun h=>h.1 0 (List.mem_of_getElem? HGX.out) rfl
    go_wp2_with fail;go_ret;rw [HB.out];exact⟨rfl,rfl⟩
   ·have d0:((x:Int)==0)=false:=by simpa using h0
    have d0':(x==0)=false:=by simpa using h0
    have HX0:=kf h0;clear h0;go_wp2_with fail;go_round
    case rel =>
     refine⟨k+1,by omega,by go_num,?_⟩;show ∀ d∈(sl s).take (k+1),d≠0;rw [z1k HGX.out];intro d hd;rcases List.mem_append.1 hd with h|h
     ·exact HD.out d h
     ·rw [List.mem_singleton] at h;subst h;exact HX0.out
    case measure=>simp [intOf];omega
  ·obtain rfl:n=k:=by omega
   have HALL:Hid (∀ d∈sl s,d≠0):=by
    have h:=HD.out;rwa [List.take_of_length_le (by rw [HLN.out];exact Nat.le_refl _)] at h
   by_cases h127:n<=127
   ·have d1:decide ((n:Int)<=127)=true:=by simp;omega
    have d1':decide (n<=127)=true:=by simp;omega
    have HB:Hid (decide (z1o s)=true):=by
     show _=_;rw [decide_eq_true_iff];exact⟨HALL.out,by rw [HSZ.out];exact h127⟩
    go_wp2_with fail;go_ret;rw [HB.out];exact⟨rfl,rfl⟩
   ·have d1:decide ((n:Int)<=127)=false:=by simp;omega
    have d1':decide (n<=127)=false:=by simp;omega
    have HB:Hid (decide (z1o s)=false):=by
     show _=_;rw [decide_eq_false_iff_not];exact fun h=>h127 (by rw [<- HSZ.out];exact h.2)
    go_wp2_with fail;go_ret;rw [HB.out];exact⟨rfl,rfl⟩
def z7y (l:List VT):Prop:=∀ j t,l[2*j]?=some t->t.kind=5
def y6f (l:List VT):Prop:=∀ j t u,l[2*j]?=some t->l[2*j+2]?=some u->Op.bytesLess t.str.toList u.str.toList=true
open Classical in
noncomputable def z42 (n:Int) (sz:Nat) (l:List VT):Int:=if n≠0\/sz≠0\/l.length%2≠0\/¬z7y l then 2 else if y6f l then 0 else 16
theorem z1p {n:Int} {sz:Nat} {l:List VT} (h:n≠0\/sz≠0\/l.length%2≠0\/¬z7y l):z42 n sz l=2:=if_pos h
theorem y3h {l:List VT} (h1:l.length%2=0) (h2:z7y l) (h3:¬y6f l):z42 0 0 l=16:=by
 unfold z42;rw [if_neg (by rintro(h|h|h|h);exact h rfl;exact h rfl;exact h h1;exact h h2),if_neg h3]
theorem y93 {l:List VT} (h1:l.length%2=0) (h2:z7y l) (h3:y6f l):z42 0 0 l=0:=by
 unfold z42;rw [if_neg (by rintro(h|h|h|h);exact h rfl;exact h rfl;exact h h1;exact h h2),if_pos h3]
theorem z1g {s:ByteArray} (h:s.size≠0):s.toList.isEmpty=false:=by
 have h:=z7n h;cases hl:s.toList with
 |nil=>exact absurd hl h
 |cons x l=>rfl
theorem y6l (c:VC) (l:List VT) (w:World) (hv:ValIs w (.mk c.k c.n c.s l) c) :
  Calls Tryz.prog 148 #[c.val] w fun e w'=>e=.returned (.int .i64 (z42 c.n c.s.size l))/\Chg NoS w w':=by
 obtain⟨_,_,_,hg,hl,hr⟩:=hv.inv;obtain⟨k,n,s,A,len,cap⟩:=c;simp only [] at hl hr;have hcap:=hg.cap;have hlm:=hg.len;simp only [] at hcap hlm;unfold maxLen at hlm;unfold VC.val;simp only [];have HB:=kf (Blk.new w 25 #[.int .i64 k,.int .i64 n,.string s,.slice A len cap]);have HC0:=kf ((Chg.refl NoS w).alloc (.cells #[.int .i64 k,.int .i64 n,.string s,.slice A len cap] 25));obtain⟨W0,hW⟩:∃ W0,W0=w.alloc (.cells #[.int .i64 k,.int .i64 n,.string s,.slice A len cap] 25):=⟨_,rfl⟩
 obtain⟨g,hgg⟩:∃ g,g=w.heap.size:=⟨_,rfl⟩
 rw [<- hW] at HB HC0;rw [<- hgg] at HB;have p1:=HB.out.cell 1;have p2:=HB.out.cell 2;have p3:=HB.out.cell 3;simp at p1 p2 p3;clear hv hg;by_cases hn:n=0
 ·subst hn;by_cases hs:s.size=0
  ·obtain rfl:=z0t hs;obtain⟨r,hr2⟩:∃ r:Nat,len%2=r:=⟨_,rfl⟩
   have t1:(len:Int).tmod 2=(r:Int):=by rw [Int.tmod_eq_emod_of_nonneg (by omega)];omega
   have t2:(len:Int)%2=(r:Int):=by omega
   by_cases h2:r=0
   ·subst h2;have HEV:=kf (show l.length%2=0 from by rw [hl];exact hr2);have HL:=kf hl;have HR:=kf hr;have HLE:=kf hr2;clear hr2 hl hr hs;go_enter Tryz.func148,Tryz.ntmps148;go_upto_region 1 with fail;rw [<- hgg,<- hW];clear hgg hW;go_upto_region 4 with fail;go_loop [3] (fun vk=>∃ j:Nat,2*j<=len/\vk=.int .i64 ((2*j:Nat):Int)/\Hid (∀ i t,i<j->l[2*i]?=some t->t.kind=5)) (fun vk=>len-(intOf vk).toNat)
    case atStart=>exact⟨0,by omega,by go_num,fun i t hi=>absurd hi (Nat.not_lt_zero i)⟩
    case round =>
     obtain⟨j,hj,rfl,HN⟩:=hrel;obtain⟨q,hq⟩:∃ q,q=2*j:=⟨_,rfl⟩
     rw [<- hq] at hj ⊢;have HQ:=kf hq;clear hq;by_cases h1:q<len
     ·obtain⟨t,ht,_⟩:=z0r (l:=l) (k:=q) (by rw [HL.out];exact h1)
      obtain⟨b,off,rfl⟩:∃ b off,A=some ⟨b,off,none⟩:=by
       have h:=HR.out;cases hll:l with
       |nil=>rw [hll] at ht;simp at ht
       |cons t0 l0=>rw [hll] at h;exact h.start
      obtain⟨eA,el,ec,c0,_,_,_,_⟩:=HR.out.nth HC0.out ht;have i1:(q:Int)<len:=by omega
      obtain⟨tk,htk⟩:∃ tk,t.kind=tk:=⟨_,rfl⟩
      rw [htk] at c0;have HT:=kf ht;have HTK:=kf htk;clear ht htk;by_cases h5:tk=5
      ·subst h5;go_wp2_with fail;go_round
       case rel =>
        refine⟨j+1,by have:=HQ.out;have:=HLE.out;omega,by have:=HQ.out;first|(go_num;done)|(go_num;omega),fun i t' hi hit=>?_⟩;rcases Nat.lt_or_ge i j with h|h
        ·exact HN.out i t' h hit
        ·obtain rfl:i=j:=by omega
         rw [<- HQ.out,HT.out] at hit;cases hit
         exact HTK.out
       case measure=>simp [intOf];omega
      ·have e5:(tk==5)=false:=by simpa using h5
       have e5':(tk != 5)=true:=by simpa using h5
       have HE:=kf (z1p (n:=0) (sz:=0) (l:=l) (.inr (.inr (.inr (fun h=>h5 (by rw [<- HTK.out];exact h j t (by rw [<- HQ.out];exact HT.out)))))));clear h5;go_wp2_with fail;go_ret;exact⟨z00 HE.out.symm,HC0.out⟩
     ·have HNM:Hid (z7y l):=fun i t hit=>HN.out i t (by
       have h:=(List.getElem?_eq_some_iff.1 hit).1;rw [HL.out] at h;have:=HQ.out;omega) hit
      go_upto_region 9 with fail;go_loopw [4] (fun vk wr=>∃ j:Nat,2*j<=len/\vk=.int .i64 ((2*j+2:Nat):Int)/\Hid (Chg NoS W0 wr)/\Hid (∀ i t u,i<j->l[2*i]?=some t->l[2*i+2]?=some u->Op.bytesLess t.str.toList u.str.toList=true)) (fun vk _=>len+2-(intOf vk).toNat)
      case atStart=>exact⟨0,by omega,by go_num,Chg.refl _ _,fun i t u hi=>absurd hi (Nat.not_lt_zero i)⟩
      case round =>
       obtain⟨m,hm,rfl,HCW,HM⟩:=hrel;have HBW:=kf (HB.out.chg HCW.out (fun e=>e));have HCR:=kf (HC0.out.trans HCW.out (fun _ _ e=>e));clear p1 p2 p3;have q3:=HBW.out.cell 3;simp at q3;obtain⟨p,hp⟩:∃ p,p=2*m:=⟨_,rfl⟩
       obtain⟨z,hz⟩:∃ z,z=2*m+2:=⟨_,rfl⟩
       rw [<- hz];rw [<- hp] at hm;have ez:(z:Int)-2=(p:Int):=by omega
       have hzp:z<=len+2:=by omega
       have HPP:=kf hp;have HZZ:=kf hz;clear hp hz;by_cases h3:z<len
       ·have hp3:p<len:=by omega
        obtain⟨t,ht,_⟩:=z0r (l:=l) (k:=p) (by rw [HL.out];exact hp3);obtain⟨u,hu,_⟩:=z0r (l:=l) (k:=z) (by rw [HL.out];exact h3)
        obtain⟨b,off,rfl⟩:∃ b off,A=some ⟨b,off,none⟩:=by
         have h:=HR.out;cases hll:l with
         |nil=>rw [hll] at ht;simp at ht
         |cons t0 l0=>rw [hll] at h;exact h.start
        obtain⟨eA,el,ec,_,_,c2,_,_⟩:=HR.out.nth HCR.out ht;obtain⟨eA',el',ec',_,_,c2',_,_⟩:=HR.out.nth HCR.out hu;have k1:IntKind.i64.wrap (p:Int)=(p:Int):=by rw [IntKind.wrap_i64];omega
        have k2:IntKind.i64.wrap ((z:Int)-2)=(p:Int):=by rw [ez,k1]
        have i1:(z:Int)<len:=by omega
        have i2:(p:Int)<len:=by omega
        have i3:(0:Int)<=(z:Int)-2:=by omega
        have i4:(z:Int)-2<len:=by omega
        obtain⟨ts,hts⟩:∃ ts,t.str=ts:=⟨_,rfl⟩
        obtain⟨us,hus⟩:∃ us,u.str=us:=⟨_,rfl⟩
        rw [hts] at c2;rw [hus] at c2';have HT:=kf ht;have HU:=kf hu;have HTS:=kf hts;have HUS:=kf hus;clear ht hu hts hus;go_upto_region 11 with fail;by_cases hb:Op.bytesLess ts.toList us.toList=true
        ·have HBL:=kf hb;have f1:(Op.bytesLess us.toList ts.toList || us.toList==ts.toList)=false:=by rw [y37,hb];rfl
         clear hb;go_quiet (fail);go_wp2_with fail;go_roundw
         case rel =>
          refine⟨m+1,by have:=HPP.out;have:=HZZ.out;have:=HLE.out;omega,by have:=HZZ.out;first|(go_num;done)|(go_num;omega),HCW.out.drewN nq,fun i t' u' hi hit hiu=>?_⟩;rcases Nat.lt_or_ge i m with h|h
          ·exact HM.out i t' u' h hit hiu
          ·obtain rfl:i=m:=by omega
           rw [<- HPP.out,HT.out] at hit;rw [<- HZZ.out,HU.out] at hiu;cases hit
           cases hiu
           rw [HTS.out,HUS.out];exact HBL.out
         case measure=>simp [intOf];omega
        ·have hb2:Op.bytesLess ts.toList us.toList=false:=by simpa using hb
         have HE:=kf (y3h HEV.out HNM.out (fun h=>hb (by rw [<- HTS.out,<- HUS.out];exact h m t u (by rw [<- HPP.out];exact HT.out) (by rw [<- HZZ.out];exact HU.out))));have f1:(Op.bytesLess us.toList ts.toList || us.toList==ts.toList)=true:=by rw [y37,hb2];rfl
         clear hb hb2;go_quiet (fail);go_wp2_with fail;go_ret;exact⟨z00 HE.out.symm,HCR.out.drewN nq⟩
       ·have HRI:Hid (y6f l):=fun i t u hit hiu=>HM.out i t u (by
         have h:=(List.getElem?_eq_some_iff.1 hiu).1;rw [HL.out] at h;have:=HZZ.out;omega) hit hiu
        have HE:=kf (y93 HEV.out HNM.out HRI.out);go_wp2_with fail;go_ret;exact⟨z00 HE.out.symm,HCR.out⟩
   ·have e2:((r:Int)==0)=false:=by simpa using h2
    have e2':((r:Int) != 0)=true:=by simpa using h2
    have HE:=kf (z1p (n:=0) (sz:=(ByteArray.mk #[]).size) (l:=l) (.inr (.inr (.inl (by rw [hl,hr2];exact h2)))));clear h2 hr2 hl hr hs;go_enter Tryz.func148,Tryz.ntmps148;go_upto_region 1 with fail;rw [<- hgg,<- hW];clear hgg hW;go_wp2_with fail;go_ret;exact⟨z00 HE.out.symm,HC0.out⟩
  ·have u1:=z7n hs;have HE:=kf (z1p (n:=0) (sz:=s.size) (l:=l) (.inr (.inl hs)));clear hs hl hr;go_enter Tryz.func148,Tryz.ntmps148;go_upto_region 1 with fail;rw [<- hgg,<- hW];clear hgg hW;go_wp2_with fail;go_ret;exact⟨z00 HE.out.symm,HC0.out⟩
 ·have e1:(n==0)=false:=by simpa using hn
  have e1':(n != 0)=true:=by simpa using hn
  have HE:=kf (z1p (n:=n) (sz:=s.size) (l:=l) (.inl hn));clear hn hl hr;go_enter Tryz.func148,Tryz.ntmps148;go_upto_region 1 with fail;rw [<- hgg,<- hW];clear hgg hW;go_wp2_with fail;go_ret;exact⟨z00 HE.out.symm,HC0.out⟩
def z5r (k n:Int) (s:ByteArray) (k' n':Int) (s':ByteArray):Int :=
 if k<k' then -1 else if k≠k' then 1 else if n<n' then -1 else if n≠n' then 1 else if Op.bytesLess s.toList s'.toList then -1 else if s≠s' then 1 else 0
mutual
def z3o:VT->VT->Int
 |.mk k n s l,.mk k' n' s' l'=>if z5r k n s k' n' s'≠0 then z5r k n s k' n' s' else z2d l l'
def z2d:List VT->List VT->Int
 |[],[]=>0
 |[],_::_=>-1
 |_::_,[]=>1
 |t::l,t'::l'=>if z3o t t'≠0 then z3o t t' else z2d l l'
end
theorem z5l (k n:Int) (s:ByteArray) (l:List VT) (k' n':Int) (s':ByteArray) (l':List VT):z3o (.mk k n s l) (.mk k' n' s' l')=if z5r k n s k' n' s'≠0 then z5r k n s k' n' s' else z2d l l':=by rw [z3o]
theorem z4t (t t':VT) (l l':List VT):z2d (t::l) (t'::l')=if z3o t t'≠0 then z3o t t' else z2d l l':=by rw [z2d]
theorem z7i:∀ l:List UInt8,Op.bytesLess l l=false:=by
 intro l;induction l with
 |nil=>rfl
 |cons a l ih=>simp [Op.bytesLess,ih]
theorem z1f {s s':ByteArray} (h:s≠s'):¬s.toList=s'.toList:=by
 rw [ByteArray.toList_eq,ByteArray.toList_eq];intro e;obtain⟨d⟩:=s;obtain⟨d'⟩:=s';exact h (congrArg ByteArray.mk (Array.ext' e))
theorem z2l {k n k' n':Int} {s s':ByteArray} {l l':List VT} {x:Int} (h:z5r k n s k' n' s'=x) (hx:x≠0):z3o (.mk k n s l) (.mk k' n' s' l')=x:=by rw [z5l,h,if_pos hx]
theorem v4b:∀ (N:Nat) (t:VT),z2n t<=N->∀ (t':VT) (c c':VC) (w:World),ValIs w t c->ValIs w t' c' ->
  Calls Tryz.prog 73 #[c.val,c'.val] w fun e w'=>e=.returned (.int .i64 (z3o t t'))/\Chg NoS w w':=by
 intro N;induction N with
 |zero =>
  intro t ht;obtain⟨k,n,s,l⟩:=t;rw [z0x] at ht;omega
 |succ N ih =>
  intro t ht t' c c' w hv hv';obtain⟨tk,tn,ts,l⟩:=t;obtain⟨tk',tn',ts',l'⟩:=t';obtain⟨h1,h2,h3,hg,hl,hr⟩:=hv.inv;obtain⟨h1',h2',h3',hg',hl',hr'⟩:=hv'.inv;obtain⟨k,n,s,A,len,cap⟩:=c;obtain⟨k',n',s',A',len',cap'⟩:=c';simp only [] at h1 h2 h3 hl hr h1' h2' h3' hl' hr';subst h1 h2 h3 h1' h2' h3';rw [z0x] at ht;have hcap:=hg.cap;have hlm:=hg.len;have hcap':=hg'.cap;have hlm':=hg'.len;simp only [] at hcap hlm hcap' hlm';unfold maxLen at hlm hlm';unfold VC.val;simp only [];by_cases hk:k<k'
  ·have HD:=kf (z2l (l:=l) (l':=l') (show z5r k n s k' n' s'=-1 from by unfold z5r;rw [if_pos hk]) (by decide));have d1:decide (k<k')=true:=by simpa using hk
   clear hv hv' hg hg' hl hl' hr hr' ih ht hk;go_enter Tryz.func73,Tryz.ntmps73;go_wp2_with fail;go_ret;exact⟨z00 (by rw [HD.out]),((Chg.refl NoS w).alloc _).alloc _⟩
  have d1:decide (k<k')=false:=by simpa using hk
  by_cases hk2:k=k'
  ·subst hk2;by_cases hn:n<n'
   ·have HD:=kf (z2l (l:=l) (l':=l') (show z5r k n s k n' s'=-1 from by unfold z5r;rw [if_neg hk,if_neg (by simp),if_pos hn]) (by decide));have d2:decide (n<n')=true:=by simpa using hn
    clear hv hv' hg hg' hl hl' hr hr' ih ht hk hn;go_enter Tryz.func73,Tryz.ntmps73;go_wp2_with fail;go_ret;exact⟨z00 (by rw [HD.out]),((Chg.refl NoS w).alloc _).alloc _⟩
   have d2:decide (n<n')=false:=by simpa using hn
   by_cases hn2:n=n'
   ·subst hn2;cases hs:Op.bytesLess s.toList s'.toList with
    |true =>
     have HD:=kf (z2l (l:=l) (l':=l') (show z5r k n s k n s'=-1 from by unfold z5r;rw [if_neg hk,if_neg (by simp),if_neg hn,if_neg (by simp),if_pos hs]) (by decide));clear hv hv' hg hg' hl hl' hr hr' ih ht hk hn;go_enter Tryz.func73,Tryz.ntmps73;go_wp2_with fail;go_ret;exact⟨z00 (by rw [HD.out]),((Chg.refl NoS w).alloc _).alloc _⟩
    |false =>
     by_cases hs2:s=s'
     ·subst hs2;have HH:=kf (show z5r k n s k n s=0 from by unfold z5r;rw [if_neg hk,if_neg (by simp),if_neg hn,if_neg (by simp),if_neg (by rw [hs];decide),if_neg (by simp)]);have HD:=kf (show z3o (.mk k n s l) (.mk k n s l')=z2d l l' from by rw [z5l,HH.out,if_neg (by simp)]);have HL:=kf hl;have HL':=kf hl';have HR:=kf hr;have HR':=kf hr';have HIH:=kf (fun(t:VT) (ht':z2n t<=z7q l)=>ih t (by omega));have HB:=kf ((Blk.new w 25 #[.int .i64 k,.int .i64 n,.string s,.slice A len cap]).alloc (.cells #[.int .i64 k,.int .i64 n,.string s,.slice A' len' cap'] 25));have hb2:=Blk.new (w.alloc (.cells #[.int .i64 k,.int .i64 n,.string s,.slice A len cap] 25)) 25 #[.int .i64 k,.int .i64 n,.string s,.slice A' len' cap'];rw [World.size_alloc] at hb2;have HB':=kf hb2;have HC0:=kf (((Chg.refl NoS w).alloc (.cells #[.int .i64 k,.int .i64 n,.string s,.slice A len cap] 25)).alloc (.cells #[.int .i64 k,.int .i64 n,.string s,.slice A' len' cap'] 25));obtain⟨W0,hW⟩:∃ W0,W0=(w.alloc (.cells #[.int .i64 k,.int .i64 n,.string s,.slice A len cap] 25)).alloc (.cells #[.int .i64 k,.int .i64 n,.string s,.slice A' len' cap'] 25):=⟨_,rfl⟩
      obtain⟨g,hgg⟩:∃ g,g=w.heap.size:=⟨_,rfl⟩
      rw [<- hW] at HB HB' HC0;rw [<- hgg] at HB HB';clear hv hv' hg hg' hl hl' hr hr' ih ht hk hn hb2;go_enter Tryz.func73,Tryz.ntmps73;go_upto_region 6 with fail;rw [<- hgg,<- hW];clear hgg hW;go_loopw [5] (fun vj wr=>∃ j:Nat,j<=len/\j<=len'/\vj=.int .i64 (j:Nat)/\Hid (Chg NoS W0 wr)/\Hid (RowIs w A j (l.drop j))/\Hid (RowIs w A' j (l'.drop j))/\Hid (z2d l l'=z2d (l.drop j) (l'.drop j))) (fun vj _=>len-(intOf vj).toNat)
      case atStart=>exact⟨0,by omega,by omega,rfl,Chg.refl _ _,by rw [List.drop_zero];exact HR.out,by rw [List.drop_zero];exact HR'.out,kf (by rw [List.drop_zero,List.drop_zero])⟩
      case round =>
       obtain⟨j,hj,hj',rfl,HCW,HRW,HRW',HFW⟩:=hrel;have HBW:=kf (HB.out.chg HCW.out (fun e=>e));have HBW':=kf (HB'.out.chg HCW.out (fun e=>e));have HCR:=kf (HC0.out.trans HCW.out (fun _ _ e=>e));have q3:=HBW.out.cell 3;have p3:=HBW'.out.cell 3;simp at q3 p3;by_cases h1:j<len
       ·by_cases h2:j<len'
        ·obtain⟨u,hu,hd⟩:=z0r (l:=l) (k:=j) (by rw [HL.out];exact h1);obtain⟨u',hu',hd'⟩:=z0r (l:=l') (k:=j) (by rw [HL'.out];exact h2)
         obtain⟨b,off,rfl⟩:∃ b off,A=some ⟨b,off,none⟩:=by
          have h:=HR.out;cases hll:l with
          |nil=>rw [hll] at hu;simp at hu
          |cons t0 l0=>rw [hll] at h;exact h.start
         obtain⟨b',off',rfl⟩:∃ b off,A'=some ⟨b,off,none⟩:=by
          have h:=HR'.out;cases hll:l' with
          |nil=>rw [hll] at hu';simp at hu'
          |cons t0 l0=>rw [hll] at h;exact h.start
         have hrw:=HRW.out;have hrw':=HRW'.out;rw [hd] at hrw;rw [hd'] at hrw';obtain⟨ek,en,es,eA,el,ec,c0,c1,c2,c3,hve,hre⟩:=hrw.at_ HCR.out;obtain⟨fk,fn,fs,fA,fl,fc,x0,x1,x2,x3,hvf,hrf⟩:=hrw'.at_ HCR.out;have HX:=kf (fun(W:World) (h:Chg NoS wr W)=>HIH.out u (z1r hu) u' ⟨ek,en,es,eA,el,ec⟩ ⟨fk,fn,fs,fA,fl,fc⟩ W (hve.chg h) (hvf.chg h));unfold VC.val at HX;simp only [] at HX;have HRN:=kf hre;have HRN':=kf hrf;have HFN:=kf (show z2d l l'=if z3o u u'≠0 then z3o u u' else z2d (l.drop (j+1)) (l'.drop (j+1)) from by rw [HFW.out,hd,hd',z4t]);obtain⟨r,hr9⟩:∃ r,r=z3o u u':=⟨_,rfl⟩
         rw [<- hr9] at HX HFN;have i1:(j:Int)<len:=by omega
         have i2:(j:Int)<len':=by omega
         clear hrw hrw' hve hvf hre hrf hd hd' hu hu' hr9;go_upto_region 8 with fail;refine wp_region_still_tail 10 (by kernel_rfl) (by kernel_rfl) ?_;simp only [List.take_succ_cons,List.take_zero,List.drop_succ_cons,List.drop_zero];change wpStill _ _ wr.drew _ _ _;repeat still_step
         refine wpStill_nil ?_;change wpList _ _ _ _ _ wr.drew;by_cases hr0:r=0
         ·subst hr0;have HFM:=kf (show z2d l l'=z2d (l.drop (j+1)) (l'.drop (j+1)) from by rw [HFN.out,if_neg (by simp)]);go_wp2_with (go_at_call 73;refine(HX.out _ (Chg.refl NoS wr).drew).mono ?_;rintro e w3 ⟨rfl,hc3⟩;have HC3:=kf ((HCW.out.drew).trans hc3 (fun _ _ e=>e));clear hc3);go_roundw
          case rel=>exact⟨j+1,by omega,by omega,by go_num,HC3,HRN,HRN',HFM⟩
          case measure=>simp [intOf];omega
         ·have HFM:=kf (show z2d l l'=r from by rw [HFN.out,if_pos hr0]);have v2:(r != 0)=true:=by simpa using hr0
          have v3:(r==0)=false:=by simpa using hr0
          clear hr0;go_wp2_with (go_at_call 73;refine(HX.out _ (Chg.refl NoS wr).drew).mono ?_;rintro e w3 ⟨rfl,hc3⟩;have HC3:=kf (((HCR.out).drew).trans hc3 (fun _ _ e=>e));clear hc3);go_ret;exact⟨z00 (by rw [HD.out,HFM.out]),HC3.out⟩
        ·obtain⟨u,hu,hd⟩:=z0r (l:=l) (k:=j) (by rw [HL.out];exact h1);have hz1:l'.drop j=[]:=List.drop_of_length_le (by rw [HL'.out];omega);have HE:=kf (show z2d l l'=1 from by rw [HFW.out,hd,hz1,z2d]);clear hz1;obtain rfl:j=len':=by omega
         have d5:decide ((len:Int)<(j:Int))=false:=by simp;omega
         have d6:decide ((j:Int)<(len:Int))=true:=by simp;omega
         have d7:decide (len<j)=false:=by simp;omega
         have d8:decide (j<len)=true:=by simp;omega
         clear hd hu h2;go_wp2_with fail;go_ret;exact⟨z00 (by rw [HD.out,HE.out]),HCR.out⟩
       ·obtain rfl:j=len:=by omega
        by_cases h2:j<len'
        ·obtain⟨u',hu',hd'⟩:=z0r (l:=l') (k:=j) (by rw [HL'.out];exact h2);have hz1:l.drop j=[]:=List.drop_of_length_le (Nat.le_of_eq HL.out);have HE:=kf (show z2d l l'=-1 from by rw [HFW.out,hd',hz1,z2d]);clear hz1;have d5:decide ((j:Int)<(len':Int))=true:=by simp;omega
         have d6:decide (j<len')=true:=by simp;omega
         clear hd' hu';go_wp2_with fail;go_ret;exact⟨z00 (by rw [HD.out,HE.out]),HCR.out⟩
        ·obtain rfl:j=len':=by omega
         have hz1:l.drop j=[]:=List.drop_of_length_le (Nat.le_of_eq HL.out);have hz2:l'.drop j=[]:=List.drop_of_length_le (Nat.le_of_eq HL'.out);have HE:=kf (show z2d l l'=0 from by rw [HFW.out,hz1,hz2,z2d]);clear hz1 hz2;go_wp2_with fail;go_ret;exact⟨z00 (by rw [HD.out,HE.out]),HCR.out⟩
     ·have HD:=kf (z2l (l:=l) (l':=l') (show z5r k n s k n s'=1 from by unfold z5r;rw [if_neg hk,if_neg (by simp),if_neg hn,if_neg (by simp),if_neg (by rw [hs];decide),if_pos hs2]) (by decide));have hs3:¬s.toList=s'.toList:=z1f hs2;have hs4:(s.toList==s'.toList)=false:=by simpa using hs3
      clear hv hv' hg hg' hl hl' hr hr' ih ht hk hn hs2;go_enter Tryz.func73,Tryz.ntmps73;go_wp2_with fail;go_ret;exact⟨z00 (by rw [HD.out]),((Chg.refl NoS w).alloc _).alloc _⟩
   ·have HD:=kf (z2l (l:=l) (l':=l') (show z5r k n s k n' s'=1 from by unfold z5r;rw [if_neg hk,if_neg (by simp),if_neg hn,if_pos hn2]) (by decide));have e2:(n==n')=false:=by simpa using hn2
    have e3:(n != n')=true:=by simpa using hn2
    clear hv hv' hg hg' hl hl' hr hr' ih ht hk hn hn2;go_enter Tryz.func73,Tryz.ntmps73;go_wp2_with fail;go_ret;exact⟨z00 (by rw [HD.out]),((Chg.refl NoS w).alloc _).alloc _⟩
  ·have HD:=kf (z2l (l:=l) (l':=l') (show z5r k n s k' n' s'=1 from by unfold z5r;rw [if_neg hk,if_pos hk2]) (by decide));have e2:(k==k')=false:=by simpa using hk2
   have e3:(k != k')=true:=by simpa using hk2
   clear hv hv' hg hg' hl hl' hr hr' ih ht hk hk2;go_enter Tryz.func73,Tryz.ntmps73;go_wp2_with fail;go_ret;exact⟨z00 (by rw [HD.out]),((Chg.refl NoS w).alloc _).alloc _⟩
theorem v0q (t t':VT) (c c':VC) (w:World) (hv:ValIs w t c) (hv':ValIs w t' c') :
  Calls Tryz.prog 73 #[c.val,c'.val] w fun e w'=>e=.returned (.int .i64 (z3o t t'))/\Chg NoS w w':=v4b _ t (Nat.le_refl _) t' c c' w hv hv'
def z95 (a b:Int):Int:=if a<b then -1 else if a≠b then 1 else 0
def z5q (a b:ByteArray):Int:=if Op.bytesLess a.toList b.toList then -1 else if a≠b then 1 else 0
theorem y0t (a b:Int):z95 b a=0-z95 a b:=by unfold z95;split<;>split<;>(try split)<;>omega
theorem z54 {a b:ByteArray} (h:a.toList=b.toList):a=b:=by
 by_cases e:a=b
 ·exact e
 ·exact absurd h (z1f e)
theorem z92 (a b:ByteArray):z5q a b=-1↔a.toList<b.toList:=by
 unfold z5q;rw [Go.Proofs.bytesLess_eq];by_cases h:a.toList<b.toList
 ·simp [h]
 ·simp only [h,decide_false,Bool.false_eq_true,if_false,iff_false];split<;>simp
theorem z94 (a b:ByteArray):z5q a b=0↔a=b:=by
 unfold z5q;rw [Go.Proofs.bytesLess_eq];by_cases e:a=b
 ·subst e;simp [List.lt_irrefl]
 ·simp only [e,ne_eq,not_false_eq_true,if_true,iff_false];split<;>simp
theorem y3l (a b:ByteArray):z5q a b=-1\/z5q a b=0\/z5q a b=1:=by unfold z5q;split<;>(try split)<;>simp
theorem y9c (a b:ByteArray):z5q a b=1↔b.toList<a.toList:=by
 constructor
 ·intro h;have h1:¬a.toList<b.toList:=fun e=>by rw [(z92 a b).2 e] at h;cases h
  have h2:a≠b:=fun e=>by rw [(z94 a b).2 e] at h;cases h
  rcases Classical.em (b.toList<a.toList) with h3|h3
  ·exact h3
  ·exact absurd (z54 (List.le_antisymm (List.not_lt.1 h3) (List.not_lt.1 h1))) h2
 ·intro h;rcases y3l a b with e|e|e
  ·exact absurd ((z92 a b).1 e) (List.lt_asymm h)
  ·rw [(z94 a b).1 e] at h;exact absurd h (List.lt_irrefl _)
  ·exact e
theorem y9b (a b:ByteArray):z5q b a=0-z5q a b:=by
 rcases y3l a b with e|e|e
 ·rw [e,(y9c b a).2 ((z92 a b).1 e)];rfl
 ·rw [e,(z94 b a).2 ((z94 a b).1 e).symm];rfl
 ·rw [e,(z92 b a).2 ((y9c a b).1 e)];rfl
theorem y9f (k n:Int) (s:ByteArray) (k' n':Int) (s':ByteArray):z5r k n s k' n' s'=if z95 k k'≠0 then z95 k k' else if z95 n n'≠0 then z95 n n' else z5q s s':=by
 unfold z5r z95 z5q;by_cases h1:k<k'
 ·simp [h1]
 ·by_cases h2:k=k'
  ·by_cases h3:n<n'
   ·simp [h1,h2,h3]
   ·by_cases h4:n=n'
    ·simp [h2,h4]
    ·simp [h2,h3,h4]
  ·simp [h1,h2]
def v98 (n:Int) (s:ByteArray) (n':Int) (s':ByteArray):Int:=if z95 n n'≠0 then z95 n n' else z5q s s'
theorem z64 {f g f' g':Int} (hf:f'=0-f) (hg:g'=0-g):(if f'≠0 then f' else g')=0-(if f≠0 then f else g):=by
 by_cases h:f=0
 ·have n1:¬f≠0:=fun e=>e h;have n2:¬f'≠0:=fun e=>e (by omega);rw [if_neg n1,if_neg n2,hg]
 ·have p2:f'≠0:=by omega
  rw [if_pos h,if_pos p2,hf]
theorem y3m (k n:Int) (s:ByteArray) (k' n':Int) (s':ByteArray):z5r k n s k' n' s'=if z95 k k'≠0 then z95 k k' else v98 n s n' s':=y9f k n s k' n' s'
theorem y9e (k n:Int) (s:ByteArray) (k' n':Int) (s':ByteArray):z5r k' n' s' k n s=0-z5r k n s k' n' s':=by
 rw [y3m,y3m];exact z64 (y0t k k') (z64 (y0t n n') (y9b s s'))
mutual
theorem y0r:∀ (a b:VT),z3o b a=0-z3o a b
 |.mk k n s l,.mk k' n' s' l'=>by
  rw [z5l,z5l];exact z64 (y9e _ _ _ _ _ _) (y0s l l')
theorem y0s:∀ (l l':List VT),z2d l' l=0-z2d l l'
 |[],[]=>by rw [z2d];rfl
 |[],_::_=>by rw [z2d,z2d];rfl
 |_::_,[]=>by rw [z2d,z2d];rfl
 |t::l,t'::l'=>by
  rw [z4t,z4t];exact z64 (y0r t t') (y0s l l')
end
theorem y9a (a:VT):z3o a a=0:=by have:=y0r a a;omega
end Go.Proofs.YtnhlalkeaaiefaaGreatDoor
