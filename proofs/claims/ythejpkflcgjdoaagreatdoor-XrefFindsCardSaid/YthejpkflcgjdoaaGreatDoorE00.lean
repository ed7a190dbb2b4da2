/- Merged by program. -/
import Derived.WalkKit
import Derived.Deep.Draws
import Derived.Deep.QuietTactic
import Derived.Maps.AppendAt
import Derived.Laws.AppendOwnNone
import Derived.ProofKit
import Derived.Deep.Slices
import Derived.Deep.Fields
import Derived.Test.YthejpkflcgjdoaaGreatDoorProg
import Derived.WalkMore
import Derived.Laws.DeepStrings4
import Derived.OpenShut
import Derived.Lib.SmallJoins
import Derived.BigQuiet
import Derived.Deep.Cut
import Derived.Sort.Walk0
import Derived.Laws.Cover1
set_option linter.unusedVariables false
set_option linter.unusedSimpArgs false
namespace Go.Proofs.YthejpkflcgjdoaaGreatDoor
open Go.RowKit
theorem kf {p:Prop} (h:p):Hid p:=h
structure Chg (S:Nat->Prop) (w w':World):Prop where
 os:w'.os=w.os
 tape:w'.tape=w.tape
 output:w'.output=w.output
 size:w.heap.size<=w'.heap.size
 block:∀ k,k<w.heap.size->¬S k->w'.heap[k]?=w.heap[k]?
def NoS:Nat->Prop:=fun _=>False
theorem Chg.refl (S:Nat->Prop) (w:World):Chg S w w:=⟨rfl,rfl,rfl,Nat.le_refl _,fun _ _ _=>rfl⟩
theorem Chg.trans {S T:Nat->Prop} {a b c:World} (h:Chg S a b) (k:Chg T b c) (hT:∀ i,i<a.heap.size->T i->S i):Chg S a c :=
 ⟨k.os.trans h.os,k.tape.trans h.tape,k.output.trans h.output,Nat.le_trans h.size k.size,fun i hi hs=>(k.block i (Nat.lt_of_lt_of_le hi h.size) (fun ht=>hs (hT i hi ht))).trans (h.block i hi hs)⟩
theorem Chg.mono {S T:Nat->Prop} {a b:World} (h:Chg S a b) (hT:∀ i,i<a.heap.size->S i->T i):Chg T a b :=
 ⟨h.os,h.tape,h.output,h.size,fun i hi ht=>h.block i hi (fun hs=>ht (hT i hi hs))⟩
theorem Chg.drew {S:Nat->Prop} {a b:World} (h:Chg S a b):Chg S a b.drew:=⟨h.os,h.tape,h.output,h.size,h.block⟩
theorem Chg.drewN {S:Nat->Prop} {a b:World} (h:Chg S a b) (n:Nat):Chg S a (b.drewN n):=⟨h.os,h.tape,h.output,h.size,h.block⟩
theorem Chg.alloc {S:Nat->Prop} {a b:World} (h:Chg S a b) (o:Obj):Chg S a (b.alloc o) :=
 ⟨h.os,h.tape,h.output,Nat.le_trans h.size (by simp),fun i hi hs=>(Below.heap_alloc b o i (Nat.lt_of_lt_of_le hi h.size)).trans (h.block i hi hs)⟩
theorem Chg.setCell {S:Nat->Prop} {a b:World} (h:Chg S a b) {p:Addr} (hp:p.block<a.heap.size->S p.block) (u:Value):Chg S a (b.setCell p u) :=
 ⟨h.os,h.tape,h.output,by simpa [World.setCell] using h.size,fun i hi hs=>(Below.heap_setCell b p u i (by rintro rfl;exact hs (hp hi))).trans (h.block i hi hs)⟩
theorem Chg.grown {S:Nat->Prop} {a b c:World} {row:Option Nat} (h:Chg S a b) (hg:b.grownBy c row) (hr:∀ k,row=some k->k<a.heap.size->S k):Chg S a c :=
 ⟨hg.os.trans h.os,hg.tape.trans h.tape,hg.output.trans h.output,Nat.le_trans h.size hg.size,fun i hi hs=>(hg.block i (Nat.lt_of_lt_of_le hi h.size) (fun e=>hs (hr i e.symm hi))).trans (h.block i hi hs)⟩
theorem Chg.below {S:Nat->Prop} {a b:World} {B:Nat} (h:Chg S a b) (hB:B<=a.heap.size) (hS:∀ i,i<B->¬S i):Below B a b :=
 ⟨h.os,h.tape,h.output,h.size,fun i hi=>h.block i (Nat.lt_of_lt_of_le hi hB) (hS i hi)⟩
theorem Chg.of_below {a b:World} {S:Nat->Prop} (h:Below a.heap.size a b):Chg S a b:=⟨h.os,h.tape,h.output,h.size,fun i hi _=>h.block i hi⟩
theorem Chg.cell {S:Nat->Prop} {a b:World} (h:Chg S a b) {p:Addr} (hp:p.block<a.heap.size) (hs:¬S p.block):b.cell? p=a.cell? p:=World.cell?_of_block (h.block p.block hp hs)
theorem Chg.no_below {a b:World} (h:Chg NoS a b):Below a.heap.size a b:=h.below (Nat.le_refl _) (fun _ _ h=>h)
def Blk (w:World) (g:Nat) (t:TypeId) (cs:Array Value):Prop:=w.heap[g]?=some (.cells cs t (0,0))
section
variable {w w':World} {g:Nat} {t:TypeId} {cs:Array Value}
theorem Blk.lt (h:Blk w g t cs):g<w.heap.size:=(Array.getElem?_eq_some_iff.1 h).1
theorem Blk.cell (h:Blk w g t cs) (i:Nat):w.cell? ⟨g,i,none⟩=cs[i]?:=cell_of_row w g i cs t (0,0) h
theorem Blk.frozen (h:Blk w g t cs) (i:Nat):w.frozen? ⟨g,i,none⟩=false:=by
 have h':w.heap[g]?=some (.cells cs t (0,0)):=h
 simp [World.frozen?,h']
theorem Blk.new (w:World) (t:TypeId) (cs:Array Value):Blk (w.alloc (.cells cs t)) w.heap.size t cs:=heap_alloc_new w _
theorem Blk.chg {S:Nat->Prop} (h:Blk w g t cs) (hc:Chg S w w') (hs:¬S g):Blk w' g t cs:=(hc.block g h.lt hs).trans h
theorem Blk.drew (h:Blk w g t cs):Blk w.drew g t cs:=h
theorem Blk.drewN (h:Blk w g t cs) (n:Nat):Blk (w.drewN n) g t cs:=h
theorem Blk.alloc (h:Blk w g t cs) (o:Obj):Blk (w.alloc o) g t cs:=(Below.heap_alloc w o g h.lt).trans h
theorem Blk.set_ (h:Blk w g t cs) (i:Nat) (u:Value):Blk (w.setCell ⟨g,i,none⟩ u) g t (cs.setIfInBounds i u):=by
 have h':w.heap[g]?=some (.cells cs t (0,0)):=h
 show(w.setCell ⟨g,i,none⟩ u).heap[g]?=_
 simp [World.setCell,Array.getElem?_modify,h']
theorem Blk.far (h:Blk w g t cs) {p:Addr} (hp:g≠p.block) (u:Value):Blk (w.setCell p u) g t cs:=(Below.heap_setCell w p u g hp).trans h
theorem Blk.grown {row:Option Nat} (h:Blk w g t cs) (hb:w.grownBy w' row) (hg:some g≠row):Blk w' g t cs:=(hb.block g h.lt hg).trans h
theorem Blk.ne_ {g':Nat} {t':TypeId} {cs':Array Value} (h:Blk w g t cs) (h':Blk w g' t' cs') (hne:t≠t'):g≠g':=by
 rintro rfl
 have e:=h.symm.trans h'
 injection e with e
 injection e with _ e
 exact hne e
end
section
variable {w w':World} {base:Nat} {e:TypeId} {size n:Nat} {v:Value} {xs:List Value}
theorem own_lt (h:w.ownsRow base e size v n xs) {g:Nat} (hg:v.ownBlock=some g):g<w.heap.size:=by
 rcases h.2 with⟨rfl,_⟩|⟨g',cap,cur,rfl,_,hh,_⟩
 ·simp [Value.ownBlock] at hg
 ·have e:g'=g:=by simpa [Value.ownBlock] using hg
  subst e
  exact(Array.getElem?_eq_some_iff.1 hh).1
theorem own_ne_blk {g:Nat} {t:TypeId} {cs:Array Value} (h:w.ownsRow base e size v n xs) (hg:Blk w g t cs) (hne:e≠t):v.ownBlock≠some g:=by
 rcases h.2 with⟨rfl,_⟩|⟨g',cap,cur,rfl,_,hh,_⟩
 ·simp [Value.ownBlock]
 ·intro he
  have e1:g'=g:=by simpa [Value.ownBlock] using he
  subst e1
  exact Blk.ne_ (t:=e) (t':=t) hh hg hne rfl
theorem own_chg {S:Nat->Prop} (h:w.ownsRow base e size v n xs) (hc:Chg S w w') (hs:∀ g,v.ownBlock=some g->¬S g):w'.ownsRow base e size v n xs:=by
 refine⟨h.1,?_⟩
 rcases h.2 with h2|⟨g',cap,cur,rfl,hb,hh,r⟩
 ·exact .inl h2
 ·exact .inr ⟨g',cap,cur,rfl,hb,(hc.block g' (Array.getElem?_eq_some_iff.1 hh).1 (hs g' rfl)).trans hh,r⟩
theorem own_form (h:w.ownsRow base e size v n xs) (hn:0<n):∃ g cap,v=.slice (some ⟨g,0,none⟩) n cap/\n<=cap/\cap<=maxLen:=by
 rcases h.2 with⟨_,h0⟩|⟨g',cap,cur,rfl,hb,hh,h1,h2,_⟩
 ·omega
 ·exact⟨g',cap,rfl,h1,h2⟩
theorem own_slice (h:w.ownsRow base e size v n xs):∃ A cap,v=.slice A n cap/\(A=none->n=0/\cap=0):=by
 rcases h.2 with⟨rfl,rfl⟩|⟨g',cap,cur,rfl,_⟩
 ·exact⟨none,0,rfl,fun _=>⟨rfl,rfl⟩⟩
 ·exact⟨_,cap,rfl,fun h=>by cases h⟩
theorem own_drew (h:w.ownsRow base e size v n xs):w.drew.ownsRow base e size v n xs:=h
theorem own_drewN (h:w.ownsRow base e size v n xs) (k:Nat):(w.drewN k).ownsRow base e size v n xs:=h
theorem own_nil (w:World) (base:Nat) (e:TypeId) (size:Nat):w.ownsRow base e size (.slice none 0 0) 0 []:=⟨by simp,.inl ⟨rfl,rfl⟩⟩
end
def Src (w:World) (size:Nat) (A:Option Addr) (n c:Nat) (xs:List Value):Prop :=
 xs.length=n*size/\(A=none->n=0/\c=0)/\∀ ad,A=some ad->∀ j u,xs[j]?=some u->w.cell? (ad.add j)=some u
theorem src_own {w:World} {base:Nat} {e:TypeId} {size n c:Nat} {A:Option Addr} {xs:List Value} (h:w.ownsRow base e size (.slice A n c) n xs):Src w size A n c xs:=by
 refine⟨h.1,?_,?_⟩
 ·rintro rfl
  rcases h.2 with⟨h',h0⟩|⟨g',cap,cur,h',_⟩
  ·simp only [Value.slice.injEq] at h'
   exact⟨h0,h'.2.2⟩
  ·simp at h'
 ·rintro ad rfl j u hu
  rcases h.2 with⟨h',h0⟩|⟨g',cap,cur,h',_⟩
  ·simp at h'
  ·simp only [Value.slice.injEq,Option.some.injEq] at h'
   obtain⟨rfl,_,rfl⟩:=h'
   have hj:j<n*size:=by
    have:=(List.getElem?_eq_some_iff.1 hu).1
    rw [h.1] at this
    exact this
   have hc:=h.cellAt j hj
   rw [hu] at hc
   by_cases h0:j=0
   ·subst h0;simpa [Addr.add] using hc
   ·simpa [Addr.add,h0] using hc
theorem wpList_append_src {P:Program} {w:World} {ops:Array Oper} {rest:List Oper} {o:Oper} {a:Act} {Q:Exit->Act->World->Prop} (hgd:o.guard=none) (s x:Operand) (t:TypeId)
  (ho:o.op=.call { callee:=.builtin .append,args:=#[s,x],argTypes:=#[t,t] })
  (e:TypeId) (i:TypeInfo) (z:Value) (size bytes:Nat) (ht:P.underlying t=some (.slice e)) (hi:P.info? e=some i) (hz:i.zero=some z)
  (hsize:i.size=size) (hby:i.bytes=bytes) (hzs:z.cells.size=size) (hsz:0<size)
  (v:Value) (n:Nat) (xs:List Value) (hs:a.eval s=v) (hown:w.ownsRow 0 e size v n xs)
  (A:Option Addr) (m c:Nat) (news:List Value) (hx:a.eval x=.slice A m c) (hnews:Src w size A m c news) (h1:∀ u∈news,u.oneCell'=true)
  (h63:n+m<=maxLen) (hbytes:(n+m)*bytes<=140737488355328)
  (h:∀ v' w',w'.ownsRow 0 e size v' (n+m) (xs++news)->w.grownBy w' v.ownBlock->(v'.ownBlock=v.ownBlock\/v'.ownBlock=some w.heap.size)->wpList P ops Q rest (a.put o.dst v') w') :
  wpList P ops Q (o::rest) a w:=by
 rcases A with _|ad
 ·obtain⟨rfl,rfl⟩:=hnews.2.1 rfl
  have hn:news=[]:=List.eq_nil_of_length_eq_zero (by simpa using hnews.1)
  subst hn
  exact wpList_append_own_none hgd s x t ho 0 e i size ht hi v n xs hs hown hx (h v w (by simpa using hown) (World.grownBy.refl w _) (.inl rfl))
 ·exact wpList_append_own_at w hgd s x t ho 0 e i z size bytes ht hi hz hsize hby hzs hsz v n xs hs hown ad m c news hx hnews.1 (hnews.2.2 ad rfl) h1 h63 hbytes (Nat.zero_le _) (fun v' w' a b _ d=>h v' w' a b d)
theorem quiet_left {P:Program} {f:FuncId} {args:Array Value} {w:World} {n:Nat} {v:Value}
  (h:Calls P f args (w.drewN n) fun e w'=>e=.returned v/\w.drewN n=w'):Calls P f args (w.drewN n) fun e w''=>e=.returned v/\∃ m,w''=w.drewN m :=
 h.mono fun _ _ ⟨he,hm⟩=>⟨he,n,hm.symm⟩
theorem quiet_left_add {P:Program} {f:FuncId} {args:Array Value} {w:World} {a n:Nat} {v:Value}
  (h:Calls P f args (w.drewN (a+n)) fun e w'=>e=.returned v/\w.drewN (a+n)=w'):Calls P f args (w.drewN (a+n)) fun e w''=>e=.returned v/\∃ m,w''=w.drewN (a+m) :=
 h.mono fun _ _ ⟨he,hm⟩=>⟨he,n,hm.symm⟩
open Go.RowKit Go.Deep Go.ChangeShapes Go.WideShapes
theorem cell_lt {w:World} {p:Addr} {u:Value} (h:w.cell? p=some u):p.block<w.heap.size:=by
 rcases Nat.lt_or_ge p.block w.heap.size with h1|h1
 ·exact h1
 ·exfalso
  simp [World.cell?,Array.getElem?_eq_none h1] at h
theorem Src.below {w0 w w':World} {size n c:Nat} {A:Option Addr} {xs:List Value} (h:Src w size A n c xs) (hc:Chg NoS w w'):Src w' size A n c xs :=
 ⟨h.1,h.2.1,fun ad hA j u hu=>by
  have h1:=h.2.2 ad hA j u hu
  rw [hc.cell (by exact cell_lt h1) (fun h=>h)]
  exact h1⟩
theorem Src.plain {w:World} {size n c:Nat} {A:Option Addr} {xs:List Value} (h:Src w size A n c xs) (hn:0<xs.length) :
  ∃ b off,A=some ⟨b,off,none⟩/\∀ j u,xs[j]?=some u->w.cell? ⟨b,off+j,none⟩=some u:=by
 rcases A with _|⟨b,off,sp⟩
 ·have h1:=(h.2.1 rfl).1
  have h2:=h.1
  rw [h1,Nat.zero_mul] at h2
  omega
 ·have h0:=h.2.2 _ rfl 0 _ (List.getElem?_eq_getElem hn)
  have hs:sp=none:=by simpa [Addr.add] using World.cell?_spot h0
  subst hs
  refine⟨b,off,rfl,fun j u hu=>?_⟩
  have h1:=h.2.2 _ rfl j u hu
  by_cases hj:j=0
  ·subst hj;simpa [Addr.add] using h1
  ·simpa [Addr.add,hj] using h1
theorem flat_len {α:Type} (f:α->List Value) (size:Nat) (hf:∀ p,(f p).length=size):∀ ps:List α,(ps.flatMap f).length=ps.length*size
 |[]=>by simp
 |p::ps=>by
  rw [List.flatMap_cons,List.length_append,hf,flat_len f size hf ps,List.length_cons,Nat.succ_mul]
  omega
theorem flat_get {α:Type} (f:α->List Value) (size:Nat) (hf:∀ p,(f p).length=size):∀ (ps:List α) (i j:Nat) (p:α),ps[i]?=some p->j<size->(ps.flatMap f)[i*size+j]?=(f p)[j]?
 |[],i,j,p,h,_=>by simp at h
 |q::ps,0,j,p,h,hj=>by
  simp at h
  subst h
  rw [List.flatMap_cons,List.getElem?_append_left (by rw [hf];omega)]
  simp
 |q::ps,i+1,j,p,h,hj=>by
  simp at h
  rw [List.flatMap_cons,List.getElem?_append_right (by rw [hf,Nat.succ_mul];omega),hf,show(i+1)*size+j-size=i*size+j from by rw [Nat.succ_mul];omega]
  exact flat_get f size hf ps i j p h hj
theorem open_rows {α:Type} [Inhabited α] {H:Type} {en:TypeId × Value->H} {P:Program} {w:World} {base fuel:Nat} {spare:Nat->Bool} {held:Bool} {t e:TypeId} {A:Option Addr} {len cap:Nat} {x:DataW H × List MemPlace}
  (enc:α->List Value) (good:α->Prop) (size:Nat) (ht:P.underlying t=some (.slice e)) (hc:P.cellsOf e=size) (henc:∀ p,(enc p).length=size)
  (hel:∀ (n:Nat) (cs:List Value) (y:DataW H × List MemPlace),DataW.trod en P w base spare held n e cs=some y->cs.length=size->∃ p,cs=enc p/\good p)
  (h:DataW.trod en P w base spare held fuel t [.slice A len cap]=some x) :
  len<=maxLen/\∃ ps:List α,ps.length=len/\Src w size A len cap (ps.flatMap enc)/\∀ p∈ps,good p:=by
 rcases open_slice ht h with⟨h0,_⟩|⟨a,len',cap',m,n,D,Pl,hcs,hb,hl,hm,hmm,hx,hi⟩
 ·simp only [List.cons.injEq,Value.slice.injEq,and_true] at h0
  obtain⟨rfl,rfl,rfl⟩:=h0
  exact⟨by simp,[],rfl,⟨by simp,fun _=>⟨rfl,rfl⟩,fun _ h=>(by cases h)⟩,fun _ h=>(by cases h)⟩
 ·simp only [List.cons.injEq,Value.slice.injEq,and_true] at hcs
  obtain⟨rfl,rfl,rfl⟩:=hcs
  have hlm:len<=m:=by rw [hmm];split<;>omega
  have hex:∀ i,i<len->∃ p:α,good p/\∀ j,j<size->w.cell? (a.add (i*size+j))=(enc p)[j]?:=by
   intro i hil
   obtain⟨cs',hcs',ht'⟩:=hi i (by omega)
   rw [hc] at hcs'
   obtain⟨_,hcl,hat⟩:=World.cells?_some hcs'
   obtain⟨p,rfl,hg⟩:=hel n cs' _ ht' hcl
   exact⟨p,hg,fun j hj=>by rw [<- Go.Deep.add_add];exact hat j hj⟩
  obtain⟨f,hf⟩:=choose_lt hex
  refine⟨by omega,(List.range len).map f,by simp,⟨by rw [flat_len enc size henc];simp,fun h=>(by cases h),?_⟩,?_⟩
  ·intro ad had j u hu
   cases had
   have hjl:j<len*size:=by
    have:=(List.getElem?_eq_some_iff.1 hu).1
    rw [flat_len enc size henc] at this
    simpa using this
   rcases Nat.eq_zero_or_pos size with h0|h0
   ·subst h0;simp at hjl
   ·have hq:j / size<len:=Nat.div_lt_of_lt_mul (by rw [Nat.mul_comm];exact hjl)
    have hr:j%size<size:=Nat.mod_lt _ h0
    have hd:j / size*size+j%size=j:=by rw [Nat.mul_comm];exact Nat.div_add_mod j size
    have hg:=flat_get enc size henc ((List.range len).map f) (j / size) (j%size) (f (j / size)) (by simp [hq]) hr
    rw [hd,hu] at hg
    have:=(hf (j / size) hq).2 (j%size) hr
    rw [hd] at this
    rw [this,<- hg]
  ·intro p hp
   obtain⟨i,hi',rfl⟩:=List.mem_map.1 hp
   exact(hf i (List.mem_range.1 hi')).1
theorem el_int {H:Type} {en:TypeId × Value->H} {P:Program} {w:World} {base n:Nat} {spare:Nat->Bool} {held:Bool} {e:TypeId} {cs:List Value} {y:DataW H × List MemPlace} {k:IntKind}
  (he:P.underlying e=some (.int k)) (h:DataW.trod en P w base spare held n e cs=some y):∃ z:Int,cs=[.int k z]/\(Lit.int k z).wf=true:=by
 obtain⟨z,rfl,_,hz⟩:=DataW.trod_int he h
 exact⟨z,rfl,hz⟩
theorem el_bool {H:Type} {en:TypeId × Value->H} {P:Program} {w:World} {base n:Nat} {spare:Nat->Bool} {held:Bool} {e:TypeId} {cs:List Value} {y:DataW H × List MemPlace}
  (he:P.underlying e=some .bool) (h:DataW.trod en P w base spare held n e cs=some y):∃ b:Bool,cs=[.bool b]:=by
 obtain⟨b,rfl,_⟩:=DataW.trod_bool he h
 exact⟨b,rfl⟩
def isD (d:Nat):Prop:=48<=d/\d<=57
instance (d:Nat):Decidable (isD d):=inferInstanceAs (Decidable (_/\_))
def dn (n:Nat):List Nat:=if h:n=0 then [] else dn (n / 10)++[48+n%10]
termination_by n
decreasing_by omega
theorem dn_0:dn 0=[]:=by rw [dn,dif_pos rfl]
theorem dn_s {n:Nat} (h:n≠0):dn n=dn (n / 10)++[48+n%10]:=by rw [dn,dif_neg h]
def valF (a:Nat) (l:List Nat):Nat:=l.foldl (fun n d=>10*n+(d-48)) a
theorem valF_app (a:Nat) (l m:List Nat):valF a (l++m)=valF (valF a l) m:=List.foldl_append
theorem valF_dn (n:Nat):valF 0 (dn n)=n:=by
 induction n using Nat.strongRecOn with
 |_ n ih =>
  by_cases h:n=0
  ·subst h;rw [dn_0];rfl
  ·rw [dn_s h,valF_app,ih (n / 10) (by omega)]
   show 10*(n / 10)+(48+n%10-48)=n
   omega
theorem dn_dig (n:Nat):∀ d∈dn n,isD d:=by
 induction n using Nat.strongRecOn with
 |_ n ih =>
  by_cases h:n=0
  ·subst h;rw [dn_0];intro d hd;cases hd
  ·rw [dn_s h]
   intro d hd
   rcases List.mem_append.1 hd with h1|h1
   ·exact ih (n / 10) (by omega) d h1
   ·rw [List.mem_singleton] at h1
    subst h1
    unfold isD
    omega
theorem dn_len {n k:Nat} (h:n<10 ^ k):(dn n).length<=k:=by
 induction k generalizing n with
 |zero=>simp at h;subst h;rw [dn_0];exact Nat.le_refl _
 |succ k ih =>
  by_cases h0:n=0
  ·subst h0;rw [dn_0];exact Nat.zero_le _
  ·rw [dn_s h0,List.length_append,List.length_singleton]
   have:=ih (n:=n / 10) (by rw [Nat.pow_succ] at h;omega)
   omega
theorem dn_more {n k:Nat} (h:10 ^ k<=n):k<(dn n).length:=by
 induction k generalizing n with
 |zero =>
  have h0:n≠0:=by simp at h;omega
  rw [dn_s h0,List.length_append,List.length_singleton]
  omega
 |succ k ih =>
  have h1:10 ^ k<=n / 10:=by rw [Nat.pow_succ] at h;omega
  have h0:n≠0:=by
   have:0<10 ^ k:=Nat.pow_pos (by omega)
   omega
  rw [dn_s h0,List.length_append,List.length_singleton]
  have:=ih h1
  omega
def txt (n least:Nat):List Nat:=List.replicate (least-(dn n).length) 48++dn n
theorem txt_dig (n least:Nat):∀ d∈txt n least,isD d:=by
 intro d hd
 rcases List.mem_append.1 hd with h|h
 ·rw [(List.mem_replicate.1 h).2];unfold isD;omega
 ·exact dn_dig n d h
theorem txt_len (n least:Nat):(txt n least).length=max least (dn n).length:=by
 rw [txt,List.length_append,List.length_replicate]
 omega
theorem txt_step (n least:Nat) (h:n≠0\/least≠0):txt n least=txt (n / 10) (least-1)++[48+n%10]:=by
 by_cases h0:n=0
 ·subst h0
  rw [txt,txt,Nat.zero_div,dn_0,List.length_nil,Nat.sub_zero,Nat.sub_zero,List.append_nil,List.append_nil]
  obtain⟨k,rfl⟩:∃ k,least=k+1:=⟨least-1,by omega⟩
  rw [Nat.add_sub_cancel,List.replicate_succ']
 ·rw [txt,txt,dn_s h0,List.length_append,List.length_singleton,<- List.append_assoc]
  congr 3
  omega
theorem txt_none:txt 0 0=[]:=by rw [txt,dn_0];rfl
structure Ns where
 n:Nat
 parts:Nat
 digits:Nat
 fr:Option Nat
 over:Bool
def nsStep (s:Ns) (c:Nat):Option Ns :=
 if c=46/\s.fr=none then some { s with fr:=some 0 }
 else if isD c then
  match s.fr with
  |none=>some { s with n:=if s.over then s.n else 10*s.n+(c-48),digits:=s.digits+1,over:=s.over || decide (2147483647<if s.over then s.n else 10*s.n+(c-48)) }
  |some j=>some { s with parts:=s.parts+100000 / 10 ^ min j 6*(c-48),digits:=s.digits+1,fr:=some (j+1) }
 else none
def nsAll (s:Ns):List Nat->Option Ns
 |[]=>some s
 |c::l=>match nsStep s c with
  |none=>none
  |some t=>nsAll t l
theorem nsAll_app (s:Ns) (l m:List Nat):nsAll s (l++m)=(nsAll s l).bind fun t=>nsAll t m:=by
 induction l generalizing s with
 |nil=>rfl
 |cons c l ih =>
  rw [List.cons_append,nsAll,nsAll]
  cases h:nsStep s c with
  |none=>rfl
  |some t=>exact ih t
def ns0:Ns:=⟨0,0,0,none,false⟩
def signed:List Nat->Bool × List Nat
 |[]=>(false,[])
 |c::l=>if c=43 then(false,l) else if c=45 then(true,l) else(false,c::l)
def numOf (l:List Nat):Int × Nat × Int :=
 match nsAll ns0 (signed l).2 with
 |none=>(11,0,0)
 |some s =>
  if s.digits=0 then(11,0,0)
  else if s.over=true\/(s.fr≠none/\s.n=2147483647/\0<s.parts) then(5,0,0)
  else
   let x:Int:=if s.fr=none then(s.n:Int) else((1000000*s.n+s.parts:Nat):Int)
   (0,if s.fr=none then 2 else 3,if (signed l).1 then 0-x else x)
theorem nsAll_int:∀ (l:List Nat) (s:Ns),(∀ d∈l,isD d)->s.fr=none->s.over=false->valF s.n l<=2147483647->nsAll s l=some { s with n:=valF s.n l,digits:=s.digits+l.length }:=by
 intro l
 induction l with
 |nil=>intro s _ _ _ _;rfl
 |cons c l ih =>
  intro s hd hf ho hv
  have hc:=hd c (List.mem_cons_self ..)
  have hle:∀ (l:List Nat) (a:Nat),a<=valF a l:=by
   intro l
   induction l with
   |nil=>intro a;exact Nat.le_refl _
   |cons x l ih2 =>
    intro a
    have:=ih2 (10*a+(x-48))
    show a<=valF (10*a+(x-48)) l
    omega
  have h1:10*s.n+(c-48)<=2147483647:=Nat.le_trans (hle l _) hv
  have hst:nsStep s c=some { s with n:=10*s.n+(c-48),digits:=s.digits+1 }:=by
   unfold nsStep
   have:¬(c=46/\s.fr=none):=by unfold isD at hc;omega
   rw [if_neg this,if_pos hc,hf]
   simp only [ho,Bool.false_eq_true,if_false,Bool.false_or]
   have hd2:decide (2147483647<10*s.n+(c-48))=false:=by simp;omega
   rw [hd2]
  rw [nsAll,hst]
  simp only
  rw [ih { s with n:=10*s.n+(c-48),digits:=s.digits+1 } (fun d hd2=>hd d (List.mem_cons_of_mem _ hd2)) hf ho hv]
  simp only [List.length_cons]
  congr 2
  omega
def milF (j:Nat):List Nat->Nat
 |[]=>0
 |c::l=>100000 / 10 ^ min j 6*(c-48)+milF (j+1) l
theorem nsAll_fr:∀ (l:List Nat) (s:Ns) (j:Nat),(∀ d∈l,isD d)->s.fr=some j->nsAll s l=some { s with parts:=s.parts+milF j l,digits:=s.digits+l.length,fr:=some (j+l.length) }:=by
 intro l
 induction l with
 |nil=>intro s j _ hf;simp [nsAll,milF,<- hf]
 |cons c l ih =>
  intro s j hd hf
  have hc:=hd c (List.mem_cons_self ..)
  have hst:nsStep s c=some { s with parts:=s.parts+100000 / 10 ^ min j 6*(c-48),digits:=s.digits+1,fr:=some (j+1) }:=by
   unfold nsStep
   have:¬(c=46/\s.fr=none):=by rw [hf];simp
   rw [if_neg this,if_pos hc,hf]
  rw [nsAll,hst]
  simp only
  rw [ih { s with parts:=s.parts+100000 / 10 ^ min j 6*(c-48),digits:=s.digits+1,fr:=some (j+1) } (j+1) (fun d hd2=>hd d (List.mem_cons_of_mem _ hd2)) rfl]
  simp only [List.length_cons,milF]
  congr 2
  ·omega
  ·omega
  ·congr 1;omega
def trimZ:Nat->List Nat->List Nat
 |0,l=>l
 |k+1,l=>if l.getLast?=some 48 then trimZ k l.dropLast else l
def signL (x:Int):List Nat:=if x<0 then [45] else []
def intTxt (x:Int):List Nat:=signL x++txt x.natAbs 1
def realTxt (x:Int):List Nat:=signL x++(txt (x.natAbs / 1000000) 1++46::trimZ 5 (txt (x.natAbs%1000000) 6))
structure NsIn (s:Ns):Prop where
 n:s.over=false->s.n<=2147483647
 none_:s.fr=none->s.parts=0
 some_:∀ j,s.fr=some j->s.parts+10 ^ (6-min j 6)<=1000000
theorem mil_big:∀ j,j<=5->100000 / 10 ^ min j 6*9+10 ^ (6-min (j+1) 6)<=10 ^ (6-min j 6):=by decide
theorem NsIn.step {s t:Ns} {c:Nat} (h:NsIn s) (e:nsStep s c=some t):NsIn t:=by
 unfold nsStep at e
 split at e
 ·rename_i h1
  injection e with e
  subst e
  refine⟨h.n,fun h2=>(by cases h2),fun j hj=>?_⟩
  injection hj with hj
  subst hj
  show s.parts+_<=_
  rw [h.none_ h1.2]
  decide
 ·split at e
  ·rename_i hc
   rcases hf:s.fr with _|j
   ·rw [hf] at e
    injection e with e
    subst e
    refine⟨fun ho=>?_,fun _=>h.none_ hf,fun j hj=>?_⟩
    ·simp only [Bool.or_eq_false_iff,decide_eq_false_iff_not] at ho
     simp only
     omega
    ·first|(rw [hf] at hj;cases hj)|cases hj
   ·rw [hf] at e
    injection e with e
    subst e
    refine⟨h.n,fun h2=>(by cases h2),fun i hi=>?_⟩
    injection hi with hi
    subst hi
    have h1:=h.some_ j hf
    show s.parts+100000 / 10 ^ min j 6*(c-48)+10 ^ (6-min (j+1) 6)<=1000000
    by_cases hj:j<=5
    ·have h2:=mil_big j hj
     have h3:100000 / 10 ^ min j 6*(c-48)<=100000 / 10 ^ min j 6*9:=Nat.mul_le_mul_left _ (by unfold isD at hc;omega)
     omega
    ·have e1:min j 6=6:=by omega
     have e2:min (j+1) 6=6:=by omega
     rw [e1] at h1 ⊢
     rw [e2]
     have e3:100000 / 10 ^ 6=0:=by decide
     rw [e3]
     omega
  ·cases e
theorem NsIn.all:∀ (l:List Nat) {s t:Ns},NsIn s->nsAll s l=some t->NsIn t:=by
 intro l
 induction l with
 |nil=>intro s t h e;injection e with e;subst e;exact h
 |cons c l ih =>
  intro s t h e
  rw [nsAll] at e
  cases hs:nsStep s c with
  |none=>rw [hs] at e;cases e
  |some u=>rw [hs] at e;exact ih (h.step hs) e
theorem ns0_in:NsIn ns0:=⟨fun _=>by decide,fun _=>rfl,fun j h=>by cases h⟩
theorem numOf_may {l:List Nat} {k:Nat} {x:Int} (h:numOf l=(0,k,x)):(k=2/\x.natAbs<=2147483647)\/(k=3/\x.natAbs<=2147483647*1000000):=by
 unfold numOf at h
 split at h
 ·simp at h
 ·rename_i s hs
  have hi:=ns0_in.all _ hs
  split at h
  ·simp at h
  ·split at h
   ·simp at h
   ·rename_i h2
    have ho:s.over=false:=by
     cases hv:s.over
     ·rfl
     ·exact absurd (.inl hv) h2
    have hn:=hi.n ho
    simp only [Prod.mk.injEq,true_and] at h
    obtain⟨hk,hx⟩:=h
    rcases hf:s.fr with _|j
    ·rw [hf] at hk hx
     simp only [if_true] at hk hx
     refine .inl ⟨hk.symm,?_⟩
     split at hx<;>omega
    ·rw [hf] at hk hx
     simp only [reduceCtorEq,if_false] at hk hx
     refine .inr ⟨hk.symm,?_⟩
     have h3:=hi.some_ j hf
     have h4:0<10 ^ (6-min j 6):=Nat.pow_pos (by omega)
     have h5:¬(s.n=2147483647/\0<s.parts):=fun h6=>h2 (.inr ⟨by rw [hf];simp,h6.1,h6.2⟩)
     split at hx<;>omega
def sl (s:ByteArray):List Nat:=s.data.toList.map UInt8.toNat
theorem sl_len (s:ByteArray):(sl s).length=s.size:=by
 rw [sl,List.length_map,Array.length_toList]
 rfl
theorem sl_lt (s:ByteArray):∀ d∈sl s,d<256:=by
 intro d hd
 obtain⟨x,_,rfl⟩:=List.mem_map.1 hd
 exact x.toNat_lt
theorem sl_at (s:ByteArray) (k:Nat) (h:k<s.size):(s[k]'h).toNat=(sl s).getD k 0:=by
 have h1:k<s.data.toList.length:=by rw [Array.length_toList];exact h
 rw [List.getD_eq_getElem?_getD,sl,List.getElem?_map,List.getElem?_eq_getElem h1]
 simp
 rfl
theorem sl_get {s:ByteArray} {k:Nat} (h:k<s.size):(sl s)[k]?=some ((sl s).getD k 0):=by
 have h1:k<(sl s).length:=by rw [sl_len];exact h
 rw [List.getD_eq_getElem?_getD,List.getElem?_eq_getElem h1]
 rfl
theorem take_snoc {l:List Nat} {k x:Nat} (h:l[k]?=some x):l.take (k+1)=l.take k++[x]:=by
 rw [List.take_add_one,h]
 rfl
def sb (l:List Nat):ByteArray:=⟨(l.map UInt8.ofNat).toArray⟩
theorem sb_size (l:List Nat):(sb l).size=l.length:=by
 show(l.map UInt8.ofNat).toArray.size=_
 rw [List.size_toArray,List.length_map]
theorem sb_app (l m:List Nat):sb l++sb m=sb (l++m):=by
 unfold sb
 rw [ByteArray.mk_append_mk,List.map_append]
theorem sb_sl (s:ByteArray):sb (sl s)=s:=by
 obtain⟨⟨l⟩⟩:=s
 unfold sb sl
 rw [List.map_map]
 have e:(UInt8.ofNat ∘ UInt8.toNat)=id:=by funext x;simp
 rw [e,List.map_id]
theorem sl_sb (l:List Nat) (h:∀ d∈l,d<256):sl (sb l)=l:=by
 unfold sb sl
 show(l.map UInt8.ofNat).map UInt8.toNat=l
 rw [List.map_map]
 have e:l.map (UInt8.toNat ∘ UInt8.ofNat)=l.map id:=List.map_congr_left fun d hd=>by
  show(UInt8.ofNat d).toNat=d
  have:=h d hd
  simp
  omega
 rw [e,List.map_id]
theorem dig_extract:∀ d,d<10->(ByteArray.mk #[48,49,50,51,52,53,54,55,56,57]).extract d (d+1)=sb [48+d]:=by
 intro d h
 rcases d with _|_|_|_|_|_|_|_|_|_|d
 all_goals first
  |rfl
  |decide
  |omega
set_option maxHeartbeats 1000000 in
theorem rtext_any (n least:Nat) (w:World) (hn:n<10 ^ 20) (hn63:n<=9223372036854775807) (hl:least<=20) :
  Calls Tryz.prog 63 #[.int .i64 (n:Nat),.int .i64 (least:Nat)] w fun e w'=>e=.returned (.string (sb (txt n least)))/\w=w':=by
 have HT:=kf hn
 clear hn
 go_enter Tryz.func63,Tryz.ntmps63
 go_wp2_with fail
 go_loop [0,5,6,7] (fun vm vs vk vd=>∃ (m k:Nat) (s:ByteArray),k<=20/\m<=9223372036854775807/\s.size=k/\vm=.int .i64 (m:Nat)/\vs=.string s/\vk=.int .i64 (k:Nat)/\Hid (∃ S:List Nat,s=sb S/\S.length=k/\m<10 ^ (20-k)/\txt n least=txt m (least-k)++S)) (fun _ _ vk _=>20-(intOf vk).toNat)
 case atStart=>exact⟨n,0,sb [],by omega,hn63,rfl,rfl,rfl,by go_num,⟨[],rfl,rfl,HT.out,by simp⟩⟩
 case round =>
  obtain⟨m,k,s,hk,hm,hs,rfl,rfl,rfl,HS⟩:=hrel
  obtain⟨d,hd⟩:∃ d,d=m%10:=⟨_,rfl⟩
  have ed:(m:Int)%10=(d:Int):=by omega
  have hd10:d<10:=by omega
  obtain⟨q,hq⟩:∃ q,q=m / 10:=⟨_,rfl⟩
  have eq:(m:Int) / 10=(q:Int):=by omega
  have HDQ:=kf (⟨hd,hq⟩:d=m%10/\q=m / 10)
  have hex:=dig_extract d hd10
  have hq63:q<=9223372036854775807:=by omega
  obtain⟨c,hc⟩:∃ c,c=sb [48+d]:=⟨_,rfl⟩
  rw [<- hc] at hex
  have hc1:c.size=1:=by rw [hc,sb_size];rfl
  have HC:=kf hc
  clear hd hq hc
  have hstep:Hid ((m≠0\/k<least)->k<20->∃ S:List Nat,c++s=sb S/\S.length=k+1/\q<10 ^ (20-(k+1))/\txt n least=txt q (least-(k+1))++S):=by
   intro h1 h2
   obtain⟨S,rfl,h3,h4,h5⟩:=HS.out
   refine⟨(48+d)::S,by rw [HC.out,sb_app];rfl,by simp [h3],?_,?_⟩
   ·rw [HDQ.out.2]
    have e:10 ^ (20-k)=10 ^ (20-(k+1))*10:=by rw [<- Nat.pow_succ];congr 1;omega
    omega
   ·rw [h5,txt_step m (least-k) (by omega),<- HDQ.out.1,<- HDQ.out.2,List.append_assoc,show least-(k+1)=least-k-1 from by omega]
    rfl
  have hend:Hid (¬(m≠0\/k<least)\/¬k<20->s=sb (txt n least)):=by
   intro h1
   obtain⟨S,rfl,h3,h4,h5⟩:=HS.out
   have h6:m=0/\least<=k:=by
    rcases h1 with h1|h1
    ·omega
    ·obtain rfl:k=20:=by omega
     simp at h4
     omega
   rw [h5,h6.1,show least-k=0 from by omega,txt_none,List.nil_append]
  by_cases h20:k<20
  ·by_cases hm0:m=0
   ·have d1:decide ((0:Int)<m)=false:=by simp;omega
    have d1':decide (0<m)=false:=by simp;omega
    by_cases hkl:k<least
    ·have d2:decide ((k:Int)<least)=true:=by simp;omega
     have d2':decide (k<least)=true:=by simp;omega
     have HN:=kf (hstep.out (.inr hkl) h20)
     clear hm0 hstep hend
     go_wp2_with fail
     go_round
     case rel=>exact⟨q,k+1,c++s,by omega,hq63,by rw [ByteArray.size_append];omega,rfl,rfl,by go_num,HN.out⟩
     case measure=>simp [intOf];omega
    ·have d2:decide ((k:Int)<least)=false:=by simp;omega
     have d2':decide (k<least)=false:=by simp;omega
     have HE:=kf (hend.out (.inl (by omega)))
     clear hm0 hstep hend
     go_wp2_with fail
     go_ret
     rw [<- HE.out]
     exact⟨rfl,rfl⟩
   ·have d1:decide ((0:Int)<m)=true:=by simp;omega
    have d1':decide (0<m)=true:=by simp;omega
    have HN:=kf (hstep.out (.inl hm0) h20)
    clear hm0 hstep hend
    go_wp2_with fail
    go_round
    case rel=>exact⟨q,k+1,c++s,by omega,hq63,by rw [ByteArray.size_append];omega,rfl,rfl,by go_num,HN.out⟩
    case measure=>simp [intOf];omega
  ·have HE:=kf (hend.out (.inr h20))
   have d3:decide ((k:Int)<20)=false:=by simp;omega
   have d3':decide (k<20)=false:=by simp;omega
   clear hstep hend
   go_wp2_with fail
   go_ret
   rw [<- HE.out]
   exact⟨rfl,rfl⟩
def padOf (n d:Int):List Nat × Int:=if n<0\/d<1\/20<d\/d.toNat<(txt n.toNat d.toNat).length then([],2) else(txt n.toNat d.toNat,0)
theorem pad_bad {n d:Int} (h:n<0\/d<1\/20<d\/d.toNat<(txt n.toNat d.toNat).length):padOf n d=([],2):=if_pos h
def mayN (k n:Int):Prop:=(k=2/\-2147483647<=n/\n<=2147483647)\/(k=3/\-2147483647000000<=n/\n<=2147483647000000)
instance (k n:Int):Decidable (mayN k n):=inferInstanceAs (Decidable (_\/_))
def chkOf (k n:Int) (sz len:Nat):Int:=if sz=0/\len=0/\mayN k n then 0 else 2
theorem str_nil {s:ByteArray} (h:s.size=0):s=⟨#[]⟩:=by
 obtain⟨a⟩:=s
 have h:a.size=0:=h
 rw [Array.eq_empty_of_size_eq_zero h]
theorem str_ne {s:ByteArray} (h:s.size≠0):¬s.toList=[]:=by
 rw [ByteArray.toList_eq]
 obtain⟨⟨l⟩⟩:=s
 have h:l.length≠0:=h
 rcases l with _|⟨x,l⟩
 ·simp at h
 ·intro h2;cases h2
set_option maxHeartbeats 1000000 in
theorem rchk_any (k n:Int) (s:ByteArray) (A:Option Addr) (len cap:Nat) (w:World) :
  Calls Tryz.prog 84 #[.agg #[.int .i64 k,.int .i64 n,.string s,.slice A len cap]] w fun e w'=>e=.returned (.int .i64 (chkOf k n s.size len))/\Chg NoS w w':=by
 by_cases hs:s.size=0
 ·obtain rfl:=str_nil hs
  by_cases hl:len=0
  ·subst hl
   have HB:Hid (∀ z:Int,(mayN k n/\z=0)\/(¬mayN k n/\z=2)->chkOf k n (ByteArray.mk #[]).size 0=z):=by
    rintro z (⟨h,rfl⟩|⟨h,rfl⟩)
    ·exact if_pos ⟨rfl,rfl,h⟩
    ·exact if_neg (fun h2=>h h2.2.2)
   by_cases h2:k=2
   ·subst h2
    by_cases c1:-2147483647<=n
    ·have d1:decide (-2147483647<=n)=true:=by simpa using c1
     by_cases c2:n<=2147483647
     ·have d2:decide (n<=2147483647)=true:=by simpa using c2
      have HZ:=kf (HB.out 0 (.inl ⟨.inl ⟨rfl,c1,c2⟩,rfl⟩))
      go_enter Tryz.func84,Tryz.ntmps84
      go_wp2_with fail
      go_ret
      refine⟨?_,(Chg.refl NoS w).alloc _⟩
      show _=Ending.returned (Value.int IntKind.i64 (chkOf _ _ (ByteArray.mk #[]).size _))
      rw [HZ.out]
      rfl
     ·have d2:decide (n<=2147483647)=false:=by simpa using c2
      have HZ:=kf (HB.out 2 (.inr ⟨fun h=>by unfold mayN at h;omega,rfl⟩))
      go_enter Tryz.func84,Tryz.ntmps84
      go_wp2_with fail
      go_ret
      refine⟨?_,(Chg.refl NoS w).alloc _⟩
      show _=Ending.returned (Value.int IntKind.i64 (chkOf _ _ (ByteArray.mk #[]).size _))
      rw [HZ.out]
      rfl
    ·have d1:decide (-2147483647<=n)=false:=by simpa using c1
     have HZ:=kf (HB.out 2 (.inr ⟨fun h=>by unfold mayN at h;omega,rfl⟩))
     go_enter Tryz.func84,Tryz.ntmps84
     go_wp2_with fail
     go_ret
     refine⟨?_,(Chg.refl NoS w).alloc _⟩
     show _=Ending.returned (Value.int IntKind.i64 (chkOf _ _ (ByteArray.mk #[]).size _))
     rw [HZ.out]
     rfl
   ·have u2:(k==2)=false:=by simpa using h2
    by_cases h3:k=3
    ·subst h3
     by_cases c1:-2147483647000000<=n
     ·have d1:decide (-2147483647000000<=n)=true:=by simpa using c1
      by_cases c2:n<=2147483647000000
      ·have d2:decide (n<=2147483647000000)=true:=by simpa using c2
       have HZ:=kf (HB.out 0 (.inl ⟨.inr ⟨rfl,c1,c2⟩,rfl⟩))
       clear h2 u2
       go_enter Tryz.func84,Tryz.ntmps84
       go_wp2_with fail
       go_ret
       refine⟨?_,(Chg.refl NoS w).alloc _⟩
       show _=Ending.returned (Value.int IntKind.i64 (chkOf _ _ (ByteArray.mk #[]).size _))
       rw [HZ.out]
       rfl
      ·have d2:decide (n<=2147483647000000)=false:=by simpa using c2
       have HZ:=kf (HB.out 2 (.inr ⟨fun h=>by unfold mayN at h;omega,rfl⟩))
       clear h2 u2
       go_enter Tryz.func84,Tryz.ntmps84
       go_wp2_with fail
       go_ret
       refine⟨?_,(Chg.refl NoS w).alloc _⟩
       show _=Ending.returned (Value.int IntKind.i64 (chkOf _ _ (ByteArray.mk #[]).size _))
       rw [HZ.out]
       rfl
     ·have d1:decide (-2147483647000000<=n)=false:=by simpa using c1
      have HZ:=kf (HB.out 2 (.inr ⟨fun h=>by unfold mayN at h;omega,rfl⟩))
      clear h2 u2
      go_enter Tryz.func84,Tryz.ntmps84
      go_wp2_with fail
      go_ret
      refine⟨?_,(Chg.refl NoS w).alloc _⟩
      show _=Ending.returned (Value.int IntKind.i64 (chkOf _ _ (ByteArray.mk #[]).size _))
      rw [HZ.out]
      rfl
    ·have u3:(k==3)=false:=by simpa using h3
     have HZ:=kf (HB.out 2 (.inr ⟨fun h=>by unfold mayN at h;omega,rfl⟩))
     go_enter Tryz.func84,Tryz.ntmps84
     go_wp2_with fail
     go_ret
     refine⟨?_,(Chg.refl NoS w).alloc _⟩
     show _=Ending.returned (Value.int IntKind.i64 (chkOf _ _ (ByteArray.mk #[]).size _))
     rw [HZ.out]
     rfl
  ·have u1:((len:Int)==0)=false:=by simp;omega
   have u1':((len:Int) != 0)=true:=by simp;omega
   have HZ:Hid (chkOf k n (ByteArray.mk #[]).size len=2):=if_neg (fun h=>hl h.2.1)
   go_enter Tryz.func84,Tryz.ntmps84
   go_wp2_with fail
   go_ret
   refine⟨?_,(Chg.refl NoS w).alloc _⟩
   show _=Ending.returned (Value.int IntKind.i64 (chkOf _ _ (ByteArray.mk #[]).size _))
   rw [HZ.out]
   rfl
 ·have u1:=str_ne hs
  have HZ:Hid (chkOf k n s.size len=2):=if_neg (fun h=>hs h.1)
  clear hs
  go_enter Tryz.func84,Tryz.ntmps84
  go_wp2_with fail
  go_ret
  rw [HZ.out]
  exact⟨rfl,(Chg.refl NoS w).alloc _⟩
inductive VT
 |mk (k n:Int) (s:ByteArray) (l:List VT)
structure VC where
 k:Int
 n:Int
 s:ByteArray
 A:Option Addr
 len:Nat
 cap:Nat
deriving Inhabited
def VC.cells (c:VC):List Value:=[.int .i64 c.k,.int .i64 c.n,.string c.s,.slice c.A c.len c.cap]
def VC.val (c:VC):Value:=.agg #[.int .i64 c.k,.int .i64 c.n,.string c.s,.slice c.A c.len c.cap]
structure VC.Good (c:VC):Prop where
 k:-9223372036854775808<=c.k/\c.k<=9223372036854775807
 n:-9223372036854775808<=c.n/\c.n<=9223372036854775807
 s:c.s.size<=maxLen
 nil:c.A=none->c.len=0/\c.cap=0
 cap:c.len<=c.cap
 len:c.len<=maxLen
mutual
inductive ValIs (w:World):VT->VC->Prop
 |mk (c:VC) (l:List VT) (hg:c.Good) (hl:l.length=c.len) (hr:RowIs w c.A 0 l):ValIs w (.mk c.k c.n c.s l) c
inductive RowIs (w:World):Option Addr->Nat->List VT->Prop
 |nil (A:Option Addr) (j:Nat):RowIs w A j []
 |cons (ad:Addr) (j:Nat) (t:VT) (l:List VT) (e:VC) (hcell:∀ i,i<4->w.cell? (ad.add (j*4+i))=e.cells[i]?) (h:ValIs w t e) (hr:RowIs w (some ad) (j+1) l):RowIs w (some ad) j (t::l)
end
theorem ValIs.good {w:World} {t:VT} {c:VC} (h:ValIs w t c):c.Good:=by cases h with|mk c l hg hl hr=>exact hg
theorem ValIs.inv {w:World} {k n:Int} {s:ByteArray} {l:List VT} {c:VC} (h:ValIs w (.mk k n s l) c):c.k=k/\c.n=n/\c.s=s/\c.Good/\l.length=c.len/\RowIs w c.A 0 l:=by
 cases h with|mk c l hg hl hr=>exact⟨rfl,rfl,rfl,hg,hl,hr⟩
theorem RowIs.inv {w:World} {A:Option Addr} {j:Nat} {t:VT} {l:List VT} (h:RowIs w A j (t::l)):∃ ad e,A=some ad/\(∀ i,i<4->w.cell? (ad.add (j*4+i))=e.cells[i]?)/\ValIs w t e/\RowIs w A (j+1) l:=by
 cases h with|cons ad j t l e hcell h hr=>exact⟨ad,e,rfl,hcell,h,hr⟩
mutual
theorem ValIs.chg {w w':World} (hc:Chg NoS w w'):∀ {t:VT} {c:VC},ValIs w t c->ValIs w' t c
 |_,_,.mk c l hg hl hr=>.mk c l hg hl (RowIs.chg hc hr)
theorem RowIs.chg {w w':World} (hc:Chg NoS w w'):∀ {A:Option Addr} {j:Nat} {l:List VT},RowIs w A j l->RowIs w' A j l
 |_,_,_,.nil A j=>.nil A j
 |_,_,_,.cons ad j t l e hcell h hr=>.cons ad j t l e (fun i hi=>by
   have h0:=hcell i hi
   have hlt:∃ u,e.cells[i]?=some u:=⟨_,List.getElem?_eq_getElem (show i<e.cells.length from hi)⟩
   obtain⟨u,hu⟩:=hlt
   rw [hu] at h0 ⊢
   exact(hc.cell (by exact cell_lt h0) (fun e=>e)).trans h0) (ValIs.chg hc h) (RowIs.chg hc hr)
end
theorem RowIs.start {w:World} {A:Option Addr} {t:VT} {l:List VT} (h:RowIs w A 0 (t::l)):∃ b off,A=some ⟨b,off,none⟩:=by
 obtain⟨⟨b,off,sp⟩,e,rfl,hc,hv,hr⟩:=h.inv
 have h0:=hc 0 (by decide)
 have hs:sp=none:=by simpa [Addr.add] using World.cell?_spot (h0.trans (show e.cells[0]?=some _ from rfl))
 exact⟨b,off,by rw [hs]⟩
theorem RowIs.plain {w:World} {b off j:Nat} {t:VT} {l:List VT} (h:RowIs w (some ⟨b,off,none⟩) j (t::l)):∃ e:VC,
  w.cell? ⟨b,off+j*4,none⟩=some (.int .i64 e.k)/\w.cell? ⟨b,off+j*4+1,none⟩=some (.int .i64 e.n)/\w.cell? ⟨b,off+j*4+2,none⟩=some (.string e.s)/\w.cell? ⟨b,off+j*4+3,none⟩=some (.slice e.A e.len e.cap)/\ValIs w t e/\RowIs w (some ⟨b,off,none⟩) (j+1) l:=by
 obtain⟨ad,e,hA,hc,hv,hr⟩:=h.inv
 cases hA
 have hadd:∀ i,(⟨b,off,none⟩:Addr).add i=⟨b,off+i,none⟩:=fun i=>by unfold Addr.add;split<;>simp_all
 have h0:=hc 0 (by decide)
 have h1:=hc 1 (by decide)
 have h2:=hc 2 (by decide)
 have h3:=hc 3 (by decide)
 rw [hadd] at h0 h1 h2 h3
 exact⟨e,h0,h1,h2,h3,hv,hr⟩
mutual
def sizT:VT->Nat
 |.mk _ _ _ l=>sizL l+1
def sizL:List VT->Nat
 |[]=>0
 |t::l=>sizT t+sizL l
end
mutual
def fewT:VT->Int->Int
 |.mk _ _ _ l,left=>fewL l (left-1)
def fewL:List VT->Int->Int
 |[],left=>left
 |t::l,left=>if 0<=left then fewL l (fewT t left) else left
end
theorem sizT_mk (k n:Int) (s:ByteArray) (l:List VT):sizT (.mk k n s l)=sizL l+1:=by rw [sizT]
theorem sizL_cons (t:VT) (l:List VT):sizL (t::l)=sizT t+sizL l:=by rw [sizL]
theorem sizL_at {l:List VT} {j:Nat} {t:VT} (h:l[j]?=some t):sizT t<=sizL l:=by
 induction l generalizing j with
 |nil=>simp at h
 |cons x l ih =>
  rw [sizL_cons]
  cases j with
  |zero=>simp at h;subst h;omega
  |succ j=>have:=ih (by simpa using h);omega
theorem fewL_cons (t:VT) (l:List VT) (left:Int):fewL (t::l) left=if 0<=left then fewL l (fewT t left) else left:=by rw [fewL]
theorem fewL_neg (l:List VT) {left:Int} (h:¬0<=left):fewL l left=left:=by
 cases l with
 |nil=>rw [fewL]
 |cons t l=>rw [fewL_cons,if_neg h]
mutual
theorem fewT_le:∀ (t:VT) (left:Int),fewT t left<=left-1
 |.mk _ _ _ l,left=>by rw [fewT];exact fewL_le l (left-1)
theorem fewL_le:∀ (l:List VT) (left:Int),fewL l left<=left
 |[],left=>by rw [fewL];exact Int.le_refl _
 |t::l,left=>by
  rw [fewL_cons]
  split
  ·have:=fewT_le t left
   have:=fewL_le l (fewT t left)
   omega
  ·exact Int.le_refl _
end
mutual
theorem fewT_ge:∀ (t:VT) (left:Int),-1<=left->-2<=fewT t left/\(0<=left->-1<=fewT t left)
 |.mk _ _ _ l,left=>fun h=>by
  rw [fewT]
  by_cases h0:0<=left
  ·have:=fewL_ge l (left-1) (by omega);omega
  ·rw [fewL_neg l (by omega)];omega
theorem fewL_ge:∀ (l:List VT) (left:Int),-1<=left->-1<=fewL l left
 |[],left=>fun h=>by rw [fewL];exact h
 |t::l,left=>fun h=>by
  rw [fewL_cons]
  split
  ·next h0=>exact fewL_ge l (fewT t left) ((fewT_ge t left h).2 h0)
  ·exact h
end
theorem ret_v64 {a b:Int} (h:a=b):Ending.returned (.int .i64 a)=.returned (.int .i64 b):=by rw [h]
theorem drop_vt {l:List VT} {k:Nat} (h:k<l.length):∃ t,l[k]?=some t/\l.drop k=t::l.drop (k+1):=⟨l[k],List.getElem?_eq_getElem h,List.drop_eq_getElem_cons h⟩
theorem RowIs.at_ {w w':World} {b off j:Nat} {t:VT} {l:List VT} (h:RowIs w (some ⟨b,off,none⟩) j (t::l)) (hc:Chg NoS w w'):∃ (ek en:Int) (es:ByteArray) (eA:Option Addr) (el ec:Nat),
  w'.cell? ⟨b,off+j*4,none⟩=some (.int .i64 ek)/\w'.cell? ⟨b,off+j*4+1,none⟩=some (.int .i64 en)/\w'.cell? ⟨b,off+j*4+2,none⟩=some (.string es)/\w'.cell? ⟨b,off+j*4+3,none⟩=some (.slice eA el ec)/\ValIs w' t ⟨ek,en,es,eA,el,ec⟩/\RowIs w (some ⟨b,off,none⟩) (j+1) l:=by
 obtain⟨⟨ek,en,es,eA,el,ec⟩,h0,h1,h2,h3,hv,hr⟩:=h.plain
 refine⟨ek,en,es,eA,el,ec,?_,?_,?_,?_,hv.chg hc,hr⟩
 ·exact(hc.cell (p:=⟨b,_,none⟩) (by exact cell_lt h0) (fun e=>e)).trans h0
 ·exact(hc.cell (p:=⟨b,_,none⟩) (by exact cell_lt h1) (fun e=>e)).trans h1
 ·exact(hc.cell (p:=⟨b,_,none⟩) (by exact cell_lt h2) (fun e=>e)).trans h2
 ·exact(hc.cell (p:=⟨b,_,none⟩) (by exact cell_lt h3) (fun e=>e)).trans h3
set_option maxHeartbeats 2000000 in
set_option maxRecDepth 100000 in
theorem rfew_in:∀ (N:Nat) (t:VT),sizT t<=N->∀ (c:VC) (left:Int) (w:World),ValIs w t c->-1<=left->left<=1000000000 ->
  Calls Tryz.prog 23 #[c.val,.int .i64 left] w fun e w'=>e=.returned (.int .i64 (fewT t left))/\Chg NoS w w':=by
 intro N
 induction N with
 |zero =>
  intro t ht
  obtain⟨k,n,s,l⟩:=t
  rw [sizT_mk] at ht
  omega
 |succ N ih =>
  intro t ht c left w hv hb1 hb2
  obtain⟨tk,tn,ts,l⟩:=t
  obtain⟨h1,h2,h3,hg,hl,hr⟩:=hv.inv
  obtain⟨ck,cn,cs,A,len,cap⟩:=c
  simp only [] at h1 h2 h3 hl hr
  rw [sizT_mk] at ht
  have hcap:=hg.cap
  have hlm:=hg.len
  simp only [] at hcap hlm
  unfold maxLen at hlm
  have HL:=kf hl
  have HR:=kf hr
  have HF:=kf (show fewT (.mk tk tn ts l) left=fewL l (left-1) from by rw [fewT])
  have HIH:=kf (fun(t':VT) (ht':sizT t'<=sizL l)=>ih t' (by omega))
  unfold VC.val
  have HB:=kf (Blk.new w 25 #[.int .i64 ck,.int .i64 cn,.string cs,.slice A len cap])
  have HC0:=kf ((Chg.refl NoS w).alloc (.cells #[.int .i64 ck,.int .i64 cn,.string cs,.slice A len cap] 25))
  obtain⟨W0,hW⟩:∃ W0,W0=w.alloc (.cells #[.int .i64 ck,.int .i64 cn,.string cs,.slice A len cap] 25):=⟨_,rfl⟩
  obtain⟨g,hgg⟩:∃ g,g=w.heap.size:=⟨_,rfl⟩
  rw [<- hW] at HB HC0
  rw [<- hgg] at HB
  clear hv h1 h2 h3 hg hl hr ih ht
  go_enter Tryz.func23,Tryz.ntmps23
  go_upto_region 3 with fail
  rw [<- hgg,<- hW]
  clear hgg hW
  go_loopw [1,5] (fun vl vk wr=>∃ (k:Nat) (le:Int),k<=len/\-2<=le/\le<=1000000000/\vl=.int .i64 le/\vk=.int .i64 (k:Nat)/\Hid (Chg NoS W0 wr)/\Hid (RowIs w A k (l.drop k))/\Hid (fewL l (left-1)=fewL (l.drop k) le)) (fun _ vk _=>len-(intOf vk).toNat)
  case atStart=>exact⟨0,left-1,by omega,by omega,by omega,rfl,rfl,Chg.refl _ _,by rw [List.drop_zero];exact HR.out,kf (by rw [List.drop_zero])⟩
  case round =>
   obtain⟨k,le,hk,hle1,hle2,rfl,rfl,HCW,HRW,HFW⟩:=hrel
   have HBW:=kf (HB.out.chg HCW.out (fun e=>e))
   have HCR:=kf (HC0.out.trans HCW.out (fun _ _ e=>e))
   have q3:=HBW.out.cell 3
   simp at q3
   by_cases h1:k<len
   ·by_cases h2:0<=le
    ·obtain⟨t',ht',hd⟩:=drop_vt (l:=l) (k:=k) (by rw [HL.out];exact h1)
     obtain⟨b,off,rfl⟩:∃ b off,A=some ⟨b,off,none⟩:=by
      have h:=HR.out
      cases hll:l with
      |nil=>rw [hll] at ht';simp at ht'
      |cons t0 l0=>rw [hll] at h;exact h.start
     have hrw:=HRW.out
     rw [hd] at hrw
     obtain⟨ek,en,es,eA,el,ec,c0,c1,c2,c3,hv',hr'⟩:=hrw.at_ HCR.out
     have hge:=(fewT_ge t' le (by omega)).2 h2
     have hlt:=fewT_le t' le
     have HX:=kf (HIH.out t' (sizL_at ht') ⟨ek,en,es,eA,el,ec⟩ le wr hv' (by omega) hle2)
     unfold VC.val at HX
     simp only [] at HX
     have HRN:=kf hr'
     have HFN:=kf (show fewL l (left-1)=fewL (l.drop (k+1)) (fewT t' le) from by rw [HFW.out,hd,fewL_cons,if_pos h2])
     obtain⟨r,hr9⟩:∃ r,r=fewT t' le:=⟨_,rfl⟩
     rw [<- hr9] at HX HFN hge hlt
     have i1:(k:Int)<len:=by omega
     clear hrw hv' hr' hd ht' hr9
     go_wp2_with (go_at_call 23;refine HX.out.mono ?_;rintro e w3 ⟨rfl,hc3⟩;have HC3:=kf (HCW.out.trans hc3 (fun _ _ e=>e));clear hc3)
     go_roundw
     case rel=>exact⟨k+1,r,by omega,by omega,by omega,rfl,by go_num,HC3,HRN,HFN⟩
     case measure=>simp [intOf];omega
    ·have d1:decide (0<=le)=false:=by simpa using h2
     have HE:=kf (fewL_neg (l.drop k) h2)
     clear h2
     go_wp2_with fail
     go_ret
     exact⟨ret_v64 (by rw [HF.out,HFW.out,HE.out]),HCR.out⟩
   ·obtain rfl:k=len:=by omega
    have HE:=kf (show fewL (l.drop k) le=le from by rw [List.drop_of_length_le (by rw [HL.out];exact Nat.le_refl _),fewL])
    go_wp2_with fail
    go_ret
    exact⟨ret_v64 (by rw [HF.out,HFW.out,HE.out]),HCR.out⟩
theorem rfew_any (t:VT) (c:VC) (left:Int) (w:World) (hv:ValIs w t c) (h1:-1<=left) (h2:left<=1000000000) :
  Calls Tryz.prog 23 #[c.val,.int .i64 left] w fun e w'=>e=.returned (.int .i64 (fewT t left))/\Chg NoS w w':=rfew_in _ t (Nat.le_refl _) c left w hv h1 h2
def VT.kind:VT->Int|.mk k _ _ _=>k
def VT.num:VT->Int|.mk _ n _ _=>n
def VT.str:VT->ByteArray|.mk _ _ s _=>s
def textO (s:ByteArray):Prop:=(∀ d∈sl s,d≠0)/\s.size<=127
instance (s:ByteArray):Decidable (textO s):=inferInstanceAs (Decidable (_/\_))
set_option maxHeartbeats 1000000 in
theorem rtext11_any (s:ByteArray) (w:World) (hl:s.size<=maxLen) :
  Calls Tryz.prog 86 #[.string s] w fun e w'=>e=.returned (.bool (decide (textO s)))/\w=w':=by
 unfold maxLen at hl
 obtain⟨n,hn⟩:∃ n,s.size=n:=⟨_,rfl⟩
 have HLN:Hid ((sl s).length=n):=by show _=_;rw [sl_len,hn]
 have HAT:=kf (fun k (h:k<n)=>(fun h2=>sl_at s k h2:∀ h2:k<s.size,(s[k]'h2).toNat=(sl s).getD k 0))
 have HGT:=kf (fun k (h:k<n)=>sl_get (s:=s) (k:=k) (by rw [hn];exact h))
 have HSZ:=kf hn
 rw [hn] at hl
 go_enter Tryz.func86,Tryz.ntmps86
 go_wp2_with fail
 go_loop [3] (fun vk=>∃ k:Nat,k<=n/\vk=.int .i64 (k:Nat)/\Hid (∀ d∈(sl s).take k,d≠0)) (fun vk=>n-(intOf vk).toNat)
 case atStart=>exact⟨0,Nat.zero_le _,by go_num,fun d hd=>by simp at hd⟩
 case round =>
  obtain⟨k,hk,rfl,HD⟩:=hrel
  by_cases hlt:k<n
  ·obtain⟨x,hx⟩:∃ x,(sl s).getD k 0=x:=⟨_,rfl⟩
   have hxa:=HAT.out k hlt
   have HG:=HGT.out k hlt
   rw [hx] at hxa HG
   have HGX:=kf HG
   clear hx HG
   have i0:(k:Int)<n:=by omega
   by_cases h0:x=0
   ·subst h0
    have HB:Hid (decide (textO s)=false):=by
     show _=_
     rw [decide_eq_false_iff_not]
     exact fun h=>h.1 0 (List.mem_of_getElem? HGX.out) rfl
    go_wp2_with fail
    go_ret
    rw [HB.out]
    exact⟨rfl,rfl⟩
   ·have d0:((x:Int)==0)=false:=by simpa using h0
    have d0':(x==0)=false:=by simpa using h0
    have HX0:=kf h0
    clear h0
    go_wp2_with fail
    go_round
    case rel =>
     refine⟨k+1,by omega,by go_num,?_⟩
     show ∀ d∈(sl s).take (k+1),d≠0
     rw [take_snoc HGX.out]
     intro d hd
     rcases List.mem_append.1 hd with h|h
     ·exact HD.out d h
     ·rw [List.mem_singleton] at h
      subst h
      exact HX0.out
    case measure=>simp [intOf];omega
  ·obtain rfl:n=k:=by omega
   have HALL:Hid (∀ d∈sl s,d≠0):=by
    have h:=HD.out
    rwa [List.take_of_length_le (by rw [HLN.out];exact Nat.le_refl _)] at h
   by_cases h127:n<=127
   ·have d1:decide ((n:Int)<=127)=true:=by simp;omega
    have d1':decide (n<=127)=true:=by simp;omega
    have HB:Hid (decide (textO s)=true):=by
     show _=_
     rw [decide_eq_true_iff]
     exact⟨HALL.out,by rw [HSZ.out];exact h127⟩
    go_wp2_with fail
    go_ret
    rw [HB.out]
    exact⟨rfl,rfl⟩
   ·have d1:decide ((n:Int)<=127)=false:=by simp;omega
    have d1':decide (n<=127)=false:=by simp;omega
    have HB:Hid (decide (textO s)=false):=by
     show _=_
     rw [decide_eq_false_iff_not]
     exact fun h=>h127 (by rw [<- HSZ.out];exact h.2)
    go_wp2_with fail
    go_ret
    rw [HB.out]
    exact⟨rfl,rfl⟩
end Go.Proofs.YthejpkflcgjdoaaGreatDoor
