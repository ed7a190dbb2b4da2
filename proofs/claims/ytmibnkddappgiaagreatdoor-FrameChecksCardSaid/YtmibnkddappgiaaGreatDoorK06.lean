import Derived.Test.YtmibnkddappgiaaGreatDoorK01
import Derived.Test.YtmibnkddappgiaaGreatDoorK02
import Derived.Test.YtmibnkddappgiaaGreatDoorK05
import Derived.Deep.AppendLies
set_option linter.unusedVariables false
set_option maxHeartbeats 64000000
set_option maxRecDepth 100000
set_option linter.unusedSimpArgs false
namespace Go.Proofs.YtmibnkddappgiaaGreatDoor
open Go.RowKit
def z7g (key:ByteArray) (t:VT):Prop:=t.kind=5/\t.str=key
open Classical in
noncomputable def z0n (key:ByteArray):List VT->Option Nat
 |[]=>none
 |[t]=>if z7g key t then some 0 else none
 |t::_::l=>if z7g key t then some 0 else(z0n key l).map (·+ 1)
theorem z16 (key:ByteArray):z0n key []=none:=by rw [z0n]
theorem z1b {key:ByteArray} {t:VT} {l:List VT} (h:z7g key t):z0n key (t::l)=some 0:=by
 cases l with
 |nil=>rw [z0n,if_pos h]
 |cons u l=>rw [z0n,if_pos h]
theorem z3s {key:ByteArray} {t:VT} {l:List VT} (h:¬z7g key t):z0n key (t::l)=(z0n key (l.drop 1)).map (·+ 1):=by
 cases l with
 |nil=>rw [z0n,if_neg h,List.drop_nil,z16];rfl
 |cons u l=>rw [z0n,if_neg h,List.drop_succ_cons,List.drop_zero]
theorem z92 (key:ByteArray):∀ (N:Nat) (l:List VT),l.length<=N->∀ j,z0n key l=some j->2*j<l.length:=by
 intro N;induction N using Nat.strongRecOn with
 |_ N ih =>
  intro l hl j h;cases l with
  |nil=>rw [z16] at h;cases h
  |cons t l =>
   by_cases ht:z7g key t
   ·rw [z1b ht] at h;cases h;simp
   ·rw [z3s ht] at h;cases hf:z0n key (l.drop 1) with
    |none=>rw [hf] at h;cases h
    |some i =>
     rw [hf] at h;simp only [Option.map_some,Option.some.injEq] at h;subst h;rw [List.length_cons] at hl;have h2:=ih (N-1) (by omega) (l.drop 1) (by rw [List.length_drop];omega) i hf;rw [List.length_drop] at h2;rw [List.length_cons];omega
theorem y9e (t:VT):1<=z1h t:=by
 obtain⟨k,n,s,l⟩:=t;rw [z0f];omega
theorem z63:∀ (l:List VT),l.length<=z1n l:=by
 intro l;induction l with
 |nil=>exact Nat.zero_le _
 |cons t l ih =>
  rw [z08,List.length_cons];have:=y9e t;omega
noncomputable def z1c (k:Int) (l:List VT) (key:ByteArray):Int:=if k=7 then(match z0n key l with|some j=>((2*j:Nat):Int)|none=>-1) else -1
theorem y5u (c:VC) (l:List VT) (key:ByteArray) (w:World) (hv:ValIs w (.mk c.k c.n c.s l) c) (hsz:z1n l<=1000000000) :
  Calls Tryz.prog 21 #[c.val,.string key] w fun e w'=>e=.returned (.int .i64 (z1c c.k l key))/\Chg NoS w w':=by
 obtain⟨_,_,_,hg,hl,hr⟩:=hv.inv;obtain⟨k,n,s,A,len,cap⟩:=c;simp only [] at hl hr;have hcap:=hg.cap;have hlm:=hg.len;simp only [] at hcap hlm;unfold maxLen at hlm;unfold VC.val;simp only [];have HB:=kf (Blk.new w 24 #[.int .i64 k,.int .i64 n,.string s,.slice A len cap]);have HC0:=kf ((Chg.refl NoS w).alloc (.cells #[.int .i64 k,.int .i64 n,.string s,.slice A len cap] 24));obtain⟨W0,hW⟩:∃ W0,W0=w.alloc (.cells #[.int .i64 k,.int .i64 n,.string s,.slice A len cap] 24):=⟨_,rfl⟩
 obtain⟨g,hgg⟩:∃ g,g=w.heap.size:=⟨_,rfl⟩
 rw [<- hW] at HB HC0;rw [<- hgg] at HB;have p0:=HB.out.cell 0;have p3:=HB.out.cell 3;simp at p0 p3;have hl9:len<=1000000000:=by have:=z63 l;omega
 have HL:=kf hl;have HR:=kf hr;clear hv hg hl hr hsz hlm;by_cases h7:k=7
 ·subst h7;have HF:=kf (show z1c 7 l key=(match z0n key l with|some j=>((2*j:Nat):Int)|none=>-1) from if_pos rfl);go_enter Tryz.func21,Tryz.ntmps21;go_upto_region 1 with fail;rw [<- hgg,<- hW];clear hgg hW;go_upto_region 2 with fail;go_loop [5] (fun vk=>∃ j:Nat,2*j<=len+1/\vk=.int .i64 ((2*j:Nat):Int)/\Hid (z0n key l=(z0n key (l.drop (2*j))).map (·+ j))) (fun vk=>len+1-(intOf vk).toNat)
  case atStart=>exact⟨0,by omega,by go_num,by show _=_;rw [Nat.mul_zero,List.drop_zero];simp⟩
  case round =>
   obtain⟨j,hj,rfl,HN⟩:=hrel;obtain⟨q,hq⟩:∃ q,q=2*j:=⟨_,rfl⟩
   rw [<- hq] at hj HN ⊢;have HQ:=kf hq;clear hq;by_cases h1:q<len
   ·obtain⟨t,ht,hd⟩:=z0s (l:=l) (k:=q) (by rw [HL.out];exact h1)
    obtain⟨b,off,rfl⟩:∃ b off,A=some ⟨b,off,none⟩:=by
     have h:=HR.out;cases hll:l with
     |nil=>rw [hll] at ht;simp at ht
     |cons t0 l0=>rw [hll] at h;exact h.start
    obtain⟨eA,el,ec,c0,_,c2,_,_⟩:=HR.out.nth HC0.out ht;have i1:(q:Int)<len:=by omega
    obtain⟨tk,htk⟩:∃ tk,t.kind=tk:=⟨_,rfl⟩
    obtain⟨ts,hts⟩:∃ ts,t.str=ts:=⟨_,rfl⟩
    rw [htk] at c0;rw [hts] at c2;have HDD:=kf hd;by_cases hh:tk=5/\ts=key
    ·obtain⟨rfl,rfl⟩:=hh
     have HE:Hid (z1c 7 l ts=(q:Int)):=by
      show _=_;rw [HF.out,HN.out,hd,z1b ⟨htk,hts⟩];show(((2*(0+j):Nat):Int))=_;rw [HQ.out,Nat.zero_add]
     clear ht htk hts hd HN;go_wp2_with fail;go_ret;exact⟨z00 HE.out.symm,HC0.out⟩
    ·have HNN:Hid (z0n key l=(z0n key (l.drop (q+2))).map (·+ (j+1))):=by
      show _=_;rw [HN.out,hd,z3s (fun h=>hh ⟨by rw [<- htk];exact h.1,by rw [<- hts];exact h.2⟩),List.drop_drop,Option.map_map];congr 1;funext x;show x+1+j=x+(j+1);omega
     by_cases h5:tk=5
     ·subst h5;have hsk:¬ts.toList=key.toList:=z10 (fun h=>hh ⟨rfl,h⟩);have f1:(ts.toList==key.toList)=false:=by simpa using hsk
      clear ht htk hts hd HN hh;go_wp2_with fail;go_round
      case rel=>exact⟨j+1,by have:=HQ.out;omega,by have:=HQ.out;first|(go_num;done)|(go_num;omega),by have h:=HNN.out;rw [HQ.out] at h;exact h⟩
      case measure=>simp [intOf];omega
     ·have e5:(tk==5)=false:=by simpa using h5
      clear ht htk hts hd HN hh h5;go_wp2_with fail;go_round
      case rel=>exact⟨j+1,by have:=HQ.out;omega,by have:=HQ.out;first|(go_num;done)|(go_num;omega),by have h:=HNN.out;rw [HQ.out] at h;exact h⟩
      case measure=>simp [intOf];omega
   ·have HE:Hid (z1c 7 l key=-1):=by
     show _=_;rw [HF.out,HN.out,List.drop_of_length_le (by rw [HL.out];omega),z16];rfl
    have d1:decide ((q:Int)<len)=false:=by simp;omega
    have d1':decide (q<len)=false:=by simp;omega
    go_wp2_with fail;go_ret;exact⟨z00 HE.out.symm,HC0.out⟩
 ·have e7:(k==7)=false:=by simpa using h7
  have HE:=kf (show z1c k l key=-1 from if_neg h7);clear h7;go_enter Tryz.func21,Tryz.ntmps21;go_upto_region 1 with fail;rw [<- hgg,<- hW];clear hgg hW;go_upto_region 2 with fail;go_loop [5] (fun vk=>vk=.int .i64 0) (fun _=>0)
  case atStart=>rfl
  case round =>
   obtain rfl:=hrel;go_wp2_with fail;go_ret;exact⟨z00 HE.out.symm,HC0.out⟩
structure PB (w W:World) (g:Nat) (cs:Array Value):Prop where
 blk:Blk W g 24 cs
 new:w.heap.size<=g
theorem PB.call {w W W':World} {g:Nat} {cs:Array Value} (h:PB w W g cs) (hc:Chg NoS W W'):PB w W' g cs:=⟨h.blk.chg hc (fun h=>h),h.new⟩
theorem PB.alloc {w W:World} {g:Nat} {cs:Array Value} (h:PB w W g cs) (o:Obj):PB w (W.alloc o) g cs:=⟨h.blk.alloc o,h.new⟩
theorem PB.drew {w W:World} {g:Nat} {cs:Array Value} (h:PB w W g cs):PB w W.drew g cs:=⟨h.blk.drew,h.new⟩
theorem PB.set {w W:World} {g:Nat} {cs:Array Value} (h:PB w W g cs) (i:Nat) (u:Value):PB w (W.setCell ⟨g,i,none⟩ u) g (cs.setIfInBounds i u):=⟨h.blk.set_ i u,h.new⟩
theorem PB.far {w W:World} {g g':Nat} {cs:Array Value} (h:PB w W g cs) (hg:g≠g') (i:Nat) (u:Value):PB w (W.setCell ⟨g',i,none⟩ u) g cs:=⟨h.blk.far (p:=⟨g',i,none⟩) hg u,h.new⟩
theorem PB.chg {w W:World} {g:Nat} {cs:Array Value} (h:PB w W g cs) (hc:Chg NoS w W) (i:Nat) (u:Value):Chg NoS w (W.setCell ⟨g,i,none⟩ u) :=
 hc.setCell (p:=⟨g,i,none⟩) (fun h2=>absurd h2 (Nat.not_lt.2 h.new)) u
theorem PB.set4 {w W:World} {g:Nat} {cs:Array Value} {a b c d:Value} (h:PB w W g cs) (hc:Chg NoS w W) (hz:cs.size=4) :
  PB w ((((W.setCell ⟨g,0,none⟩ a).setCell ⟨g,1,none⟩ b).setCell ⟨g,2,none⟩ c).setCell ⟨g,3,none⟩ d) g #[a,b,c,d]/\Chg NoS w ((((W.setCell ⟨g,0,none⟩ a).setCell ⟨g,1,none⟩ b).setCell ⟨g,2,none⟩ c).setCell ⟨g,3,none⟩ d):=by
 have h4:=(((h.set 0 a).set 1 b).set 2 c).set 3 d;refine⟨?_,((((h.set 0 a).set 1 b).set 2 c).chg ((((h.set 0 a).set 1 b).chg ((h.set 0 a).chg (h.chg hc 0 a) 1 b) 2 c)) 3 d)⟩;obtain⟨l⟩:=cs;match l,hz with
 |[x0,x1,x2,x3],_=>exact h4
theorem PB.far4 {w W:World} {g g':Nat} {cs:Array Value} {a b c d:Value} (h:PB w W g cs) (hg:g≠g') :
  PB w ((((W.setCell ⟨g',0,none⟩ a).setCell ⟨g',1,none⟩ b).setCell ⟨g',2,none⟩ c).setCell ⟨g',3,none⟩ d) g cs:=(((h.far hg 0 a).far hg 1 b).far hg 2 c).far hg 3 d
def z1i:VT:=.mk 0 0 ⟨#[]⟩ []
theorem z2p (w:World):ValIs w z1i ⟨0,0,⟨#[]⟩,none,0,0⟩:=.mk ⟨0,0,⟨#[]⟩,none,0,0⟩ [] ⟨by decide,by decide,by decide,fun _=>⟨rfl,rfl⟩,Nat.le_refl _,Nat.zero_le _⟩ rfl (.nil _ _)
noncomputable def z1a (k:Int) (l:List VT) (key:ByteArray):VT × Bool:=if k=7 then(match z0n key l with|some j=>((l[2*j+1]?).getD z1i,true)|none=>(z1i,false)) else(z1i,false)
theorem v7o {k:Int} {l:List VT} {key:ByteArray} (h:z1c k l key<0):z1a k l key=(z1i,false):=by
 unfold z1c at h;unfold z1a;by_cases h7:k=7
 ·rw [if_pos h7] at h ⊢;cases hf:z0n key l with
  |none=>rfl
  |some j=>rw [hf] at h;simp only [] at h;omega
 ·rw [if_neg h7]
theorem v7p {k:Int} {l:List VT} {key:ByteArray} (h:¬z1c k l key<0):∃ j:Nat,z1c k l key=((2*j:Nat):Int)/\2*j<l.length/\z1a k l key=((l[2*j+1]?).getD z1i,true):=by
 unfold z1c at h ⊢;unfold z1a;by_cases h7:k=7
 ·rw [if_pos h7] at h ⊢;rw [if_pos h7];cases hf:z0n key l with
  |none=>rw [hf] at h;simp at h
  |some j=>exact⟨j,rfl,z92 key _ l (Nat.le_refl _) j hf,rfl⟩
 ·rw [if_neg h7] at h;exact absurd (by decide) h
def GetTo (w:World) (t:VT × Bool) (e:Ending) (w':World):Prop:=∃ c':VC,e=.returned (.tuple #[c'.val,.bool t.2])/\ValIs w' t.1 c'/\Chg NoS w w'
theorem GetTo.of {w w':World} {t:VT × Bool} {u:VT} {b:Bool} (h:t=(u,b)) (c:VC) (hv:ValIs w' u c) (hc:Chg NoS w w'):GetTo w t (.returned (.tuple #[c.val,.bool b])) w':=by
 subst h;exact⟨c,rfl,hv,hc⟩
def z04 (es:List VC):List Value:=es.flatMap VC.cells
theorem z3l (a b:List VC):z04 (a++b)=z04 a++z04 b:=by simp [z04]
theorem y3t (e:VC):z04 [e]=e.cells:=by simp [z04]
theorem z25 (es:List VC):(z04 es).length=es.length*4:=by
 induction es with
 |nil=>rfl
 |cons e es ih =>
  rw [show z04 (e::es)=e.cells++z04 es from rfl,List.length_append,ih,List.length_cons,show e.cells.length=4 from rfl];omega
theorem z3y (es:List VC):∀ u∈z04 es,u.oneCell'=true:=by
 intro u hu;obtain⟨e,_,h⟩:=List.mem_flatMap.1 hu;unfold VC.cells at h;simp only [List.mem_cons,List.not_mem_nil,or_false] at h;rcases h with rfl|rfl|rfl|rfl<;>rfl
theorem z2n:∀ {es:List VC} {j i:Nat} {e:VC},es[j]?=some e->i<4->(z04 es)[j*4+i]?=e.cells[i]?:=by
 intro es;induction es with
 |nil=>intro j i e h;simp at h
 |cons x es ih =>
  intro j i e h hi;rw [show z04 (x::es)=x.cells++z04 es from rfl];cases j with
  |zero =>
   simp at h;subst h;rw [Nat.zero_mul,Nat.zero_add,List.getElem?_append_left (by exact hi)]
  |succ j =>
   have h4:x.cells.length=4:=rfl;rw [List.getElem?_append_right (by rw [h4];omega),h4,show(j+1)*4+i-4=j*4+i from by omega];exact ih (by simpa using h) hi
structure GV (w wr:World) (es:List VC) (ts:List VT) (n:Nat) (A:Option Addr) (c:Nat):Prop where
 own:wr.ownsRow 0 24 4 (.slice A n c) n (z04 es)
 chg:Chg NoS w wr
 new:∀ a,A=some a->w.heap.size<=a.block
 len:es.length=n
 tlen:ts.length=n
 is:∀ (j:Nat) (t:VT) (e:VC),ts[j]?=some t->es[j]?=some e->ValIs w t e
theorem GV.start {w wr:World} (h:Chg NoS w wr):GV w wr [] [] 0 none 0:=⟨z43 wr 0 _ 4,h,fun _ h=>(by cases h),rfl,rfl,fun j t e h=>(by simp at h)⟩
theorem GV.far {w wr:World} {es:List VC} {ts:List VT} {n c g:Nat} {A:Option Addr} (h:GV w wr es ts n A c) (hne:(Value.slice A n c).ownBlock≠some g) (hg:w.heap.size<=g) (i:Nat) (u:Value):GV w (wr.setCell ⟨g,i,none⟩ u) es ts n A c :=
 ⟨z0p (S:=fun x=>x=g) h.own (Chg.setCell (S:=fun x=>x=g) (Chg.refl (fun x=>x=g) wr) (p:=⟨g,i,none⟩) (fun _=>rfl) u) (fun g' hg' e=>hne (by rw [hg',e])),h.chg.setCell (p:=⟨g,i,none⟩) (fun h2=>absurd h2 (Nat.not_lt.2 hg)) u,h.new,h.len,h.tlen,h.is⟩
theorem GV.row {w wr:World} {es:List VC} {ts:List VT} {n c:Nat} {A:Option Addr} (h:GV w wr es ts n A c):RowIs wr A 0 ts:=by
 have hsrc:=z8h h.own;rcases A with _|ad
 ·have h0:=(hsrc.2.1 rfl).1;have h1:=h.tlen;rw [h0] at h1;rw [List.eq_nil_of_length_eq_zero h1];exact .nil _ _
 ·have key:∀ (m j:Nat),j+m=n->RowIs wr (some ad) j (ts.drop j):=by
   intro m;induction m with
   |zero =>
    intro j hj;rw [List.drop_of_length_le (by rw [h.tlen];omega)];exact .nil _ _
   |succ m ih =>
    intro j hj;have hjt:j<ts.length:=by rw [h.tlen];omega
    have hje:j<es.length:=by rw [h.len];omega
    rw [List.drop_eq_getElem_cons hjt];refine .cons ad j _ _ es[j] (fun i hi=>?_) ((h.is j _ _ (List.getElem?_eq_getElem hjt) (List.getElem?_eq_getElem hje)).chg h.chg) (ih (j+1) (by omega));have h1:=z2n (List.getElem?_eq_getElem hje) hi;rw [List.getElem?_eq_getElem (show i<es[j].cells.length from hi)] at h1 ⊢;exact hsrc.2.2 ad rfl _ _ h1
  have:=key n 0 (by omega);rwa [List.drop_zero] at this
theorem GV.good {w wr:World} {es:List VC} {ts:List VT} {n c:Nat} {A:Option Addr} (h:GV w wr es ts n A c) (hn:n<=maxLen):(A=none->n=0/\c=0)/\n<=c:=by
 rcases h.own.2 with⟨h1,h0⟩|⟨g',cap,cur,h1,hb,hh,h2,h3,_⟩
 ·simp only [Value.slice.injEq] at h1;obtain⟨rfl,_,rfl⟩:=h1;exact⟨fun _=>⟨h0,rfl⟩,by omega⟩
 ·simp only [Value.slice.injEq] at h1;obtain⟨rfl,_,rfl⟩:=h1;exact⟨fun e=>(by cases e),h2⟩
theorem GV.val {w wr:World} {es:List VC} {ts:List VT} {n c:Nat} {A:Option Addr} (h:GV w wr es ts n A c) (hn:n<=maxLen) (k v:Int) (s:ByteArray) (hk:-9223372036854775808<=k/\k<=9223372036854775807) (hv:-9223372036854775808<=v/\v<=9223372036854775807) (hs:s.size<=maxLen) :
  ValIs wr (.mk k v s ts) ⟨k,v,s,A,n,c⟩ :=
 .mk ⟨k,v,s,A,n,c⟩ ts ⟨hk,hv,hs,(h.good hn).1,(h.good hn).2,hn⟩ h.tlen h.row
theorem z8x:(Tryz.prog.info? 24).map (fun i=>(i.zero,i.size,i.bytes))=some (some (.agg #[.int .i64 0,.int .i64 0,.string ⟨#[]⟩,.slice none 0 0]),4,56):=by kernel_rfl
theorem z2y {o:Option TypeInfo} {z:Value} {a b:Nat} (h:o.map (fun i=>(i.zero,i.size,i.bytes))=some (some z,a,b)):∃ i,o=some i/\i.zero=some z/\i.size=a/\i.bytes=b:=by
 rcases o with _|i
 ·cases h
 ·simp at h;exact⟨i,rfl,h.1,h.2.1,h.2.2⟩
theorem q0v {w wr W:World} {ops:Array Oper} {rest:List Oper} {o:Oper} {a:Act} {Q:Exit->Act->World->Prop} {es new:List VC} {ts tn:List VT} {n c m cx:Nat} {A X:Option Addr} (hgd:o.guard=none) (s x:Operand)
  (ho:o.op=.call { callee:=.builtin .append,args:=#[s,x],argTypes:=#[22,22] }) (hs:a.eval s=.slice A n c) (hx:a.eval x=.slice X m cx)
  (h:GV w wr es ts n A c) (hc:Chg NoS wr W) (hn:n<=2000000000) (hm:m<=2000000000) (hsrc:Src W 4 X m cx (z04 new)) (hlen:new.length=m) (htl:tn.length=m) (his:∀ (j:Nat) (t:VT) (e:VC),tn[j]?=some t->new[j]?=some e->ValIs w t e)
  (k:∀ A3 c3 w',GV w w' (es++new) (ts++tn) (n+m) A3 c3->(∀ (g:Nat) (T:TypeId) (cs:Array Value),Blk W g T cs->(Value.slice A n c).ownBlock≠some g->Blk w' g T cs/\(Value.slice A3 (n+m) c3).ownBlock≠some g)->wpList Tryz.prog ops Q rest (a.put o.dst (.slice A3 (n+m) c3)) w') :
  wpList Tryz.prog ops Q (o::rest) a W:=by
 obtain⟨i0,hi,hz0,hz1,hz2⟩:=z2y z8x;refine z52 hgd s x 22 ho 24 i0 _ 4 56 Tryz.underlying22 hi hz0 hz1 hz2 rfl (by decide) (.slice A n c) n (z04 es) hs (z0p (S:=NoS) h.own hc (fun _ _ e=>e)) X m cx (z04 new) hx hsrc (z3y _) (by unfold maxLen;omega) (by omega) ?_;intro S2 w4 hown4 hgr4 hat4;obtain⟨A4,c4,rfl,hA4⟩:=z0t hown4;refine k A4 c4 w4 ⟨by rw [z3l];exact hown4,?_,?_,by rw [List.length_append,h.len,hlen],by rw [List.length_append,h.tlen,htl],fun j t e ht he=>?_⟩ (fun g T cs hb hne=>⟨hb.grown hgr4 (fun e=>hne e.symm),fun e=>?_⟩)
 ·refine(h.chg.trans hc (fun _ _ e=>e)).grown hgr4 (fun kk e hk=>?_);rcases A with _|b
  ·simp [Value.ownBlock] at e
  ·have e2:b.block=kk:=by simpa [Value.ownBlock] using e
   have:=h.new b rfl;omega
 ·rintro b rfl;have hsz:=h.chg.size;have hsz2:=hc.size;rcases hat4 with e|e
  ·rcases A with _|d
   ·simp [Value.ownBlock] at e
   ·have e2:b.block=d.block:=by simpa [Value.ownBlock] using e
    rw [e2];exact h.new d rfl
  ·have e2:b.block=W.heap.size:=by simpa [Value.ownBlock] using e
   omega
 ·by_cases hj:j<n
  ·rw [List.getElem?_append_left (by rw [h.tlen];exact hj)] at ht;rw [List.getElem?_append_left (by rw [h.len];exact hj)] at he;exact h.is j t e ht he
  ·rw [List.getElem?_append_right (by rw [h.tlen];omega),h.tlen] at ht;rw [List.getElem?_append_right (by rw [h.len];omega),h.len] at he;exact his _ t e ht he
 ·rcases hat4 with h2|h2
  ·exact hne (h2.symm.trans e)
  ·have h3:=hb.lt;rw [h2] at e;cases e
   exact absurd h3 (Nat.lt_irrefl _)
theorem PB.kept {w W w':World} {g:Nat} {cs:Array Value} {A A3:Option Addr} {n c n3 c3:Nat} (h:PB w W g cs) (k:∀ (g:Nat) (T:TypeId) (cs:Array Value),Blk W g T cs->(Value.slice A n c).ownBlock≠some g->Blk w' g T cs/\(Value.slice A3 n3 c3).ownBlock≠some g) (hne:(Value.slice A n c).ownBlock≠some g):PB w w' g cs/\(Value.slice A3 n3 c3).ownBlock≠some g :=
 ⟨⟨(k g _ cs h.blk hne).1,h.new⟩,(k g _ cs h.blk hne).2⟩
theorem RowIs.list {w:World} {b off:Nat}:∀ {l:List VT} {j:Nat},RowIs w (some ⟨b,off,none⟩) j l->∃ es:List VC,es.length=l.length/\(∀ (i:Nat) (e:VC),es[i]?=some e->∀ m,m<4->w.cell? ⟨b,off+(j+i)*4+m,none⟩=e.cells[m]?)/\∀ (i:Nat) (t:VT) (e:VC),l[i]?=some t->es[i]?=some e->ValIs w t e:=by
 intro l;induction l with
 |nil=>intro j _;exact⟨[],rfl,fun i e h=>(by simp at h),fun i t e h=>(by simp at h)⟩
 |cons t l ih =>
  intro j h;obtain⟨e,c0,c1,c2,c3,hv,hr⟩:=h.plain;obtain⟨es,hl,hc,hi⟩:=ih hr;refine⟨e::es,by rw [List.length_cons,List.length_cons,hl],fun i x hx m hm=>?_,fun i u x hu hx=>?_⟩
  ·cases i with
   |zero =>
    simp at hx;subst hx;rw [Nat.add_zero];match m,hm with
    |0,_=>exact c0
    |1,_=>exact c1
    |2,_=>exact c2
    |3,_=>exact c3
   |succ i =>
    have:=hc i x (by simpa using hx) m hm;rw [show j+1+i=j+(i+1) from by omega] at this;exact this
  ·cases i with
   |zero=>simp at hu hx;subst hu;subst hx;exact hv
   |succ i=>exact hi i u x (by simpa using hu) (by simpa using hx)
theorem z9u {w W:World} {b off p m cx:Nat} {es:List VC} (hc:∀ (i:Nat) (e:VC),es[i]?=some e->∀ m,m<4->w.cell? ⟨b,off+(0+i)*4+m,none⟩=e.cells[m]?) (hw:Chg NoS w W) (hp:p+m<=es.length) :
  Src W 4 (some ⟨b,off+p*4,none⟩) m cx (z04 ((es.drop p).take m)):=by
 have hlen:((es.drop p).take m).length=m:=by rw [List.length_take,List.length_drop];omega
 refine⟨by rw [z25,hlen],fun e=>(by cases e),fun ad ha j u hj=>?_⟩;cases ha
 have hj4:j<m*4:=by
  have:=(List.getElem?_eq_some_iff.1 hj).1;rw [z25,hlen] at this;exact this
 have hi:j / 4<m:=by omega
 have he:((es.drop p).take m)[j / 4]?=es[p+j / 4]?:=by rw [List.getElem?_take_of_lt hi,List.getElem?_drop]
 have hes:es[p+j / 4]?=some (es[p+j / 4]'(by omega)):=List.getElem?_eq_getElem (by omega);have h1:=z2n (he.trans hes) (show j%4<4 from Nat.mod_lt _ (by decide));rw [show j / 4*4+j%4=j from by omega,hj] at h1;have h2:=hc _ _ hes (j%4) (Nat.mod_lt _ (by decide));rw [<- h1] at h2
 have hadd:(⟨b,off+p*4,none⟩:Addr).add j=⟨b,off+(0+(p+j / 4))*4+j%4,none⟩:=by
  unfold Addr.add;split
  ·next h=>subst h;simp
  ·simp;omega
 rw [hadd];exact(hw.cell (p:=⟨b,_,none⟩) (z05 h2) (fun h=>h)).trans h2
noncomputable def z2q:VT->ByteArray->VT
 |.mk k n s l,key=>if z1c k l key<0 then .mk k n s l else .mk k n s (l.take (z1c k l key).toNat++l.drop ((z1c k l key).toNat+2))
theorem y1x {k n:Int} {s:ByteArray} {l:List VT} {key:ByteArray} (h:z1c k l key<0):z2q (.mk k n s l) key=.mk k n s l:=by rw [z2q,if_pos h]
theorem z96 {k n:Int} {s:ByteArray} {l:List VT} {key:ByteArray} {q:Nat} (h:z1c k l key=(q:Int)):z2q (.mk k n s l) key=.mk k n s (l.take q++l.drop (q+2)):=by
 rw [z2q,if_neg (by omega),h,Int.toNat_natCast]
def v8m (w:World) (t:VT) (e:Ending) (w':World):Prop:=∃ c':VC,e=.returned c'.val/\ValIs w' t c'/\Chg NoS w w'
def nmT (key:ByteArray):VT:=.mk 5 0 key []
def gtT (key:ByteArray) (t:VT):Prop:=t.kind=5/\Op.bytesLess key.toList t.str.toList=true
open Classical in
noncomputable def z6c (key:ByteArray) (x:VT):List VT->List VT
 |[]=>[nmT key,x]
 |[t]=>if gtT key t then [nmT key,x,t] else [t,nmT key,x]
 |t::u::l=>if gtT key t then nmT key::x::t::u::l else t::u::z6c key x l
def z58 (j:Nat) (x:VT) (l:List VT):List VT:=l.take (2*j+1)++x::l.drop (2*j+2)
noncomputable def z9f (key:ByteArray) (x:VT) (l:List VT):List VT:=match z0n key l with
 |some j=>z58 j x l
 |none=>z6c key x l
theorem y17 {P:List VT->Prop} (h0:P []) (h2:∀ t u l,l.length%2=0->P l->P (t::u::l)):∀ l:List VT,l.length%2=0->P l
 |[],_=>h0
 |[t],h=>by simp at h
 |t::u::l,h=>h2 t u l (by simp only [List.length_cons] at h;omega) (y17 h0 h2 l (by simp only [List.length_cons] at h;omega))
theorem y0j {key:ByteArray} {x t u:VT} {l:List VT} (h:gtT key t):z6c key x (t::u::l)=nmT key::x::t::u::l:=by rw [z6c,if_pos h]
theorem y0i {key:ByteArray} {x t u:VT} {l:List VT} (h:¬gtT key t):z6c key x (t::u::l)=t::u::z6c key x l:=by rw [z6c,if_neg h]
theorem y5v (x t u:VT) (l:List VT):z58 0 x (t::u::l)=t::x::l:=rfl
theorem y04 (j:Nat) (x t u:VT) (l:List VT):z58 (j+1) x (t::u::l)=t::u::z58 j x l:=by
 unfold z58;rw [show 2*(j+1)+1=(2*j+1)+1+1 by omega,show 2*(j+1)+2=(2*j+2)+1+1 by omega];rfl
theorem y7o {key:ByteArray} {t u:VT} {l:List VT} (h:z0n key (t::u::l)=none):¬z7g key t/\z0n key l=none:=by
 by_cases ht:z7g key t
 ·rw [z1b ht] at h;cases h
 ·rw [z3s ht,List.drop_succ_cons,List.drop_zero] at h;exact⟨ht,by cases hf:z0n key l with|none=>rfl|some i=>rw [hf] at h;cases h⟩
theorem z2g {key:ByteArray} {t u:VT} {l:List VT} (h:¬z7g key t):z0n key (t::u::l)=(z0n key l).map (·+ 1):=by
 rw [z3s h,List.drop_succ_cons,List.drop_zero]
theorem v7k (key:ByteArray):z7g key (nmT key):=⟨rfl,rfl⟩
def okD:Option ByteArray->List VT->Prop
 |_,[]=>True
 |_,[_]=>False
 |lo,t::_::l=>t.kind=5/\(∀ s,lo=some s->Op.bytesLess s.toList t.str.toList=true)/\okD (some t.str) l
theorem y31:∀ {l:List VT} {lo:Option ByteArray},okD lo l->l.length%2=0
 |[],_,_=>rfl
 |[_],_,h=>h.elim
 |t::u::l,_,h=>by have:=y31 h.2.2;simp only [List.length_cons];omega
theorem z5n {a b c:ByteArray} (h:Op.bytesLess a.toList b.toList=true) (k:Op.bytesLess b.toList c.toList=true):Op.bytesLess a.toList c.toList=true:=by
 rw [Go.Proofs.bytesLess_eq,decide_eq_true_iff] at h k ⊢;exact List.lt_trans h k
theorem z1l (a:ByteArray):Op.bytesLess a.toList a.toList=false:=z7n _
theorem z2x {a b:ByteArray} (h:Op.bytesLess a.toList b.toList≠true) (h2:a≠b):Op.bytesLess b.toList a.toList=true:=by
 rw [Ne,Go.Proofs.bytesLess_eq,decide_eq_true_iff] at h;rw [Go.Proofs.bytesLess_eq,decide_eq_true_iff];rcases Classical.em (b.toList<a.toList) with h3|h3
 ·exact h3
 ·exact absurd (z2o (List.le_antisymm (List.not_lt.1 h3) (List.not_lt.1 h))) h2
theorem v05 {key s:ByteArray} (hk:key=s\/Op.bytesLess key.toList s.toList=true):∀ {l:List VT},okD (some s) l->z0n key l=none:=by
 intro l;induction h:l.length using Nat.strongRecOn generalizing l s with
 |_ N ih =>
  intro hd;match l,hd with
  |[],_=>exact z16 key
  |t::u::l',hd =>
   have h1:=hd.2.1 s rfl
   have hlt:Op.bytesLess key.toList t.str.toList=true:=by
    rcases hk with rfl|hk
    ·exact h1
    ·exact z5n hk h1
   have hno:¬z7g key t:=fun e=>by
    rw [e.2,z1l] at hlt;cases hlt
   rw [z2g hno,ih l'.length (by rw [<- h];simp only [List.length_cons];omega) (.inr hlt) rfl hd.2.2];rfl
theorem v8q {key:ByteArray}:∀ {l:List VT} {lo:Option ByteArray} {j:Nat},okD lo l->z0n key l=some j->z0n key (l.take (2*j)++l.drop (2*j+2))=none:=by
 intro l;induction h:l.length using Nat.strongRecOn generalizing l with
 |_ N ih =>
  intro lo j hd hf;match l,hd with
  |[],_=>rw [z16] at hf;cases hf
  |t::u::l',hd =>
   by_cases ht:z7g key t
   ·rw [z1b ht] at hf;cases hf
    exact v05 (.inl ht.2.symm) hd.2.2
   ·rw [z2g ht] at hf;cases hf2:z0n key l' with
    |none=>rw [hf2] at hf;cases hf
    |some i =>
     rw [hf2] at hf;simp only [Option.map_some,Option.some.injEq] at hf;subst hf;have:=ih l'.length (by rw [<- h];simp only [List.length_cons];omega) rfl hd.2.2 hf2;rw [show 2*(i+1)=(2*i)+1+1 by omega,show(2*i)+1+1+2=(2*i+2)+1+1 by omega];show z0n key (t::u::(l'.take (2*i)++l'.drop (2*i+2)))=none;rw [z2g ht,this];rfl
theorem v49 {key:ByteArray} {x:VT}:∀ {l:List VT} {lo:Option ByteArray},okD lo l->(∀ s,lo=some s->Op.bytesLess s.toList key.toList=true)->z0n key l=none->okD lo (z6c key x l):=by
 intro l;induction h:l.length using Nat.strongRecOn generalizing l with
 |_ N ih =>
  intro lo hd hlo hf;match l,hd with
  |[],_=>exact⟨rfl,hlo,trivial⟩
  |t::u::l',hd =>
   obtain⟨ht,hf2⟩:=y7o hf;by_cases hg:gtT key t
   ·rw [y0j hg];exact⟨rfl,hlo,hd.1,fun s hs=>by cases hs;exact hg.2,hd.2.2⟩
   ·rw [y0i hg];refine⟨hd.1,hd.2.1,ih l'.length (by rw [<- h];simp only [List.length_cons];omega) rfl hd.2.2 (fun s hs=>?_) hf2⟩;cases hs
    exact z2x (fun e=>hg ⟨hd.1,e⟩) (fun e=>ht ⟨hd.1,e.symm⟩)
theorem v04 {x:VT}:∀ {l:List VT} {lo:Option ByteArray} (j:Nat),okD lo l->2*j<l.length->okD lo (z58 j x l):=by
 intro l;induction h:l.length using Nat.strongRecOn generalizing l with
 |_ N ih =>
  intro lo j hd hj;match l,hd with
  |[],_=>exact absurd hj (by rw [<- h];exact Nat.not_lt_zero _)
  |t::u::l',hd =>
   cases j with
   |zero=>rw [y5v];exact⟨hd.1,hd.2.1,hd.2.2⟩
   |succ j =>
    rw [y04];simp only [List.length_cons] at hj h;exact⟨hd.1,hd.2.1,ih l'.length (by omega) rfl j hd.2.2 (by omega)⟩
theorem v48 {key:ByteArray} {x:VT} {l:List VT} (h:okD none l):okD none (z9f key x l):=by
 unfold z9f;cases hf:z0n key l with
 |none=>exact v49 h (fun s hs=>by cases hs) hf
 |some j=>exact v04 j h (z92 key _ l (Nat.le_refl _) j hf)
theorem y6h:∀ {l:List VT} {lo:Option ByteArray},okD lo l->z6u l:=by
 intro l;induction h:l.length using Nat.strongRecOn generalizing l with
 |_ N ih =>
  intro lo hd j t ht;match l,hd with
  |[],_=>simp at ht
  |a::u::l',hd =>
   cases j with
   |zero=>simp at ht;subst ht;exact hd.1
   |succ j =>
    rw [show 2*(j+1)=2*j+1+1 by omega] at ht;exact ih l'.length (by rw [<- h];simp only [List.length_cons];omega) rfl hd.2.2 j t (by simpa using ht)
theorem v03:∀ {l:List VT} {lo:Option ByteArray},okD lo l->y45 l:=by
 intro l;induction h:l.length using Nat.strongRecOn generalizing l with
 |_ N ih =>
  intro lo hd j t v ht hv;match l,hd with
  |[],_=>simp at ht
  |a::u::l',hd =>
   cases j with
   |zero =>
    simp at ht;subst ht;match l',hd.2.2,hv with
    |b::u'::l'',hd2,hv =>
     simp at hv;subst hv;exact hd2.2.1 _ rfl
   |succ j =>
    rw [show 2*(j+1)=2*j+1+1 by omega] at ht;rw [show 2*(j+1)+2=2*j+2+1+1 by omega] at hv;exact ih l'.length (by rw [<- h];simp only [List.length_cons];omega) rfl hd.2.2 j t v (by simpa using ht) (by simpa using hv)
theorem firstL_zero {l:List VT}:z1t l=0↔∀ t∈l,z0e t=0:=by
 induction l with
 |nil=>exact⟨fun _ t h=>(by cases h),fun _=>by rw [z1t]⟩
 |cons t l ih =>
  rw [z31];by_cases h:z0e t=0
  ·rw [if_neg (fun e=>e h),ih];exact⟨fun k u hu=>by rcases List.mem_cons.1 hu with rfl|hu;exact h;exact k u hu,fun k u hu=>k u (List.mem_cons_of_mem _ hu)⟩
  ·rw [if_pos h];exact⟨fun e=>absurd e h,fun k=>absurd (k t (List.mem_cons_self ..)) h⟩
theorem v3z {key:ByteArray} {x:VT} {l:List VT}:∀ t∈z9f key x l,t=nmT key\/t=x\/t∈l:=by
 have hi:∀ (N:Nat) (l:List VT),l.length<=N->∀ t∈z6c key x l,t=nmT key\/t=x\/t∈l:=by
  intro N;induction N using Nat.strongRecOn with
  |_ N ih =>
   intro l hl t ht;match l with
   |[]=>rw [z6c] at ht;simp at ht;rcases ht with h|h;exact .inl h;exact .inr (.inl h)
   |[a] =>
    rw [z6c] at ht;split at ht
    ·simp at ht;rcases ht with h|h|h;exact .inl h;exact .inr (.inl h);exact .inr (.inr (by simp [h]))
    ·simp at ht;rcases ht with h|h|h;exact .inr (.inr (by simp [h]));exact .inl h;exact .inr (.inl h)
   |a::u::l' =>
    simp only [List.length_cons] at hl;by_cases hg:gtT key a
    ·rw [y0j hg] at ht;rcases List.mem_cons.1 ht with h|ht
     ·exact .inl h
     rcases List.mem_cons.1 ht with h|ht
     ·exact .inr (.inl h)
     ·exact .inr (.inr ht)
    ·rw [y0i hg] at ht;rcases List.mem_cons.1 ht with h|ht
     ·exact .inr (.inr (by rw [h];exact List.mem_cons_self ..))
     rcases List.mem_cons.1 ht with h|ht
     ·exact .inr (.inr (by rw [h];exact List.mem_cons_of_mem _ (List.mem_cons_self ..)))
     ·rcases ih (N-1) (by omega) l' (by omega) t ht with h|h|h
      ·exact .inl h
      ·exact .inr (.inl h)
      ·exact .inr (.inr (List.mem_cons_of_mem _ (List.mem_cons_of_mem _ h)))
 intro t ht;unfold z9f at ht;split at ht
 ·unfold z58 at ht;rcases List.mem_append.1 ht with h|h
  ·exact .inr (.inr (List.mem_of_mem_take h))
  ·rcases List.mem_cons.1 h with h|h
   ·exact .inr (.inl h)
   ·exact .inr (.inr (List.mem_of_mem_drop h))
 ·exact hi _ l (Nat.le_refl _) t ht
theorem z86:∀ (l:List VT) (a N:Nat),z0v a l<=N↔a<=N/\∀ t∈l,z07 t+1<=N:=by
 intro l;induction l with
 |nil=>intro a N;rw [z0v];exact⟨fun h=>⟨h,fun t h=>by cases h⟩,fun h=>h.1⟩
 |cons t l ih =>
  intro a N;rw [z1r,ih];constructor
  ·rintro⟨h1,h2⟩;refine⟨?_,fun u hu=>?_⟩
   ·split at h1<;>omega
   ·rcases List.mem_cons.1 hu with rfl|hu
    ·split at h1<;>omega
    ·exact h2 u hu
  ·rintro⟨h1,h2⟩;refine⟨?_,fun u hu=>h2 u (List.mem_cons_of_mem _ hu)⟩;have:=h2 t (List.mem_cons_self ..);split<;>omega
theorem y4s (n:Int) (s:ByteArray) (l:List VT):z07 (.mk 7 n s l)=z0v 1 l:=by rw [z07,if_pos (.inr rfl)]
theorem v1q (key:ByteArray):z07 (nmT key)=1:=by rw [nmT,z07,if_neg (by decide)]
theorem v9e (w:World) (key:ByteArray) (hk:key.size<=maxLen):ValIs w (nmT key) ⟨5,0,key,none,0,0⟩:=.mk ⟨5,0,key,none,0,0⟩ [] ⟨⟨(by decide:(-9223372036854775808:Int)<=5),(by decide:(5:Int)<=9223372036854775807)⟩,⟨(by decide:(-9223372036854775808:Int)<=0),(by decide:(0:Int)<=9223372036854775807)⟩,hk,fun _=>⟨rfl,rfl⟩,Nat.le_refl _,Nat.zero_le _⟩ rfl (.nil _ _)
end Go.Proofs.YtmibnkddappgiaaGreatDoor
namespace Go.Proofs.YtmibnkddappgiaaGreatDoor.Zl
def q0q:List Int:=List.replicate 144 8++(List.replicate 112 9++(List.replicate 24 7++List.replicate 8 8))
def q0r:List Int:=List.replicate 30 5
def order:List Nat:=[16,17,18,0,8,7,9,6,10,5,11,4,12,3,13,2,14,1,15]
def v9f (s:Nat):Option (Nat × Nat):=if s<257\/285<s then none else if s<265 then some (s-254,0) else if s=285 then some (258,0) else some (3+(4+(s-261)%4)*2 ^ ((s-261) / 4),(s-261) / 4)
def v88 (s:Nat):Option (Nat × Nat):=if 29<s then none else if s<4 then some (s+1,0) else some (1+(2+(s-2)%2)*2 ^ ((s-2) / 2),(s-2) / 2)
def rep (far:Nat):Nat->List Nat->List Nat
 |0,out=>out
 |n+1,out=>rep far n (out++[out.getD (out.length-far) 0])
inductive Mode
 |head
 |stored (last:Nat)
 |plain (k last:Nat)
 |own (last:Nat)
 |kinds (todo:List Nat) (l:List Int) (n ns last:Nat)
 |lens (ls l:List Int) (n ns last:Nat)
 |coded (ls ds:List Int) (last:Nat)
 |dist (x:Nat) (ls ds:List Int) (last:Nat)
structure St where
 a:Nat
 out:List Nat
 m:Mode
inductive Res
 |err (k:Int)
 |ok (out:List Nat) (a:Nat)
abbrev Nx:=Sum St Res
def v6p (bs:List Nat) (a:Nat) (out:List Nat):Nx :=
 if 8*bs.length<a+3 then .inr (.err 10)
 else if z29 false bs (a+1) 2=0 then .inl ⟨a+3,out,.stored (z29 false bs a 1)⟩
 else if z29 false bs (a+1) 2=1 then .inl ⟨a+3,out,.coded q0q q0r (z29 false bs a 1)⟩
 else if z29 false bs (a+1) 2=2 then .inl ⟨a+3,out,.own (z29 false bs a 1)⟩
 else .inr (.err 11)
def y96 (bs:List Nat) (a:Nat) (out:List Nat) (last:Nat):Nx :=
 if 8*bs.length<(a+7) / 8*8+32 then .inr (.err 10)
 else if z29 false bs ((a+7) / 8*8+16) 16≠z29 false bs ((a+7) / 8*8) 16 ^^^ 65535 then .inr (.err 11)
 else .inl ⟨(a+7) / 8*8+32,out,.plain (z29 false bs ((a+7) / 8*8) 16) last⟩
def v3h (bs:List Nat) (most a:Nat) (out:List Nat) (k last:Nat):Nx :=
 if k=0 then(if last=0 then .inl ⟨a,out,.head⟩ else .inr (.ok out a))
 else if 8*bs.length<a+8 then .inr (.err 10)
 else if most<=out.length then .inr (.err 3)
 else .inl ⟨a+8,out++[z29 false bs a 8],.plain (k-1) last⟩
def v90 (bs:List Nat) (a:Nat) (out:List Nat) (last:Nat):Nx :=
 if 8*bs.length<a+14 then .inr (.err 10)
 else if 286<257+z29 false bs a 5\/30<1+z29 false bs (a+5) 5 then .inr (.err 11)
 else .inl ⟨a+14,out,.kinds (order.take (4+z29 false bs (a+10) 4)) (List.replicate 19 0) (257+z29 false bs a 5+(1+z29 false bs (a+5) 5)) (257+z29 false bs a 5) last⟩
def v3i (bs:List Nat) (a:Nat) (out:List Nat) (todo:List Nat) (l:List Int) (n ns last:Nat):Nx :=
 match todo with
 |[]=>if May l then .inl ⟨a,out,.lens l [] n ns last⟩ else .inr (.err 13)
 |s::r=>if 8*bs.length<a+3 then .inr (.err 10) else .inl ⟨a+3,out,.kinds r (l.set s (z29 false bs a 3:Nat)) n ns last⟩
def v92 (a:Nat) (out:List Nat) (l:List Int) (ns last:Nat):Nx :=
 if l.getD 256 0=0 then .inr (.err 11)
 else if ¬May (l.take ns) then .inr (.err 13)
 else if ¬May (l.drop ns) then .inr (.err 13)
 else .inl ⟨a,out,.coded (l.take ns) (l.drop ns) last⟩
def y97 (b:Nat) (out:List Nat) (ls l:List Int) (n ns last times:Nat) (v:Int):Nx :=
 if n-l.length<times then .inr (.err 11) else .inl ⟨b,out,.lens ls (l++List.replicate times v) n ns last⟩
def v6o (bs:List Nat) (a:Nat) (out:List Nat) (ls l:List Int) (n ns last s:Nat) (k:Int):Nx :=
 if k≠0 then .inr (.err k)
 else if s=16 then(if 8*bs.length<a+2 then .inr (.err 10) else if l.length=0 then .inr (.err 11) else y97 (a+2) out ls l n ns last (3+z29 false bs a 2) (l.getD (l.length-1) 0))
 else if s=17 then(if 8*bs.length<a+3 then .inr (.err 10) else y97 (a+3) out ls l n ns last (3+z29 false bs a 3) 0)
 else if s=18 then(if 8*bs.length<a+7 then .inr (.err 10) else y97 (a+7) out ls l n ns last (11+z29 false bs a 7) 0)
 else y97 a out ls l n ns last 1 s
def v3j (bs:List Nat) (most a:Nat) (out:List Nat) (ls ds:List Int) (last s:Nat) (k:Int):Nx :=
 if k≠0 then .inr (.err k)
 else if s=256 then .inl ⟨a,out,.plain 0 last⟩
 else if s<256 then(if most<=out.length then .inr (.err 3) else .inl ⟨a,out++[s],.coded ls ds last⟩)
 else match v9f s with
  |none=>.inr (.err 11)
  |some (x,n)=>if 8*bs.length<a+n then .inr (.err 10) else .inl ⟨a+n,out,.dist (x+z29 false bs a n) ls ds last⟩
def v6q (bs:List Nat) (most a:Nat) (out:List Nat) (x:Nat) (ls ds:List Int) (last s:Nat) (k:Int):Nx :=
 if k≠0 then .inr (.err k)
 else match v88 s with
  |none=>.inr (.err 11)
  |some (y,n) =>
   if 8*bs.length<a+n then .inr (.err 10)
   else if out.length<y+z29 false bs a n then .inr (.err 14)
   else if most-out.length<x then .inr (.err 3)
   else .inl ⟨a+n,rep (y+z29 false bs a n) x out,.coded ls ds last⟩
inductive Step (bs:List Nat) (most:Nat):St->Nx->Prop
 |head {a out r} (e:v6p bs a out=r):Step bs most ⟨a,out,.head⟩ r
 |stored {a out last r} (e:y96 bs a out last=r):Step bs most ⟨a,out,.stored last⟩ r
 |plain {a out k last r} (e:v3h bs most a out k last=r):Step bs most ⟨a,out,.plain k last⟩ r
 |own {a out last r} (e:v90 bs a out last=r):Step bs most ⟨a,out,.own last⟩ r
 |kinds {a out todo l n ns last r} (e:v3i bs a out todo l n ns last=r):Step bs most ⟨a,out,.kinds todo l n ns last⟩ r
 |lensEnd {a out ls l n ns last r} (h:n<=l.length) (e:v92 a out l ns last=r):Step bs most ⟨a,out,.lens ls l n ns last⟩ r
 |lens {a out ls l n ns last s m k r} (h:l.length<n) (o:Out ls (z8v false bs a) s m k) (e:v6o bs (a+m) out ls l n ns last s k=r):Step bs most ⟨a,out,.lens ls l n ns last⟩ r
 |coded {a out ls ds last s m k r} (o:Out ls (z8v false bs a) s m k) (e:v3j bs most (a+m) out ls ds last s k=r):Step bs most ⟨a,out,.coded ls ds last⟩ r
 |dist {a out x ls ds last s m k r} (o:Out ds (z8v false bs a) s m k) (e:v6q bs most (a+m) out x ls ds last s k=r):Step bs most ⟨a,out,.dist x ls ds last⟩ r
inductive Runs (bs:List Nat) (most:Nat):St->Res->Prop
 |stop {s r} (h:Step bs most s (.inr r)):Runs bs most s r
 |go {s t r} (h:Step bs most s (.inl t)) (k:Runs bs most t r):Runs bs most s r
section
variable {bs:List Nat} {most:Nat} {s t u:St} {r r':Res} {x y:Nx}
end
section
variable {bs bs2:List Nat} {A:Nat}
end
open Go.RowKit
section
variable {w w':World} {g gr a most:Nat} {bs out:List Nat} {S So fx:Value}
end
end Go.Proofs.YtmibnkddappgiaaGreatDoor.Zl
