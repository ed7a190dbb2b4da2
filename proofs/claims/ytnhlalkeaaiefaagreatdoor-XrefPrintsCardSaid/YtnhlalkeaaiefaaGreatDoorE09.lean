import Derived.Test.YtnhlalkeaaiefaaGreatDoorE07
import Derived.Test.YtnhlalkeaaiefaaGreatDoorE08
import Derived.RangeFuncNested
import Derived.Shelf.RegionOpen
import Derived.OwnWalkIn
import Derived.LoopNIn
import Derived.LoopIn
set_option linter.unusedVariables false
set_option maxHeartbeats 64000000
set_option maxRecDepth 100000
set_option linter.unusedSimpArgs false
namespace Go.Proofs.YtnhlalkeaaiefaaGreatDoor
open Go.RowKit
structure Bx (w W:World) (g go:Nat) (cv cz:Array Value) (es:List VC) (ts:List VT) (m:Nat) (A:Option Addr) (c:Nat):Prop where
 b:PB w W g cv
 o:PB w W go cz
 row:GV w W es ts m A c
 nb:(Value.slice A m c).ownBlock≠some g
 no:(Value.slice A m c).ownBlock≠some go
 ne:g≠go
theorem Bx.fin {w W:World} {g go:Nat} {k n:Int} {s:ByteArray} {cv cz:Array Value} {es:List VC} {ts:List VT} {m c:Nat} {A:Option Addr} (h:Bx w W g go cv cz es ts m A c) (hz:cz.size=4) (hm:m<=maxLen)
  (hk:-9223372036854775808<=k/\k<=9223372036854775807) (hn:-9223372036854775808<=n/\n<=9223372036854775807) (hs:s.size<=maxLen) (W':World) (hW:W'=(((W.setCell ⟨go,0,none⟩ (.int .i64 k)).setCell ⟨go,1,none⟩ (.int .i64 n)).setCell ⟨go,2,none⟩ (.string s)).setCell ⟨go,3,none⟩ (.slice A m c)) :
  PB w W' go #[.int .i64 k,.int .i64 n,.string s,.slice A m c]/\ValIs W' (.mk k n s ts) ⟨k,n,s,A,m,c⟩/\Chg NoS w W':=by
 subst hW;obtain⟨h1,h2⟩:=h.o.set4 (a:=.int .i64 k) (b:=.int .i64 n) (c:=.string s) (d:=.slice A m c) h.row.chg hz;exact⟨h1,((((h.row.far h.no h.o.new 0 _).far h.no h.o.new 1 _).far h.no h.o.new 2 _).far h.no h.o.new 3 _).val hm k n s hk hn hs,h2⟩
open Go.RowKit Go.Shelf
attribute [local go_sem] Oper.semAt_some
theorem z6j {P:Program} {n:Nat} {g:Operand} {ps:Array Tmp} {assign body:Code} {Q:Exit->Act->World->Prop} {a:Act} {w:World} (h1:1<=n) {gf:Nat} {lb:Array Value}
  (hg:a.eval g=.func (.func gf) #[] lb) (eg:∀ args w,(callFunc gf args).run P w=.ok (.enter gf args) w) (N:Nat) (encs:Nat->Array Value) (hps:∀ t,(encs t).size=ps.size)
  (I:Nat->World->Prop) (hput:∀ t W s o,I t W->W.heap[w.heap.size+1]?=some (.loop s)->I t (W.putObj (w.heap.size+1) o)) (hal:∀ t W o,I t W->I t (W.alloc o)) (hdr:∀ t W k,I t W->I t (W.drewN k)) (h0:I 0 w)
  (hseq:∀ (l:Nat) (J:Nat->World->Prop) (W:World),(∀ t W1,J t W1->I t W1)->(∀ t W1 k,J t W1->J t (W1.drewN k))->(∀ t W1,t<N->J t W1->YieldAt Fence.wide (n-1-1) P l (encs t) W1 fun e W'=>e=.returned (.bool true)/\J (t+1) W')->J 0 W ->
   CallsIn Fence.wide (n-1) P gf (#[.func (.yield l) #[] #[]]++lb) W fun e W'=>(∃ v,e=.returned v)/\J N W')
  (a₁:Nat->Act)
  (hassign:∀ (l t:Nat) (W:World) (K:Act->World->Prop),K (a₁ t) W ->
   assign.wpIn (Fence.wide.inRound l) (n-1-1) P (Exit.then K (fun _ _ _=>False)) { tmps:=(ps.zip (encs t)).foldl (fun t (p,v)=>t.setIfInBounds p v) a.tmps,defers:=[] } W)
  (hbody:∀ (l t:Nat) (W:World),t<N->I t W->body.wpIn (Fence.wide.inRound l) (n-1-1) P (fun e _ W'=>e=.normal/\KeepsFrom w.heap.size W W'/\I (t+1) W') (a₁ t) W)
  (hdone:∀ (D:Nat) (W:World),w.heap.size<=D->I N W->W.heap[D]?=some (.deferred (some []))->Q .normal { a with defers:={ target:=.collected D,args:=#[] }::a.defers } W) :
  (Code.rangeFunc g ps assign body).wpIn Fence.wide n P Q a w:=by
 refine wpIn_rangeFunc ?_;intro fn hfn;obtain⟨R,hR⟩:∃ R:LoopState->Loop,R=fun s=>{ state:=s,pending:=none,fn,tmps:=a.tmps,params:=ps,assign,body,defers:=w.heap.size }:=⟨_,rfl⟩
 obtain⟨V,hV⟩:∃ V,V=(w.alloc (.deferred (some []))).alloc (.loop (R .ready)):=⟨_,rfl⟩
 have hrec:V.heap[w.heap.size+1]?=some (.loop (R .ready)):=by
  have h2:=World.alloc_heap_new (w.alloc (.deferred (some []))) (.loop (R .ready));rw [World.size_alloc] at h2;rw [hV];exact h2
 have hdef:V.heap[w.heap.size]?=some (.deferred (some [])):=by
  rw [hV];exact(Below.heap_alloc _ _ _ (by simp)).trans (World.alloc_heap_new w _)
 have hIV:I 0 V:=by rw [hV];exact hal _ _ _ (hal _ _ _ h0)
 refine⟨w.heap.size+1,[{ target:=.collected w.heap.size,args:=#[] }],V,{ target:=.fn (.func gf) lb,args:=#[.func (.yield (w.heap.size+1)) #[] #[]] },V,gf,#[.func (.yield (w.heap.size+1)) #[] #[]]++lb,V,?_,?_,fun _ _=>trivial,?_,fun _=>h1,?_⟩
 ·rw [hV,hR];exact run_enterLoop_outer _ _ _ _ _
 ·simp only [resolve,hg];simp [go_sem]
 ·simp [invoke,go_sem,eg]
 ·refine(hseq (w.heap.size+1) (fun t W=>I t W/\W.heap[w.heap.size+1]?=some (.loop (R .ready))/\W.heap[w.heap.size]?=some (.deferred (some []))) V (fun _ _ h=>h.1) (fun t W1 k h=>⟨hdr _ _ _ h.1,h.2.1,h.2.2⟩) ?_ ⟨hIV,hrec,hdef⟩).mono ?_
  ·rintro t W ht ⟨hi,hl,hk⟩;have hlt:w.heap.size+1<W.heap.size:=(Array.getElem?_eq_some_iff.1 hl).1;have hy:=run_yield (P:=P) (args:=encs t) hl (by rw [hR];exact hps t);rw [hR] at hy;refine⟨fn,_,assign,body,hy,roundIn_of_wpIn hfn (hassign _ t W _ ⟨_,run_beginRound hl (by rw [hR]),?_⟩)⟩;have hl2:(W.putObj (w.heap.size+1) (.loop { R .ready with state:=.busy })).heap[w.heap.size+1]?=some (.loop { R .ready with state:=.busy }):=World.putObj_heap_same hlt;have hk2:(W.putObj (w.heap.size+1) (.loop { R .ready with state:=.busy })).heap[w.heap.size]?=some (.deferred (some [])):=(World.putObj_heap_other (by omega)).trans hk;refine wpIn_mono (hbody _ t _ ht (hput _ _ _ _ hi hl)) ?_;rintro e a3 W3 ⟨rfl,hkeep,hi3⟩;have hl3:=hkeep.same _ _ (by omega) hl2 rfl;have hk3:=hkeep.same _ _ (Nat.le_refl _) hk2 rfl;have hend:=run_endRound (P:=P) none hl3;refine⟨_,_,hend,rfl,hput _ _ _ _ hi3 hl3,?_,(World.putObj_heap_other (by omega)).trans hk3⟩;rw [World.putObj_heap_same (Array.getElem?_eq_some_iff.1 hl3).1,hR];rfl
  ·rintro e W2 ⟨⟨v,rfl⟩,hi,hl,hk⟩;have hend:=run_endLoop (P:=P) hl (by rw [hR];simp);rw [hR] at hend;exact⟨none,_,hend,hdone _ _ (Nat.le_refl _) (hput _ _ _ _ hi hl) ((World.putObj_heap_other (by omega)).trans hk)⟩
def z3m (b off i:Nat):Value:=.slice (some ⟨b,off+2*i*4,none⟩) 2 2
theorem z5m (w:World) (A:Option Addr) (len cap:Nat) :
  Calls Tryz.prog 53 #[.slice A len cap,.int .i64 2] w fun e w'=>e=.returned (.func (.func 92) #[] #[.pointer (some ⟨w.heap.size,0,none⟩),.pointer (some ⟨w.heap.size+1,0,none⟩)])/\w'=(w.alloc (.cells #[.slice A len cap] 23)).alloc (.cells #[.int .i64 2] 3):=by
 go_enter Tryz.func53,Tryz.ntmps53;go_wp2_with fail;go_ret;exact⟨rfl,rfl⟩
theorem y1y (l m Bs Bn b off cap:Nat) (A:Option Addr) (hm:m<=500000) (hA:0<m->A=some ⟨b,off,none⟩) (hcap:2*m<=cap) (J:Nat->World->Prop) (hJd:∀ t W k,J t W->J t (W.drewN k))
  (hbox:∀ t W1,J t W1->W1.cell? ⟨Bs,0,none⟩=some (.slice A (2*m) cap)/\W1.cell? ⟨Bn,0,none⟩=some (.int .i64 2))
  (hY:∀ t W1,t<m->J t W1->YieldAt Fence.wide 7 Tryz.prog l #[z3m b off t] W1 fun e W'=>e=.returned (.bool true)/\J (t+1) W')
  (W:World) (h0:J 0 W) :
  CallsIn Fence.wide 8 Tryz.prog 92 #[.func (.yield l) #[] #[],.pointer (some ⟨Bs,0,none⟩),.pointer (some ⟨Bn,0,none⟩)] W fun e W'=>(∃ v,e=.returned v)/\J m W':=by
 obtain⟨L,hL⟩:∃ L,L=2*m:=⟨_,rfl⟩
 rw [<- hL] at hbox hcap;have HLL:=kf hL;clear hL;refine callsIn_of_wp Tryz.func92 rfl trivial ?_ rfl;simp only [Tryz.ntmps92,List.size_toArray,List.length_cons,List.length_nil,Nat.reduceAdd,Nat.reduceSub,Array.replicate_succ,Array.replicate_zero,List.push_toArray,List.append_toArray,List.nil_append,List.cons_append];gi_wp2
 gi_loopw [4] (fun i wr=>∃ t p:Nat,t<=m/\Hid (p=2*t)/\i=.int .i64 (p:Nat)/\J t wr) (fun i _=>L-(intOf i).toNat)
 case atStart=>exact⟨0,0,Nat.zero_le _,rfl,by go_num,h0⟩
 case round =>
  obtain⟨t,p,ht,HP,rfl,hJ⟩:=hrel;obtain⟨hs,hn⟩:=hbox t wr hJ;have hp:=HP.out;have hL:=HLL.out;by_cases hlt:t<m
  ·have hmx:Tryz.prog.follows .mixedOrders=true:=by kernel_rfl
   obtain rfl:=hA (by omega);have i1:(p:Int)<L:=by omega
   have i2:(p:Int)<=L:=by omega
   have i3:(p:Int)<=cap:=by omega
   have i4:p<=cap:=by omega
   obtain⟨u,hu⟩:∃ u,u=p+2:=⟨_,rfl⟩
   have e1:(p:Int)+2=(u:Int):=by omega
   have k1:IntKind.i64.wrap (u:Int)=(u:Int):=by rw [IntKind.wrap_i64];omega
   have hmin:(if 2<((L-p:Nat):Int) then 2 else((L-p:Nat):Int))=2:=by split<;>omega
   have hmin2:(if ((L-p:Nat):Int)<2 then((L-p:Nat):Int) else 2)=2:=by split<;>omega
   have hmin3:min 2 ((L-p:Nat):Int)=2:=by omega
   have e2:u-p=2:=by omega
   have j1:(p:Int)<=u:=by omega
   have j2:(u:Int)<=cap:=by omega
   have j3:p<=u:=by omega
   have j4:u<=cap:=by omega
   have hL1000:L<=1000000:=by omega
   have HU:=kf hu;clear hp hL hu;gi_wp2
   gi_quiet (fail)
   have hy0:=hY t (wr.drewN nq) hlt (hJd _ _ _ hJ);unfold z3m at hy0;rw [<- HP.out] at hy0;obtain⟨fn,tmps,assign,body,hy,hR⟩:=hy0;obtain⟨hs2,hn2⟩:=hbox t (wr.drewN nq) (hJd _ _ _ hJ);clear hs hn;gi_wp2
   refine hR.mono ?_;rintro e W3 ⟨rfl,hJ3⟩;obtain⟨hs3,hn3⟩:=hbox (t+1) W3 hJ3;gi_wp2
   go_roundw
   case rel=>exact⟨t+1,u,by omega,(by have h1:=HP.out;have h2:=HU.out;show u=_;omega),by go_num,hJ3⟩
   case measure=>have h2:=HU.out;simp [intOf];omega
  ·have hx:¬((p:Int)<L):=by omega
   obtain rfl:t=m:=by omega
   clear hp hL;gi_wp2
   go_end0;exact⟨⟨_,rfl⟩,hJ⟩
attribute [local go_sem] Oper.semAt_some
def z4g (b off t:Nat):List Value:=(List.range t).map (z3m b off)
theorem y1f (b off t:Nat):z4g b off (t+1)=z4g b off t++[z3m b off t]:=by simp [z4g,List.range_succ]
theorem v7m:(Tryz.prog.info? 23).map (fun i=>(i.zero,i.size,i.bytes))=some (some (.slice none 0 0),1,24):=by kernel_rfl
def ColI (w:World) (b off:Nat) (t:Nat) (W:World):Prop :=
 ∃ v,Boxed W w.heap.size 102 v/\W.ownsRow w.heap.size 23 1 v t (z4g b off t)/\Below w.heap.size w W
theorem y00 {w W:World} (h:Below w.heap.size w W) (l:Nat) (o:Obj) (hl:w.heap.size<=l):Below w.heap.size w (W.putObj l o) :=
 h.trans ⟨rfl,rfl,rfl,by rw [World.putObj_size];exact Nat.le_refl _,fun k hk=>World.putObj_heap_other (by omega)⟩
theorem ColI.put {w W:World} {b off t l:Nat} {o:Obj} (o':Obj) (h:ColI w b off t W) (hl:w.heap.size<l) (ho:W.heap[l]?=some o) (hc:o.isCells=false):ColI w b off t (W.putObj l o'):=by
 obtain⟨v,h1,h2,h3⟩:=h;exact⟨v,(World.putObj_heap_other (by omega)).trans h1,ownsRow_putObj h2 o' ho hc,y00 h3 l o' (by omega)⟩
theorem ColI.alloc {w W:World} {b off t:Nat} (o:Obj) (h:ColI w b off t W):ColI w b off t (W.alloc o):=by
 obtain⟨v,h1,h2,h3⟩:=h;exact⟨v,h1.alloc o,h2.alloc o,h3.alloc h3.size o⟩
theorem ColI.drewN {w W:World} {b off t:Nat} (k:Nat) (h:ColI w b off t W):ColI w b off t (W.drewN k):=by
 obtain⟨v,h1,h2,h3⟩:=h;exact⟨v,h1,h2,⟨h3.os,h3.tape,h3.output,h3.size,h3.block⟩⟩
theorem y9k (m Bs Bn b off cap:Nat) (A:Option Addr) (w:World) (hm:m<=500000) (hA:0<m->A=some ⟨b,off,none⟩) (hcap:2*m<=cap)
  (hbs:w.cell? ⟨Bs,0,none⟩=some (.slice A (2*m) cap)) (hbn:w.cell? ⟨Bn,0,none⟩=some (.int .i64 2)) :
  CallsIn Fence.wide 9 Tryz.prog 91 #[.slice none 0 0,.func (.func 92) #[] #[.pointer (some ⟨Bs,0,none⟩),.pointer (some ⟨Bn,0,none⟩)]] w fun e w' =>
   ∃ v,e=.returned v/\w'.ownsRow w.heap.size 23 1 v m (z4g b off m)/\Below w.heap.size w w':=by
 obtain⟨i0,hi,hz0,hz1,hz2⟩:=info_parts v7m;have l1:Bs<w.heap.size:=z04 hbs;have l2:Bn<w.heap.size:=z04 hbn;refine callsIn_of_wp_marks Tryz.func91 rfl trivial ?_ rfl;simp only [Tryz.ntmps91,List.size_toArray,List.length_cons,List.length_nil,Nat.reduceAdd,Nat.reduceSub,Array.replicate_succ,Array.replicate_zero,List.push_toArray,List.append_toArray,List.nil_append,List.cons_append];gi_wp2
 have hI0:ColI w b off 0 (w.alloc (.cells #[.slice none 0 0] 102)):=⟨.slice none 0 0,Boxed.new w _ _,z2p _ _ _ _,(Below.refl _ w).alloc (Nat.le_refl _) _⟩
 have hsz:(w.alloc (.cells #[.slice none 0 0] 102)).heap.size=w.heap.size+1:=by simp
 refine z6j (gf:=92) (lb:=#[.pointer (some ⟨Bs,0,none⟩),.pointer (some ⟨Bn,0,none⟩)]) (by omega) rfl (enters_of Tryz.func92 (by kernel_rfl) rfl) m
  (fun t=>#[z3m b off t]) (fun _=>rfl) (ColI w b off) (fun t W s o h hl=>h.put o (by rw [hsz];omega) hl rfl) (fun t W o h=>h.alloc o) (fun t W k h=>h.drewN k) hI0 ?seq
  (fun t=>{ tmps:=#[.slice none 0 0,.func (.func 92) #[] #[.pointer (some ⟨Bs,0,none⟩),.pointer (some ⟨Bn,0,none⟩)],.pointer (some ⟨w.heap.size,0,none⟩),undef,.slice none 0 0,z3m b off t,.func (.func 92) #[] #[.pointer (some ⟨Bs,0,none⟩),.pointer (some ⟨Bn,0,none⟩)],z3m b off t,undef,undef,undef,undef,undef],defers:=[] }) ?assign ?body ?done
 case seq =>
  intro l J W hJ hJd hY h0;refine y1y l m Bs Bn b off cap A hm hA hcap J hJd (fun t W1 h=>?_) hY W h0;obtain⟨v,_,_,h3⟩:=hJ t W1 h;exact⟨(World.cell?_of_block (h3.block Bs l1)).trans hbs,(World.cell?_of_block (h3.block Bn l2)).trans hbn⟩
 case assign =>
  intro l t W K hK;gi_wp2
  exact hK
 case done =>
  intro D W hD hI hdf;have hI2:=hI.put (.deferred none) (by rw [hsz] at hD;omega) hdf rfl;obtain⟨v,hv,hr,_⟩:=hI;obtain⟨A1,c1,rfl,_⟩:=z0n hr;have c0:=hv.cell;obtain⟨v2,hv2,hr2,hb2⟩:=hI2
  have hvv:v2=.slice A1 m c1:=by
   have h1:=(World.putObj_heap_other (by rw [hsz] at hD;omega):(W.putObj D (.deferred none)).heap[w.heap.size]?=W.heap[w.heap.size]?)
   have h2:some _=some _:=hv2.symm.trans (h1.trans hv);simp at h2;exact h2
  subst hvv;gi_wp2
  refine⟨by simp,.inl ⟨_,_,rfl,run_takeDeferred hdf,?_⟩⟩;exact⟨.slice A1 m c1,by simp [results,Tryz.results91,go_sem],_,rfl,hr2,hb2⟩
 case body =>
  intro l t W ht hI;unfold z3m;obtain⟨v,hv,hrow,hbl⟩:=hI;obtain⟨A1,c1,rfl,_⟩:=z0n hrow;have c0:=hv.cell;have f0:=hv.frozen;have hbs:=hbl.size;gi_wp2_with (gi_at_builtin;refine wpListIn_append_own _ rfl (.tmp 8) (.tmp 10) 102 rfl w.heap.size 23 i0 (.slice none 0 0) 1 24 Tryz.underlying102 hi hz0 hz1 hz2 rfl (by decide) (.slice A1 t c1) t (z4g b off t) rfl (hrow.alloc _) ⟨W.heap.size,0,none⟩ 1 1 [.slice (some ⟨b,off+2*t*4,none⟩) 2 2] rfl rfl (cell_one_new _ _ _) (by simp [Value.oneCell']) (by unfold maxLen;omega) (by omega) (by simp;omega) ?_;intro v' w3 hown' hg3 hnil3;obtain⟨a1,a2,a3,a4,a5⟩:=hv.appended (by decide) hrow hbs (Nat.le_refl _) hown' hg3;obtain⟨g',cap',rfl⟩:=ownsRow_succ hown';have c3:=a1.cell;have f3:=a1.frozen)
  exact⟨a4.from _,_,a2,by rw [y1f];exact a3,hbl.trans a5⟩
theorem z44 (m Bs Bn b off cap:Nat) (A:Option Addr) (w:World) (hm:m<=500000) (hA:0<m->A=some ⟨b,off,none⟩) (hcap:2*m<=cap)
  (hbs:w.cell? ⟨Bs,0,none⟩=some (.slice A (2*m) cap)) (hbn:w.cell? ⟨Bn,0,none⟩=some (.int .i64 2)) :
  Calls Tryz.prog 52 #[.func (.func 92) #[] #[.pointer (some ⟨Bs,0,none⟩),.pointer (some ⟨Bn,0,none⟩)]] w fun e w' =>
   ∃ v,e=.returned v/\w'.ownsRow w.heap.size 23 1 v m (z4g b off m)/\Below w.heap.size w w':=by
 have HX:=kf (callsIn_wide.1 (y9k m Bs Bn b off cap A w hm hA hcap hbs hbn));go_enter Tryz.func52,Tryz.ntmps52;go_wp2_with (go_at_call 91;refine HX.out.mono ?_;rintro e w2 ⟨v,rfl,hr,hb⟩;obtain⟨A1,c1,rfl,_⟩:=z0n hr;have HR:=kf hr;have HB:=kf hb;clear hr hb);go_ret;exact⟨_,rfl,HR.out,HB.out⟩
def PRow (w:World) (g cap b off:Nat) (d:List Nat):Prop:=w.ownsRow 0 23 1 (.slice (some ⟨g,0,none⟩) d.length cap) d.length (d.map (z3m b off))
theorem PRow.chg {w w':World} {g cap b off:Nat} {d:List Nat} {K:Nat->Prop} (h:PRow w g cap b off d) (hc:Chg K w w') (hk:¬K g):PRow w' g cap b off d:=z0i h hc (fun i hi=>by
 simp [Value.ownBlock] at hi;subst hi;exact hk)
theorem PRow.cell {w:World} {g cap b off:Nat} {d:List Nat} (h:PRow w g cap b off d) {i x:Nat} (hx:d[i]?=some x):w.cell? ⟨g,i,none⟩=some (z3m b off x):=by
 have hi:i<d.length:=(List.getElem?_eq_some_iff.1 hx).1;have h1:=World.ownsRow.cellAt h i (by omega);rw [h1];simp [hx]
theorem PRow.lt {w:World} {g cap b off:Nat} {d:List Nat} (h:PRow w g cap b off d):g<w.heap.size:=v31 h rfl
def v9b (g:Nat) (b off:Nat) (S:Nat->ByteArray) (M:Nat) (blk:Nat) (w0:World):Prop :=
 ∀ (x y:Nat) (W:World),x<M->y<M->Chg (fun i=>i=blk) w0 W->Calls Tryz.prog g #[z3m b off x,z3m b off y] W fun e w'=>e=.returned (.int .i64 (z5q (S x) (S y)))/\∃ m,w'=W.drewN m
def y0x (S:Nat->ByteArray) (x:Nat):List Nat->List Nat
 |[]=>[x]
 |p::R=>if Op.bytesLess (S x).toList (S p).toList then p::y0x S x R else x::p::R
def z49 (S:Nat->ByteArray) (d:List Nat):List Nat:=d.foldl (fun R x=>y0x S x R) []
theorem y39 (S:Nat->ByteArray) (x:Nat):∀ R:List Nat,(y0x S x R).length=R.length+1
 |[]=>rfl
 |p::R=>by
  rw [y0x];split
  ·rw [List.length_cons,y39 S x R,List.length_cons]
  ·rfl
theorem y49 (S:Nat->ByteArray) (d:List Nat) (x:Nat):z49 S (d++[x])=y0x S x (z49 S d):=by simp [z49]
theorem y66 (S:Nat->ByteArray) (d:List Nat):(z49 S d).length=d.length:=by
 have h:∀ (d R:List Nat),(d.foldl (fun R x=>y0x S x R) R).length=R.length+d.length:=by
  intro d;induction d with
  |nil=>intro R;rfl
  |cons x d ih=>intro R;rw [List.foldl_cons,ih,y39,List.length_cons];omega
 have:=h d [];simpa [z49] using this
theorem z8n {S:Nat->ByteArray} {x y:Nat}:∀ {R:List Nat},y∈y0x S x R->y=x\/y∈R
 |[],h=>by simp [y0x] at h;exact .inl h
 |p::R,h=>by
  rw [y0x] at h;split at h
  ·rcases List.mem_cons.1 h with h|h
   ·exact .inr (List.mem_cons.2 (.inl h))
   ·rcases z8n h with h|h
    ·exact .inl h
    ·exact .inr (List.mem_cons.2 (.inr h))
  ·rcases List.mem_cons.1 h with h|h
   ·exact .inl h
   ·exact .inr h
theorem z9r {S:Nat->ByteArray} {y:Nat} {d:List Nat} (h:y∈z49 S d):y∈d:=by
 have k:∀ (d R:List Nat),y∈d.foldl (fun R x=>y0x S x R) R->y∈R\/y∈d:=by
  intro d;induction d with
  |nil=>intro R h;exact .inl h
  |cons x d ih =>
   intro R h;rw [List.foldl_cons] at h;rcases ih _ h with h|h
   ·rcases z8n h with h|h
    ·exact .inr (List.mem_cons.2 (.inl h))
    ·exact .inl h
   ·exact .inr (List.mem_cons.2 (.inr h))
 rcases k d [] h with h|h
 ·cases h
 ·exact h
theorem v2c (b off g M:Nat) (S:Nat->ByteArray) (w0:World) (hS:∀ x,x<M->w0.cell? ⟨b,off+2*x*4+2,none⟩=some (.string (S x))) (hne:b≠g):v9b 55 b off S M g w0:=by
 intro x y W hx hy hc;have c0:=hS x hx;have c1:=hS y hy;have d0:=(hc.cell (p:=⟨b,off+2*x*4+2,none⟩) (by exact z04 c0) hne).trans c0;have d1:=(hc.cell (p:=⟨b,off+2*y*4+2,none⟩) (by exact z04 c1) hne).trans c1;have HS:=kf (fun(W:World)=>(Go.Proofs.Tryz.strings_Compare (S x) (S y) W).mono (fun e w' h=>(⟨h.1.trans (z00 (z73 _ _)),h.2⟩:e=.returned (.int .i64 (z5q (S x) (S y)))/\w'=W)));obtain⟨z,hz⟩:∃ z,z=z5q (S x) (S y):=⟨_,rfl⟩
 rw [<- hz] at HS ⊢;clear hz c0 c1 hS hc;unfold z3m;go_enter Tryz.func55,Tryz.ntmps55;go_upto_region 1 with fail;go_quiet ((go_at_call 56;refine(HS.out _).mono ?_;rintro e w2 ⟨rfl,rfl⟩;exact⟨rfl,_,rfl⟩));go_wp2_with fail;go_ret;exact⟨rfl,nq,rfl⟩
end Go.Proofs.YtnhlalkeaaiefaaGreatDoor
namespace Go.Proofs.YtnhlalkeaaiefaaGreatDoor.PS
def z48 (d:List Int) (i j:Nat):List Int:=(d.set i (d.getD j 0)).set j (d.getD i 0)
theorem z31 (d:List Int) (i j:Nat):(z48 d i j).length=d.length:=by simp [z48]
theorem z0z (d:List Int) (i j k:Nat) (hi:i<d.length) (hj:j<d.length):(z48 d i j).getD k 0=if k=j then d.getD i 0 else if k=i then d.getD j 0 else d.getD k 0:=by
 unfold z48;simp only [List.getD_eq_getElem?_getD,List.getElem?_set,List.length_set];by_cases h1:k=j
 ·subst h1;simp [hj]
 ·rw [if_neg (fun e=>h1 e.symm),if_neg h1];by_cases h2:k=i
  ·subst h2;simp [hi]
  ·rw [if_neg (fun e=>h2 e.symm),if_neg h2]
theorem y46 (d:List Int) (i j:Nat) (hi:i<d.length) (hj:j<d.length):(z48 d i j).Perm d:=by
 have e1:d.getD i 0=d[i]:=by simp [List.getD_eq_getElem?_getD,hi]
 have e2:d.getD j 0=d[j]:=by simp [List.getD_eq_getElem?_getD,hj]
 have e3:z48 d i j=(d.set i d[j]).set j d[i]:=by unfold z48;rw [e1,e2]
 rw [e3,List.perm_iff_count];intro a;rw [List.count_set (by simpa using hj),List.count_set hi];have h1:0<d.count d[i]:=List.count_pos_iff.2 (List.getElem_mem hi);have h2:0<d.count d[j]:=List.count_pos_iff.2 (List.getElem_mem hj);by_cases hij:i=j
 ·subst hij;simp only [List.getElem_set_self];by_cases ha:d[i]=a
  ·subst ha;simp
  ·simp [ha]
 ·rw [List.getElem_set_ne hij];by_cases ha:d[i]=a
  ·by_cases hb:d[j]=a
   ·subst ha;simp [hb]
   ·subst ha;simp [hb]
  ·by_cases hb:d[j]=a
   ·subst hb;simp [ha]
   ·simp [ha,hb]
structure Same (d d':List Int) (a b:Nat):Prop where
 len:d'.length=d.length
 perm:d'.Perm d
 out:∀ i,¬(a<=i/\i<b)->d'.getD i 0=d.getD i 0
 src:∀ i,a<=i->i<b->∃ j,a<=j/\j<b/\d'.getD i 0=d.getD j 0
theorem Same.refl (d:List Int) (a b:Nat):Same d d a b:=⟨rfl,List.Perm.refl _,fun _ _=>rfl,fun i h1 h2=>⟨i,h1,h2,rfl⟩⟩
theorem Same.trans {d e f:List Int} {a b:Nat} (h:Same d e a b) (k:Same e f a b):Same d f a b:=⟨k.len.trans h.len,k.perm.trans h.perm,fun i hi=>(k.out i hi).trans (h.out i hi),fun i h1 h2=>by
 obtain⟨j,j1,j2,j3⟩:=k.src i h1 h2;obtain⟨q,q1,q2,q3⟩:=h.src j j1 j2;exact⟨q,q1,q2,j3.trans q3⟩⟩
theorem Same.wide {d e:List Int} {a b a' b':Nat} (h:Same d e a b) (h1:a'<=a) (h2:b<=b'):Same d e a' b':=⟨h.len,h.perm,fun i hi=>h.out i (by omega),fun i h3 h4=>by
 by_cases hi:a<=i/\i<b
 ·obtain⟨j,j1,j2,j3⟩:=h.src i hi.1 hi.2;exact⟨j,by omega,by omega,j3⟩
 ·exact⟨i,h3,h4,h.out i hi⟩⟩
theorem Same.swap (d:List Int) (a b i j:Nat) (hb:b<=d.length) (hi:a<=i/\i<b) (hj:a<=j/\j<b):Same d (z48 d i j) a b :=
 ⟨z31 d i j,y46 d i j (by omega) (by omega),fun k hk=>by
  rw [z0z d i j k (by omega) (by omega),if_neg (by omega),if_neg (by omega)],fun k h1 h2=>by
  rw [z0z d i j k (by omega) (by omega)];by_cases h3:k=j
  ·exact⟨i,hi.1,hi.2,by rw [if_pos h3]⟩
  ·by_cases h4:k=i
   ·exact⟨j,hj.1,hj.2,by rw [if_neg h3,if_pos h4]⟩
   ·exact⟨k,h1,h2,by rw [if_neg h3,if_neg h4]⟩⟩
def Sorted (key:Int->Int) (d:List Int) (a b:Nat):Prop:=∀ i j,a<=i->i<j->j<b->key (d.getD i 0)<=key (d.getD j 0)
theorem Sorted.part {key:Int->Int} {d:List Int} {a b a' b':Nat} (h:Sorted key d a b) (h1:a<=a') (h2:b'<=b):Sorted key d a' b':=fun i j hi hij hj=>h i j (by omega) hij (by omega)
theorem Sorted.le {key:Int->Int} {d:List Int} {a b i j:Nat} (h:Sorted key d a b) (hi:a<=i) (hij:i<=j) (hj:j<b):key (d.getD i 0)<=key (d.getD j 0):=by
 rcases Nat.eq_or_lt_of_le hij with e|e
 ·subst e;exact Int.le_refl _
 ·exact h i j hi e hj
theorem Sorted.congr {key:Int->Int} {d e:List Int} {a b:Nat} (h:Sorted key d a b) (he:∀ i,a<=i->i<b->e.getD i 0=d.getD i 0):Sorted key e a b:=fun i j hi hij hj=>by
 rw [he i hi (by omega),he j (by omega) hj];exact h i j hi hij hj
theorem v1f {key:Int->Int} {d d':List Int} {a b i:Nat} (h1:a+1<=i) (h2:i<=b) (f1:∀ q,a<=q->q+1<i->d'.getD q 0=d.getD (q+1) 0) (f2:d'.getD (i-1) 0=d.getD a 0) (f3:∀ q,i<=q->q<b->d'.getD q 0=d.getD q 0)
  (k1:∀ k,a<k->k<i->key (d.getD k 0)<=key (d.getD a 0)) (k2:∀ k,i<=k->k<b->key (d.getD a 0)<=key (d.getD k 0)) (hs:Sorted key d (a+1) b):Sorted key d' a b:=by
 intro p q hp hpq hq;by_cases c1:p+1<i
 ·rw [f1 p hp c1];by_cases c2:q+1<i
  ·rw [f1 q (by omega) c2];exact hs.le (by omega) (by omega) (by omega)
  ·by_cases c3:q+1=i
   ·rw [show q=i-1 from by omega,f2];exact k1 _ (by omega) (by omega)
   ·rw [f3 q (by omega) hq];exact Int.le_trans (k1 (p+1) (by omega) (by omega)) (k2 q (by omega) hq)
 ·by_cases c3:p+1=i
  ·rw [show p=i-1 from by omega,f2,f3 q (by omega) hq];exact k2 q (by omega) hq
  ·rw [f3 p (by omega) (by omega),f3 q (by omega) hq];exact hs.le (by omega) (by omega) hq
theorem y7s {key:Int->Int} {d d':List Int} {a m i:Nat} (h1:a<=i) (h2:i<=m) (f1:∀ q,i<q->q<=m->d'.getD q 0=d.getD (q-1) 0) (f2:d'.getD i 0=d.getD m 0) (f3:∀ q,a<=q->q<i->d'.getD q 0=d.getD q 0)
  (k1:∀ k,a<=k->k<i->key (d.getD k 0)<=key (d.getD m 0)) (k2:∀ k,i<=k->k<m->key (d.getD m 0)<=key (d.getD k 0)) (hs:Sorted key d a m):Sorted key d' a (m+1):=by
 intro p q hp hpq hq;by_cases c1:p<i
 ·rw [f3 p hp c1];by_cases c2:q<i
  ·rw [f3 q (by omega) c2];exact hs.le hp (by omega) (by omega)
  ·by_cases c3:q=i
   ·rw [c3,f2];exact k1 p hp c1
   ·rw [f1 q (by omega) (by omega)];exact hs.le hp (by omega) (by omega)
 ·by_cases c3:p=i
  ·rw [c3,f2,f1 q (by omega) (by omega)];exact k2 _ (by omega) (by omega)
  ·rw [f1 p (by omega) (by omega),f1 q (by omega) (by omega)];exact hs.le (by omega) (by omega) (by omega)
theorem z3f {key:Int->Int} {d d1:List Int} {a m b s e mid:Nat} (h1:a<=s) (h2:s<=m) (h3:m<=e) (h4:e<=b) (hmid:mid+m=s+e) (s1:Sorted key d a m) (s2:Sorted key d m b)
  (x1:∀ x y,a<=x->x<s->e<=y->y<b->key (d.getD x 0)<=key (d.getD y 0)) (x2:∀ x y,s<=x->x<m->m<=y->y<e->key (d.getD y 0)<=key (d.getD x 0))
  (f:∀ k,s<=k->k<e->d1.getD k 0=if k<mid then d.getD (m+(k-s)) 0 else d.getD (k-(e-m)) 0) (fo:∀ k,¬(s<=k/\k<e)->d1.getD k 0=d.getD k 0) :
  Sorted key d1 a s/\Sorted key d1 s mid/\Sorted key d1 mid e/\Sorted key d1 e b/\∀ x y,a<=x->x<mid->mid<=y->y<b->key (d1.getD x 0)<=key (d1.getD y 0):=by
 refine⟨(s1.part (Nat.le_refl _) h2).congr (fun i _ hi=>fo i (by omega)),?_,?_,(s2.part h3 (Nat.le_refl _)).congr (fun i hi _=>fo i (by omega)),?_⟩
 ·intro i j hi hij hj;rw [f i hi (by omega),f j (by omega) (by omega),if_pos (by omega),if_pos hj];exact s2.le (by omega) (by omega) (by omega)
 ·intro i j hi hij hj;rw [f i (by omega) (by omega),f j (by omega) hj,if_neg (by omega),if_neg (by omega)];exact s1.le (by omega) (by omega) (by omega)
 ·intro x y hx hxm hy hyb;by_cases c1:x<s
  ·rw [fo x (by omega)];by_cases c2:y<e
   ·rw [f y (by omega) c2,if_neg (by omega)];exact s1.le hx (by omega) (by omega)
   ·rw [fo y (by omega)];exact x1 x y hx c1 (by omega) hyb
  ·rw [f x (by omega) (by omega),if_pos hxm];by_cases c2:y<e
   ·rw [f y (by omega) c2,if_neg (by omega)];exact x2 _ _ (by omega) (by omega) (by omega) (by omega)
   ·rw [fo y (by omega)];exact s2.le (by omega) (by omega) hyb
theorem z02 {key:Int->Int} {d1 d2 d3:List Int} {a mid b:Nat} (h:Same d1 d2 a mid) (k:Same d2 d3 mid b) (hs:Sorted key d2 a mid) (ks:Sorted key d3 mid b)
  (hx:∀ x y,a<=x->x<mid->mid<=y->y<b->key (d1.getD x 0)<=key (d1.getD y 0)):Sorted key d3 a b:=by
 intro p q hp hpq hq;by_cases c1:q<mid
 ·rw [k.out p (by omega),k.out q (by omega)];exact hs p q hp hpq c1
 ·by_cases c2:p<mid
  ·obtain⟨x,x1,x2,x3⟩:=h.src p hp c2;obtain⟨y,y1,y2,y3⟩:=k.src q (by omega) hq;rw [k.out p (by omega),x3,y3,h.out y (by omega)];exact hx x y x1 x2 y1 y2
  ·exact ks p q (by omega) hpq hq
def kk (key:Int->Int) (N:Int) (x:Int):Int:=key x*N+x
theorem v7k {key:Int->Int} {N x y:Int} (hx:0<=x/\x<N) (hy:0<=y/\y<N):kk key N x<kk key N y↔key x<key y\/(key x=key y/\x<y):=by
 have h1:∀ {a b:Int},a<b->a*N+N<=b*N:=fun {a b} h=>by
  have:=Int.mul_le_mul_of_nonneg_right (show a+1<=b from h) (show 0<=N by omega);rw [Int.add_mul,Int.one_mul] at this;exact this
 unfold kk;constructor
 ·intro h;rcases Int.lt_trichotomy (key x) (key y) with h2|h2|h2
  ·exact .inl h2
  ·rw [h2] at h;exact .inr ⟨h2,by omega⟩
  ·have:=h1 h2;omega
 ·rintro(h|⟨h,h2⟩)
  ·have:=h1 h;omega
  ·rw [h];omega
theorem kk_le {key:Int->Int} {N x y:Int} (hx:0<=x/\x<N) (hy:0<=y/\y<N) (h:kk key N x<=kk key N y):key x<=key y/\(key x=key y->x<=y):=by
 have h1:=mt (v7k (key:=key) hy hx).2 (by omega);exact⟨by omega,fun e=>by omega⟩
def InTurn (key:Int->Int) (d:List Int):Prop:=∀ p q,p<q->q<d.length->key (d.getD p 0)=key (d.getD q 0)->d.getD p 0<=d.getD q 0
theorem InTurn.part {key:Int->Int} {d d':List Int} {a b:Nat} (h:InTurn key d) (hs:Same d d' a b) (hb:b<=d.length) (hq:∀ p q,a<=p->p<q->q<b->key (d'.getD p 0)=key (d'.getD q 0)->d'.getD p 0<=d'.getD q 0):InTurn key d':=by
 intro p q hpq hq2 he;have hlen:=hs.len;by_cases hp:a<=p/\p<b
 ·by_cases hq3:q<b
  ·exact hq p q hp.1 hpq hq3 he
  ·obtain⟨p',h1,h2,h3⟩:=hs.src p hp.1 hp.2;rw [h3,hs.out q (by omega)] at he ⊢;exact h p' q (by omega) (by omega) he
 ·by_cases hq3:a<=q/\q<b
  ·obtain⟨q',h1,h2,h3⟩:=hs.src q hq3.1 hq3.2;rw [hs.out p hp,h3] at he ⊢;exact h p q' (by omega) (by omega) he
  ·rw [hs.out p hp,hs.out q hq3] at he ⊢;exact h p q hpq (by omega) he
theorem InTurn.same {key0 key:Int->Int} {N:Int} {d d':List Int} {a b:Nat} (hk:key=kk key0 N) (h:InTurn key0 d) (hs:Same d d' a b) (hb:b<=d.length) (hg:∀ i,i<d'.length->0<=d'.getD i 0/\d'.getD i 0<N) (hq:Sorted key d' a b):InTurn key0 d':=by
 subst hk;have hlen:=hs.len;exact h.part hs hb fun p q h1 h2 h3 he=>(kk_le (hg p (by omega)) (hg q (by omega)) (hq p q h1 h2 h3)).2 he
theorem z7m {key0 key:Int->Int} {N:Int} {d d1:List Int} {a m b s e mid:Nat} (hk:key=kk key0 N) (h1:a<=s) (h2:s<=m) (h3:m<=e) (h4:e<=b) (hmid:mid+m=s+e) (hb:b<=d.length) (hst:InTurn key0 d) (hs:Same d d1 a b) (hg:∀ i,i<d1.length->0<=d1.getD i 0/\d1.getD i 0<N)
  (hm:Sorted key d1 a s/\Sorted key d1 s mid/\Sorted key d1 mid e/\Sorted key d1 e b/\∀ x y,a<=x->x<mid->mid<=y->y<b->key (d1.getD x 0)<=key (d1.getD y 0))
  (f:∀ k,s<=k->k<e->d1.getD k 0=if k<mid then d.getD (m+(k-s)) 0 else d.getD (k-(e-m)) 0) (fo:∀ k,¬(s<=k/\k<e)->d1.getD k 0=d.getD k 0):InTurn key0 d1:=by
 subst hk;obtain⟨m1,m2,m3,m4,m5⟩:=hm;have hlen:=hs.len;refine hst.part hs hb fun p q hp hpq hq he=>?_;have hle:kk key0 N (d1.getD p 0)<=kk key0 N (d1.getD q 0)->d1.getD p 0<=d1.getD q 0:=fun h=>(kk_le (hg p (by omega)) (hg q (by omega)) h).2 he;by_cases c1:p<mid
 ·by_cases c2:mid<=q
  ·exact hle (m5 p q hp c1 c2 hq)
  ·by_cases c3:q<s
   ·exact hle (m1 p q hp hpq c3)
   ·by_cases c4:s<=p
    ·exact hle (m2 p q c4 hpq (by omega))
    ·rw [fo p (by omega),f q (by omega) (by omega),if_pos (by omega)] at he ⊢;exact hst _ _ (by omega) (by omega) he
 ·by_cases c3:q<e
  ·exact hle (m3 p q (by omega) hpq c3)
  ·by_cases c4:e<=p
   ·exact hle (m4 p q c4 hpq hq)
   ·rw [f p (by omega) (by omega),if_neg c1,fo q (by omega)] at he ⊢;exact hst _ _ (by omega) (by omega) he
open Go.RowKit
class PAd where
 ad:Int->Addr
def icells [PAd] (d:List Int):List Value:=d.map fun x=>.slice (some (PAd.ad x)) 2 2
def Row [PAd] (w:World) (g cap:Nat) (d:List Int):Prop:=w.ownsRow 0 23 1 (.slice (some ⟨g,0,none⟩) d.length cap) d.length (icells d)
theorem Row.drewN [PAd] {w:World} {g cap:Nat} {d:List Int} (h:Row w g cap d) (n:Nat):Row (w.drewN n) g cap d:=y73 h n
theorem Row.drew [PAd] {w:World} {g cap:Nat} {d:List Int} (h:Row w g cap d):Row w.drew g cap d:=v13 h
theorem Row.cell [PAd] {w:World} {g cap:Nat} {d:List Int} (h:Row w g cap d) (i:Nat) (hi:i<d.length):w.cell? ⟨g,i,none⟩=some (.slice (some (PAd.ad (d.getD i 0))) 2 2):=by
 have h1:=World.ownsRow.cellAt h i (by omega);rw [h1];simp [icells,List.getD_eq_getElem?_getD,hi]
theorem Row.set [PAd] {w:World} {g cap:Nat} {d:List Int} (h:Row w g cap d) (i:Nat) (x:Int):Row (w.setCell ⟨g,i,none⟩ (.slice (some (PAd.ad x)) 2 2)) g cap (d.set i x):=by
 have h1:=(World.ownsRow.stored h i (.slice (some (PAd.ad x)) 2 2)).1;have e:(icells d).set i (.slice (some (PAd.ad x)) 2 2)=icells (d.set i x):=by simp [icells,List.map_set]
 rw [e] at h1;unfold Row;rw [List.length_set];exact h1
theorem Row.frozen [PAd] {w:World} {g cap:Nat} {d:List Int} (h:Row w g cap d) (i:Nat):w.frozen? ⟨g,i,none⟩=false:=World.ownsRow.frozenAt h i
theorem Row.swap [PAd] {w:World} {g cap:Nat} {d:List Int} (h:Row w g cap d) (i j:Nat):Row ((w.setCell ⟨g,i,none⟩ (.slice (some (PAd.ad (d.getD j 0))) 2 2)).setCell ⟨g,j,none⟩ (.slice (some (PAd.ad (d.getD i 0))) 2 2)) g cap (z48 d i j):=(h.set i _).set j _
def z4u [PAd] (w:World) (g cap:Nat) (d:List Int) (a b:Nat) (R:List Int->Prop) (e:Ending) (w':World):Prop :=
 e=.returned (.tuple #[])/\∃ d',Row w' g cap d'/\Same d d' a b/\R d'/\Chg (fun i=>i=g) w w'
theorem z8b [PAd] (g cap a b n:Nat) (f:Value) (d:List Int) (w:World) (hR:Row w g cap d) (hab:a+n<=b) (hb:b+n<=d.length) (hL:d.length<=1000000) :
  Calls Tryz.prog 192 #[.slice (some ⟨g,0,none⟩) d.length cap,.int .i64 a,.int .i64 b,.int .i64 n,f] w
   (z4u w g cap d a (b+n) (fun d'=>∀ k,d'.getD k 0=if a<=k/\k<a+n then d.getD (b+(k-a)) 0 else if b<=k/\k<b+n then d.getD (a+(k-b)) 0 else d.getD k 0)):=by
 have HR:=kf hR;clear hR;obtain⟨N,hN⟩:∃ N,N=d.length:=⟨_,rfl⟩
 have HN:=kf hN;rw [<- hN] at hb hL ⊢;clear hN;go_enter Tryz.func192,Tryz.ntmps192;go_wp2_with fail;go_loopw [10] (fun i wr=>∃ k:Nat,∃ d1:List Int,k<=n/\i=.int .i64 k/\d1.length=N/\Row wr g cap d1/\Hid (Same d d1 a (b+n))/\Hid (∀ q,d1.getD q 0=if a<=q/\q<a+k then d.getD (b+(q-a)) 0 else if b<=q/\q<b+k then d.getD (a+(q-b)) 0 else d.getD q 0)/\Chg (fun i=>i=g) w wr) (fun i _=>n-(intOf i).toNat)
 case atStart=>exact⟨0,d,Nat.zero_le _,rfl,HN.out.symm,HR.out,Same.refl _ _ _,fun q=>by rw [if_neg (by omega),if_neg (by omega)],Chg.refl _ _⟩
 case round =>
  obtain⟨k,d1,hk,rfl,hl1,hRw,hSm,hQ,hch⟩:=hrel;have HRw:=kf hRw;have HCh:=kf hch;clear hRw hch HR;by_cases hlt:k<n
  ·have c1:=HRw.out.cell (a+k) (by omega);have c2:=HRw.out.cell (b+k) (by omega);have f1:=HRw.out.frozen (a+k);have f2:=HRw.out.frozen (b+k);obtain⟨x,hx⟩:∃ x,x=d1.getD (a+k) 0:=⟨_,rfl⟩
   obtain⟨y,hy⟩:∃ y,y=d1.getD (b+k) 0:=⟨_,rfl⟩
   rw [<- hx] at c1;rw [<- hy] at c2;have HX:=kf hx;have HY:=kf hy;clear hx hy;have e1:IntKind.i64.wrap ((a:Int)+k)=(a:Int)+k:=by rw [IntKind.wrap_i64];omega
   have e2:IntKind.i64.wrap ((b:Int)+k)=(b:Int)+k:=by rw [IntKind.wrap_i64];omega
   have b1:(a:Int)+k<N:=by omega
   have b2:(b:Int)+k<N:=by omega
   have b3:0<=(a:Int)+k:=by omega
   have b4:0<=(b:Int)+k:=by omega
   have t1:((a:Int)+k).toNat=a+k:=by omega
   have t2:((b:Int)+k).toNat=b+k:=by omega
   go_upto_region 3 with fail;go_region
   go_wp2_with fail;go_roundw
   case rel =>
    have hsw:=HRw.out.swap (a+k) (b+k);rw [<- HX.out,<- HY.out] at hsw;refine⟨k+1,z48 d1 (a+k) (b+k),by omega,by go_num,by rw [z31];exact hl1,hsw.drew,hSm.out.trans (Same.swap d1 a (b+n) (a+k) (b+k) (by omega) (by omega) (by omega)),?_,((HCh.out.setCell (p:=⟨g,a+k,none⟩) (fun _=>rfl) _).setCell (p:=⟨g,b+k,none⟩) (fun _=>rfl) _).drew⟩;intro q;rw [z0z d1 _ _ q (by omega) (by omega)];have hq0:=hQ.out;by_cases h1:q=b+k
    ·subst h1;rw [if_pos rfl,if_neg (show ¬(a<=b+k/\b+k<a+(k+1)) by omega),if_pos (show b<=b+k/\b+k<b+(k+1) by omega),hq0,if_neg (show ¬(a<=a+k/\a+k<a+k) by omega),if_neg (show ¬(b<=a+k/\a+k<b+k) by omega)];congr 1;omega
    ·rw [if_neg h1];by_cases h2:q=a+k
     ·subst h2;rw [if_pos rfl,if_pos (show a<=a+k/\a+k<a+(k+1) by omega),hq0,if_neg (show ¬(a<=b+k/\b+k<a+k) by omega),if_neg (show ¬(b<=b+k/\b+k<b+k) by omega)];congr 1;omega
     ·rw [if_neg h2,hq0];by_cases h3:a<=q/\q<a+k
      ·rw [if_pos h3,if_pos (show a<=q/\q<a+(k+1) by omega)]
      ·rw [if_neg h3,if_neg (show ¬(a<=q/\q<a+(k+1)) by omega)];by_cases h4:b<=q/\q<b+k
       ·rw [if_pos h4,if_pos (show b<=q/\q<b+(k+1) by omega)]
       ·rw [if_neg h4,if_neg (show ¬(b<=q/\q<b+(k+1)) by omega)]
   case measure=>simp [intOf];omega
  ·obtain rfl:n=k:=by omega
   go_wp2_with fail;go_end0;exact⟨rfl,d1,HRw.out,hSm.out,hQ.out,HCh.out⟩
theorem z7r [PAd] (g cap a m b:Nat) (f:Value) (d:List Int) (w:World) (hR:Row w g cap d) (ham:a<m) (hmb:m<b) (hb:b<=d.length) (hL:d.length<=1000000) :
  Calls Tryz.prog 163 #[.slice (some ⟨g,0,none⟩) d.length cap,.int .i64 a,.int .i64 m,.int .i64 b,f] w
   (z4u w g cap d a b (fun d'=>∀ k,a<=k->k<b->d'.getD k 0=if k<a+(b-m) then d.getD (m+(k-a)) 0 else d.getD (k-(b-m)) 0)):=by
 have HR:=kf hR;clear hR;obtain⟨N,hN⟩:∃ N,N=d.length:=⟨_,rfl⟩
 have HN:=kf hN;rw [<- hN] at hb hL ⊢;clear hN
 have HSW:Hid (∀ (W:World) (d1:List Int) (a' b' n':Nat),d1.length=N->Row W g cap d1->a'+n'<=b'->b'+n'<=N ->
   Calls Tryz.prog 192 #[.slice (some ⟨g,0,none⟩) N cap,.int .i64 a',.int .i64 b',.int .i64 n',f] W
   (z4u W g cap d1 a' (b'+n') (fun d'=>∀ k,d'.getD k 0=if a'<=k/\k<a'+n' then d1.getD (b'+(k-a')) 0 else if b'<=k/\k<b'+n' then d1.getD (a'+(k-b')) 0 else d1.getD k 0))):=by
  intro W d1 a' b' n' h1 h2 h3 h4;subst h1;exact z8b g cap a' b' n' f d1 W h2 h3 h4 hL
 obtain⟨T,hT⟩:∃ T:Nat->Int,∀ k,T k=if k<a+(b-m) then d.getD (m+(k-a)) 0 else d.getD (k-(b-m)) 0:=⟨_,fun _=>rfl⟩
 have HT:=kf hT;clear hT;go_enter Tryz.func163,Tryz.ntmps163;go_wp2_with fail
 go_loopw [10,11] (fun vi vj wr=>∃ i j:Nat,∃ d1:List Int,0<i/\0<j/\i<=m-a/\j<=b-m/\vi=.int .i64 i/\vj=.int .i64 j/\d1.length=N/\Row wr g cap d1/\Hid (Same d d1 a b) /\
   Hid ((∀ k,a<=k->k<b->¬(m-i<=k/\k<m+j)->d1.getD k 0=T k)/\(∀ y,y<j->T (m-i+y)=d1.getD (m+y) 0)/\(∀ x,x<i->T (m-i+j+x)=d1.getD (m-i+x) 0))/\Chg (fun i=>i=g) w wr) (fun vi vj _=>(intOf vi).toNat+(intOf vj).toNat)
 case atStart =>
  refine⟨m-a,b-m,d,by omega,by omega,by omega,by omega,by go_num,by go_num,HN.out.symm,HR.out,Same.refl _ _ _,⟨fun k h1 h2 h3=>absurd ⟨by omega,by omega⟩ h3,fun y hy=>?_,fun x hx=>?_⟩,Chg.refl _ _⟩
  ·rw [HT.out,if_pos (by omega)];congr 1;omega
  ·rw [HT.out,if_neg (by omega)];congr 1;omega
 case round =>
  obtain⟨i,j,d1,hi0,hj0,hi,hj,rfl,rfl,hl1,hRw,hSm,hQ,hch⟩:=hrel;have HRw:=kf hRw;have HCh:=kf hch;clear hRw hch HR;have emi:((m:Int)-i)=((m-i:Nat):Int):=by omega
  have HMI:=kf emi;clear emi;by_cases hij:i=j
  ·subst hij;go_wp2_with (go_at_call 192;rw [HMI.out];refine(HSW.out _ d1 (m-i) m i hl1 HRw.out (by omega) (by omega)).mono ?_;rintro e w3 ⟨rfl,d3,hr3,hs3,hq3,hc3⟩;have HR3:=kf hr3;have HS3:=kf hs3;have HQ3:=kf hq3;have HC3:=kf hc3;clear hr3 hs3 hq3 hc3);go_end0;refine⟨rfl,d3,HR3.out,hSm.out.trans (HS3.out.wide (by omega) (by omega)),fun k h1 h2=>?_,HCh.out.trans HC3.out (fun _ _ h=>h)⟩;obtain⟨hA,hB,hC⟩:=hQ.out;rw [<- HT.out,HQ3.out];by_cases h3:m-i<=k/\k<m-i+i
   ·rw [if_pos h3,<- hB _ (by omega)];congr 1;omega
   ·rw [if_neg h3];by_cases h4:m<=k/\k<m+i
    ·rw [if_pos h4,<- hC _ (by omega)];congr 1;omega
    ·rw [if_neg h4];exact hA k h1 h2 (by omega)
  ·by_cases hlt:j<i
   ·have hlt':(j:Int)<i:=by omega
    have hne':¬((i:Int)=(j:Int)):=by omega
    go_wp2_with (go_at_call 192;rw [HMI.out];refine(HSW.out _ d1 (m-i) m j hl1 HRw.out (by omega) (by omega)).mono ?_;rintro e w3 ⟨rfl,d3,hr3,hs3,hq3,hc3⟩;have HR3:=kf hr3;have HS3:=kf hs3;have HQ3:=kf hq3;have HC3:=kf hc3;clear hr3 hs3 hq3 hc3);go_roundw
    case rel =>
     refine⟨i-j,j,d3,by omega,by omega,by omega,by omega,by go_num,rfl,by rw [HS3.out.len];exact hl1,HR3.out,hSm.out.trans (HS3.out.wide (by omega) (by omega)),?_,HCh.out.trans HC3.out (fun _ _ h=>h)⟩;obtain⟨hA,hB,hC⟩:=hQ.out;refine⟨fun k h1 h2 h3=>?_,fun y hy=>?_,fun x hx=>?_⟩
     ·rw [HQ3.out];by_cases h4:m-i<=k/\k<m-i+j
      ·rw [if_pos h4,<- hB _ (by omega)];congr 1;omega
      ·rw [if_neg h4,if_neg (show ¬(m<=k/\k<m+j) by omega)];exact hA k h1 h2 (by omega)
     ·rw [HQ3.out,if_neg (show ¬(m-i<=m+y/\m+y<m-i+j) by omega),if_pos (show m<=m+y/\m+y<m+j by omega),show m-i+(m+y-m)=m-i+y from by omega,<- hC y (by omega)];congr 1;omega
     ·rw [HQ3.out,if_neg (show ¬(m-i<=m-(i-j)+x/\m-(i-j)+x<m-i+j) by omega),if_neg (show ¬(m<=m-(i-j)+x/\m-(i-j)+x<m+j) by omega),show m-(i-j)+x=m-i+(j+x) from by omega,<- hC (j+x) (by omega)];congr 1;omega
    case measure=>simp [intOf];omega
   ·have hlt':decide ((j:Int)<i)=false:=by simp;omega
    have hne':¬((i:Int)=(j:Int)):=by omega
    have emj:((m:Int)+j-i)=((m+j-i:Nat):Int):=by omega
    have HMJ:=kf emj;clear emj;go_wp2_with (go_at_call 192;rw [HMI.out,HMJ.out];refine(HSW.out _ d1 (m-i) (m+j-i) i hl1 HRw.out (by omega) (by omega)).mono ?_;rintro e w3 ⟨rfl,d3,hr3,hs3,hq3,hc3⟩;have HR3:=kf hr3;have HS3:=kf hs3;have HQ3:=kf hq3;have HC3:=kf hc3;clear hr3 hs3 hq3 hc3);go_roundw
    case rel =>
     refine⟨i,j-i,d3,by omega,by omega,by omega,by omega,rfl,by go_num,by rw [HS3.out.len];exact hl1,HR3.out,hSm.out.trans (HS3.out.wide (by omega) (by omega)),?_,HCh.out.trans HC3.out (fun _ _ h=>h)⟩;obtain⟨hA,hB,hC⟩:=hQ.out;refine⟨fun k h1 h2 h3=>?_,fun y hy=>?_,fun x hx=>?_⟩
     ·rw [HQ3.out,if_neg (show ¬(m-i<=k/\k<m-i+i) by omega)];by_cases h4:m+j-i<=k/\k<m+j-i+i
      ·rw [if_pos h4,<- hC _ (by omega)];congr 1;omega
      ·rw [if_neg h4];exact hA k h1 h2 (by omega)
     ·rw [HQ3.out,if_neg (show ¬(m-i<=m+y/\m+y<m-i+i) by omega),if_neg (show ¬(m+j-i<=m+y/\m+y<m+j-i+i) by omega),<- hB y (by omega)]
     ·rw [HQ3.out,if_pos (show m-i<=m-i+x/\m-i+x<m-i+i by omega),show m+j-i+(m-i+x-(m-i))=m+(j-i+x) from by omega,<- hB (j-i+x) (by omega)];congr 1;omega
    case measure=>simp [intOf];omega
def cmpv (a b:Int):Int:=if a<b then -1 else if b<a then 1 else 0
theorem v5n (a b:Int):decide (cmpv a b<0)=decide (a<b):=by
 unfold cmpv;by_cases h:a<b
 ·simp [h]
 ·rw [if_neg h];by_cases h2:b<a
  ·simp [h2,h]
  ·simp [h2,h]
def CmpOf [PAd] (g:Nat) (lb:Array Value) (key:Int->Int) (N:Int) (blk:Nat) (w0:World):Prop :=
 ∀ (x y:Int) (W:World),0<=x->x<N->0<=y->y<N->Chg (fun i=>i=blk) w0 W->Calls Tryz.prog g (#[.slice (some (PAd.ad x)) 2 2,.slice (some (PAd.ad y)) 2 2]++lb) W fun e w'=>e=.returned (.int .i64 (cmpv (key x) (key y)))/\∃ m,w'=W.drewN m
def Good (N:Int) (d:List Int):Prop:=∀ x∈d,0<=x/\x<N
theorem Good.get {N:Int} {d:List Int} (h:Good N d) (i:Nat) (hi:i<d.length):0<=d.getD i 0/\d.getD i 0<N:=by
 have e:d.getD i 0=d[i]:=by simp [List.getD_eq_getElem?_getD,hi]
 rw [e];exact h _ (List.getElem_mem hi)
theorem Good.same {N:Int} {d d':List Int} {a b:Nat} (h:Good N d) (k:Same d d' a b):Good N d':=fun x hx=>h x (k.perm.mem_iff.1 hx)
theorem z0y (w:World) (m n:Nat):(w.drewN m).drewN n=w.drewN (m+n):=by simp [World.drewN,Nat.add_assoc]
theorem z7v {P:Program} {f:FuncId} {args:Array Value} {w:World} {n:Nat} {v:Value}
  (h:Calls P f args (w.drewN n) fun e w'=>e=.returned v/\∃ m,w'=(w.drewN n).drewN m):Calls P f args (w.drewN n) fun e w''=>e=.returned v/\∃ m,w''=w.drewN m :=
 h.mono fun _ _ ⟨he,m,hm⟩=>⟨he,n+m,by rw [hm,z0y]⟩
theorem y0q {key0 key:Int->Int} {N:Int} {d:List Int} {i j:Nat} (hk:key=kk key0 N) (hst:InTurn key0 d) (hg:Good N d) (hji:j<i) (hi:i<d.length) :
  decide (cmpv (key0 (d.getD i 0)) (key0 (d.getD j 0))<0)=decide (key (d.getD i 0)<key (d.getD j 0)):=by
 subst hk;rw [v5n];have h1:=v7k (key:=key0) (hg.get i hi) (hg.get j (by omega));have h2:=hst j i hji hi;rw [decide_eq_decide,h1];omega
end Go.Proofs.YtnhlalkeaaiefaaGreatDoor.PS
