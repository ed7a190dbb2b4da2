import Derived.Test.YtmibnkddappgiaaGreatDoorK17
set_option linter.unusedVariables false
set_option maxHeartbeats 64000000
set_option maxRecDepth 100000
set_option linter.unusedSimpArgs false
namespace Go.Proofs.YtmibnkddappgiaaGreatDoor
open Go.RowKit
theorem Stk.top {w0 w:World} {gs b1 b2 c:Nat} {c1 c2:Array Value} {fs:List FrM} {f:FrM} {S:Option Addr} {O:Nat->Prop} (h:Stk w0 w gs b1 b2 c1 c2 (fs++[f]) S c O):∃ g,S=some ⟨g,0,none⟩/\fs.length+1<=c /\
  w.cell? ⟨g,fs.length*4,none⟩=some (.int .i64 f.k)/\w.cell? ⟨g,fs.length*4+1,none⟩=some (.int .i64 0)/\w.cell? ⟨g,fs.length*4+2,none⟩=some (.string ⟨#[]⟩)/\w.cell? ⟨g,fs.length*4+3,none⟩=some (.slice f.A f.ts.length f.c):=by
 obtain⟨g,cap,e,h1,h2⟩:=v00 h.row (by simp);simp only [Value.slice.injEq] at e;obtain⟨rfl,_,rfl⟩:=e;have hr:=h.row;rw [List.length_append] at h1
 have hc:∀ i,i<4->w.cell? ⟨g,fs.length*4+i,none⟩=f.vc.cells[i]?:=fun i hi=>by
  have h3:=World.ownsRow.cellAt hr (fs.length*4+i) (by rw [List.length_append];simp only [List.length_singleton];omega);rw [h3];exact z2n (by simp) hi
 exact⟨g,rfl,h1,hc 0 (by decide),hc 1 (by decide),hc 2 (by decide),hc 3 (by decide)⟩
theorem y5q (S:Option Addr) (c:Nat) (kind:Int) (w:World):Calls Tryz.prog 126 #[.slice S 0 c,.int .i64 kind] w fun e w'=>e=.returned (.int .i64 0)/\w'=w:=by
 go_enter Tryz.func126,Tryz.ntmps126;go_wp2_with fail;go_ret;exact⟨rfl,rfl⟩
theorem y5p (g n m c:Nat) (A:Option Addr) (q fc:Nat) (k kind:Int) (w:World) (hn:n=m+1) (hb:n<=1000000) (hc:n<=c) (hq:q<=1000000000) (h0:w.cell? ⟨g,m*4,none⟩=some (.int .i64 k)) (h3:w.cell? ⟨g,m*4+3,none⟩=some (.slice A q fc)) :
  Calls Tryz.prog 126 #[.slice (some ⟨g,0,none⟩) n c,.int .i64 kind] w fun e w'=>e=.returned (.int .i64 (if k=7/\q%2=0/\kind≠5 then 11 else if 64<=n then 15 else 0))/\w'=w:=by
 have e1:(n:Int)-1=(m:Int):=by omega
 have b1:(0:Int)<n:=by omega
 have b2:(m:Int)<n:=by omega
 have b3:decide ((0:Int)<n)=true:=by simp;omega
 have b4:decide (0<n)=true:=by simp;omega
 have HN:=kf hn;clear hn;have HE:∀ z:Int,(if k=7/\q%2=0/\kind≠5 then 11 else if 64<=n then 15 else 0)=z->Hid ((if k=7/\q%2=0/\kind≠5 then(11:Int) else if 64<=n then 15 else 0)=z):=fun _ h=>h;by_cases h64:64<=n
 ·have d1:decide ((64:Int)<=n)=true:=by simp;omega
  have d1':decide (64<=n)=true:=by simp;omega
  by_cases hk:k=7
  ·subst hk;by_cases hq2:q%2=0
   ·have t1:(q:Int).tmod 2=0:=by rw [Int.tmod_eq_emod_of_nonneg (by omega)];omega
    have t2:(q:Int)%2=0:=by omega
    by_cases hk5:kind=5
    ·subst hk5;have HZ:=HE 15 (by rw [if_neg (by simp),if_pos h64]);rw [HZ.out];clear HE;go_enter Tryz.func126,Tryz.ntmps126;go_wp2_with fail;go_ret;exact⟨rfl,rfl⟩
    ·have HZ:=HE 11 (by rw [if_pos ⟨rfl,hq2,hk5⟩]);rw [HZ.out];have d2:(kind != 5)=true:=by simpa using hk5
     have d3:(kind==5)=false:=by simpa using hk5
     clear HE;go_enter Tryz.func126,Tryz.ntmps126;go_wp2_with fail;go_ret;exact⟨rfl,rfl⟩
   ·have HZ:=HE 15 (by rw [if_neg (fun h=>hq2 h.2.1),if_pos h64]);rw [HZ.out];have t0:q%2=1:=by omega
    have t1:(q:Int).tmod 2=1:=by rw [Int.tmod_eq_emod_of_nonneg (by omega)];omega
    have t2:(q:Int)%2=1:=by omega
    clear HE hq2;go_enter Tryz.func126,Tryz.ntmps126;go_wp2_with fail;go_ret;exact⟨rfl,rfl⟩
  ·have HZ:=HE 15 (by rw [if_neg (fun h=>hk h.1),if_pos h64]);rw [HZ.out];have d2:(k==7)=false:=by simpa using hk
   clear HE;go_enter Tryz.func126,Tryz.ntmps126;go_wp2_with fail;go_ret;exact⟨rfl,rfl⟩
 ·have d1:decide ((64:Int)<=n)=false:=by simp;omega
  have d1':decide (64<=n)=false:=by simp;omega
  by_cases hk:k=7
  ·subst hk;by_cases hq2:q%2=0
   ·have t1:(q:Int).tmod 2=0:=by rw [Int.tmod_eq_emod_of_nonneg (by omega)];omega
    have t2:(q:Int)%2=0:=by omega
    by_cases hk5:kind=5
    ·subst hk5;have HZ:=HE 0 (by rw [if_neg (by simp),if_neg h64]);rw [HZ.out];clear HE;go_enter Tryz.func126,Tryz.ntmps126;go_wp2_with fail;go_ret;exact⟨rfl,rfl⟩
    ·have HZ:=HE 11 (by rw [if_pos ⟨rfl,hq2,hk5⟩]);rw [HZ.out];have d2:(kind != 5)=true:=by simpa using hk5
     have d3:(kind==5)=false:=by simpa using hk5
     clear HE;go_enter Tryz.func126,Tryz.ntmps126;go_wp2_with fail;go_ret;exact⟨rfl,rfl⟩
   ·have HZ:=HE 0 (by rw [if_neg (fun h=>hq2 h.2.1),if_neg h64]);rw [HZ.out];have t0:q%2=1:=by omega
    have t1:(q:Int).tmod 2=1:=by rw [Int.tmod_eq_emod_of_nonneg (by omega)];omega
    have t2:(q:Int)%2=1:=by omega
    clear HE hq2;go_enter Tryz.func126,Tryz.ntmps126;go_wp2_with fail;go_ret;exact⟨rfl,rfl⟩
  ·have HZ:=HE 0 (by rw [if_neg (fun h=>hk h.1),if_neg h64]);rw [HZ.out];have d2:(k==7)=false:=by simpa using hk
   clear HE;go_enter Tryz.func126,Tryz.ntmps126;go_wp2_with fail;go_ret;exact⟨rfl,rfl⟩
theorem y2n {w0 w:World} {gs b1 b2 c:Nat} {c1 c2:Array Value} {fs:List FrM} {S:Option Addr} {O:Nat->Prop} (h:Stk w0 w gs b1 b2 c1 c2 fs S c O) (n:Nat) (hn:n=fs.length) (hb:n<=1000000) (hq:∀ f∈fs,f.ts.length<=1000000000) (kind:Int) :
  Calls Tryz.prog 126 #[.slice S n c,.int .i64 kind] w fun e w'=>e=.returned (.int .i64 (z1v (stO fs) kind))/\w'=w:=by
 subst hn;rcases List.eq_nil_or_concat fs with rfl|⟨fs',f,rfl⟩
 ·exact y5q S c kind w
 ·rw [List.concat_eq_append] at h hq hb ⊢;obtain⟨g,rfl,hc,h0,_,_,h3⟩:=h.top;have hl:(fs'++[f]).length=fs'.length+1:=by simp
  rw [hl] at hb ⊢;have:=y5p g (fs'.length+1) fs'.length c f.A f.ts.length f.c f.k kind w rfl hb hc (hq f (List.mem_append_right _ (List.mem_singleton_self _))) h0 h3;rw [z0d];unfold z1v;simp only [];rwa [y5f]
theorem z0l (w:World) (g:Nat) (a b c d:Value):Chg (fun i=>i=g) w ((((w.setCell ⟨g,0,none⟩ a).setCell ⟨g,1,none⟩ b).setCell ⟨g,2,none⟩ c).setCell ⟨g,3,none⟩ d) :=
 Chg.setCell (S:=fun i=>i=g) (Chg.setCell (S:=fun i=>i=g) (Chg.setCell (S:=fun i=>i=g) (Chg.setCell (S:=fun i=>i=g) (Chg.refl _ w) (p:=⟨g,0,none⟩) (fun _=>rfl) a) (p:=⟨g,1,none⟩) (fun _=>rfl) b) (p:=⟨g,2,none⟩) (fun _=>rfl) c) (p:=⟨g,3,none⟩) (fun _=>rfl) d
def v9n [KD.LVI] (w:World) (l:List VT) (e:Ending) (w':World):Prop:=Chg NoS w w' /\
 (((z97 l).1≠0/\e=.returned (.tuple #[VC.val ⟨0,0,⟨#[]⟩,none,0,0⟩,.int .i64 (z97 l).1])) \/
  ((z97 l).1=0/\∃ (es:List VC) (A:Option Addr) (n c:Nat),e=.returned (.tuple #[VC.val ⟨7,0,⟨#[]⟩,A,n,c⟩,.int .i64 0])/\w'.ownsRow 0 24 4 (.slice A n c) n (z04 es)/\es.length=n/\(z1p l).length=n /\
   (∀ (j:Nat) (t:VT) (e:VC),(z1p l)[j]?=some t->es[j]?=some e->KD.LVI.VI t e)/\∀ a,A=some a->w.heap.size<=a.block))
theorem y61 [KD.LVI] (l:List VT) (es0:List VC) (A:Option Addr) (len cap:Nat) (w:World) (hl:l.length=len) (hel:es0.length=len) (hsr:Src w 4 A len cap (z04 es0)) (hvi:∀ (j:Nat) (t:VT) (e:VC),l[j]?=some t->es0[j]?=some e->KD.LVI.VI t e) (hA:∀ a,A=some a->a.spot=none) (hcap:len<=cap) (h40:len<=500000) (hks:∀ t∈l,t.str.size<=maxLen) :
  Calls Tryz.prog 127 #[.slice A len cap] w (v9n w l):=by
 have HB0:=kf (Blk.new w 24 #[.int .i64 0,.int .i64 0,.string ⟨#[]⟩,.slice none 0 0]);have HC0:=kf ((Chg.refl NoS w).alloc (.cells #[.int .i64 0,.int .i64 0,.string ⟨#[]⟩,.slice none 0 0] 24));have HD:=kf (KD.dictOf_k l es0 A len cap (w.alloc (.cells #[.int .i64 0,.int .i64 0,.string ⟨#[]⟩,.slice none 0 0] 24)) hl hel (Src.below (w0:=w) hsr HC0.out) hvi hA hcap h40 hks);by_cases ho:len%2=1
 ·have t1:(len:Int).tmod 2=1:=by rw [Int.tmod_eq_emod_of_nonneg (by omega)];omega
  have t2:(len:Int)%2=1:=by omega
  have HE:=kf (show z97 l=(11,z1i) from by unfold z97;rw [if_pos (by omega)]);clear hl hel hsr hvi hA hks HB0 HC0 HD;go_enter Tryz.func127,Tryz.ntmps127;go_wp2_with fail;refine bodyPost_ret (v:=.tuple #[.agg #[.int .i64 0,.int .i64 0,.string ⟨#[]⟩,.slice none 0 0],.int .i64 11]) (by simp [results,Tryz.results127,go_sem]) rfl ?_;exact⟨(Chg.refl NoS w).alloc _,.inl ⟨by rw [HE.out];decide,by rw [HE.out];rfl⟩⟩
 ·have t0:len%2=0:=by omega
  have t1:(len:Int).tmod 2=0:=by rw [Int.tmod_eq_emod_of_nonneg (by omega)];omega
  have t2:(len:Int)%2=0:=by omega
  have HL:=kf hl;clear hl hel hsr hvi hA hks ho;go_enter Tryz.func127,Tryz.ntmps127;go_upto_region 4 with(go_at_call 17;refine HD.out.mono ?_;rintro e w3 ⟨es,A2,n2,c2,rfl,hgv,hn2⟩;unfold VC.val;simp only [];have HGV:=kf hgv;clear hgv);have HB2:=kf ((HB0.out.chg HGV.out.chg (fun e=>e)).alloc (.cells #[.int .i64 7,.int .i64 0,.string ⟨#[]⟩,.slice A2 n2 c2] 24));have HB4:=kf (Blk.new w3 24 #[.int .i64 7,.int .i64 0,.string ⟨#[]⟩,.slice A2 n2 c2]);have HC4:=kf ((HC0.out.trans HGV.out.chg (fun _ _ e=>e)).alloc (.cells #[.int .i64 7,.int .i64 0,.string ⟨#[]⟩,.slice A2 n2 c2] 24));have HOW:=kf (z0p (S:=NoS) HGV.out.own ((Chg.refl NoS w3).alloc (.cells #[.int .i64 7,.int .i64 0,.string ⟨#[]⟩,.slice A2 n2 c2] 24)) (fun _ _ e=>e));have HNW:=kf (show ∀ a,A2=some a->w.heap.size<a.block from fun a ha=>by have:=HGV.out.new a ha;simp only [World.size_alloc] at this;omega);obtain⟨W4,hW4⟩:∃ W4,W4=w3.alloc (.cells #[.int .i64 7,.int .i64 0,.string ⟨#[]⟩,.slice A2 n2 c2] 24):=⟨_,rfl⟩
  obtain⟨g4,hg4⟩:∃ g4,g4=w3.heap.size:=⟨_,rfl⟩
  rw [<- hW4] at HB2 HB4 HC4 HOW ⊢;rw [<- hg4] at HB4 ⊢;obtain⟨g2,hg2⟩:∃ g2,g2=w.heap.size:=⟨_,rfl⟩
  rw [<- hg2] at HB2 HNW ⊢;have hge2:w.heap.size<=g2:=by omega
  obtain⟨q0,q1,q2,q3,y0,y1,y2,y3⟩:=HB4.out.cl4;obtain⟨r0,r1,r2,r3,z0,z1,z2,z3⟩:=HB2.out.cl4;clear hW4 hg4 hg2 HB0 HC0 HB4 HD;by_cases hlt:n2<len
  ·have d1:decide ((n2:Int)<len)=true:=by simp;omega
   have d1':decide (n2<len)=true:=by simp;omega
   have HE:=kf (show z97 l=(16,z1i) from by unfold z97;rw [if_neg (by rw [HL.out];omega),if_pos (by rw [HL.out,HGV.out.tlen];exact hlt)]);go_wp2_with fail;refine bodyPost_ret (v:=.tuple #[.agg #[.int .i64 0,.int .i64 0,.string ⟨#[]⟩,.slice none 0 0],.int .i64 16]) (by simp [results,Tryz.results127,go_sem,r0,r1,r2,r3]) rfl ?_;exact⟨Chg.newc hge2 (Chg.newc hge2 (Chg.newc hge2 (Chg.newc hge2 HC4.out))),.inl ⟨by rw [HE.out];decide,by rw [HE.out];rfl⟩⟩
  ·have d1:decide ((n2:Int)<len)=false:=by simp;omega
   have d1':decide (n2<len)=false:=by simp;omega
   have HE:=kf (show z97 l=(0,.mk 7 0 ⟨#[]⟩ (z1p l)) from by unfold z97;rw [if_neg (by rw [HL.out];omega),if_neg (by rw [HL.out,HGV.out.tlen];exact hlt)]);go_wp2_with fail;refine bodyPost_ret (v:=.tuple #[.agg #[.int .i64 7,.int .i64 0,.string ⟨#[]⟩,.slice A2 n2 c2],.int .i64 0]) (by simp [results,Tryz.results127,go_sem,r0,r1,r2,r3]) rfl ?_;refine⟨Chg.newc hge2 (Chg.newc hge2 (Chg.newc hge2 (Chg.newc hge2 HC4.out))),.inr ⟨by rw [HE.out],es,A2,n2,c2,rfl,?_,HGV.out.len,HGV.out.tlen,HGV.out.is,fun a ha=>by have:=HNW.out a ha;omega⟩⟩;refine z0p (S:=fun i=>i=g2) HOW.out (z0l W4 g2 _ _ _ _) (fun g hg e=>?_);rw [z28] at hg;rcases A2 with _|a
   ·cases hg
   ·have h1:a.block=g:=by simpa [ob] using hg
    have:=HNW.out a rfl;omega
theorem y2d {T:TypeId} {W:World} {ops:Array Oper} {o:Oper} {a:Act} {K:Act->World->Prop} {Q:Exit->Act->World->Prop} {E:Prop} {es:List VC} {e:VC} {n N1 c B:Nat} {A:Option Addr} (hT:Tryz.prog.underlying T=some (.slice 24)) (hgd:o.guard=none) (s x:Operand)
  (ho:o.op=.call { callee:=.builtin .append,args:=#[s,x],argTypes:=#[T,T] }) (hs:a.eval s=.slice A n c) (hx:a.eval x=.slice (some ⟨B,0,none⟩) 1 1)
  (hown:W.ownsRow 0 24 4 (.slice A n c) n (z04 es)) (hn:n<=2000000000) (hN:N1=n+1) (hB:Blk W B 24 #[.int .i64 e.k,.int .i64 e.n,.string e.s,.slice e.A e.len e.cap])
  (k:∀ g c3 w',w'.ownsRow 0 24 4 (.slice (some ⟨g,0,none⟩) N1 c3) N1 (z04 (es++[e]))->W.grownBy w' (Value.slice A n c).ownBlock->(ob A=some g\/g=W.heap.size)->g<w'.heap.size->K (a.put o.dst (.slice (some ⟨g,0,none⟩) N1 c3)) w') :
  if Region.wanted o (yielded ops a.tmps)=true then Oper.wp Tryz.prog o a W K Q else E:=by
 subst hN;obtain⟨i0,hi,hz0,hz1,hz2⟩:=z2y z8x;refine step_append_lies W hgd s x T ho 0 24 i0 _ 4 56 hT hi hz0 hz1 hz2 rfl (by decide) (.slice A n c) n (z04 es) hs hown ⟨B,0,none⟩ 1 1 (z04 [e]) hx (by rw [z25];rfl) (fun j u hj=>?_) (z3y _) (by decide) (by unfold maxLen;omega) (by omega) (Nat.zero_le _) W.heap.size rfl ?_
 ·rw [y3t] at hj;have hadd:(⟨B,0,none⟩:Addr).add j=⟨B,j,none⟩:=by unfold Addr.add;split<;>simp_all
  rw [hadd,hB.cell j];unfold VC.cells at hj;simpa using hj
 ·intro g c4 w4 hown4 hgr4 hat4 hlt4;refine k g c4 w4 (by rw [z3l];exact hown4) hgr4 ?_ hlt4;rwa [z28] at hat4
theorem z4f {w X:World} {g:Nat} (k:Nat) (u:Value) (h:Chg (fun i=>i=g) w X):Chg (fun i=>i=g) w (X.setCell ⟨g,k,none⟩ u):=h.setCell (p:=⟨g,k,none⟩) (fun _=>rfl) u
theorem z4g (w:World) (g j:Nat) (a b c d:Value):Chg (fun i=>i=g) w ((((w.setCell ⟨g,j*4,none⟩ a).setCell ⟨g,j*4+1,none⟩ b).setCell ⟨g,j*4+2,none⟩ c).setCell ⟨g,j*4+3,none⟩ d) :=
 z4f (j*4+3) d (z4f (j*4+2) c (z4f (j*4+1) b (z4f (j*4) a (Chg.refl (fun i=>i=g) w))))
theorem z67 {W:World} {g c N j:Nat} {es:List VC} {e:VC} (h:W.ownsRow 0 24 4 (.slice (some ⟨g,0,none⟩) N c) N (z04 es)) (hj:j<es.length) :
  ((((W.setCell ⟨g,j*4,none⟩ (.int .i64 e.k)).setCell ⟨g,j*4+1,none⟩ (.int .i64 e.n)).setCell ⟨g,j*4+2,none⟩ (.string e.s)).setCell ⟨g,j*4+3,none⟩ (.slice e.A e.len e.cap)).ownsRow 0 24 4 (.slice (some ⟨g,0,none⟩) N c) N (z04 (es.set j e)):=by
 have h4:=((((((h.stored (j*4) (.int .i64 e.k)).1).stored (j*4+1) (.int .i64 e.n)).1).stored (j*4+2) (.string e.s)).1.stored (j*4+3) (.slice e.A e.len e.cap)).1
 have key:∀ (es:List VC) (j:Nat),j<es.length->((((z04 es).set (j*4) (.int .i64 e.k)).set (j*4+1) (.int .i64 e.n)).set (j*4+2) (.string e.s)).set (j*4+3) (.slice e.A e.len e.cap)=z04 (es.set j e):=by
  intro es;induction es with
  |nil=>intro j hj;simp at hj
  |cons x es ih =>
   intro j hj;have hx:z04 (x::es)=.int .i64 x.k::.int .i64 x.n::.string x.s::.slice x.A x.len x.cap::z04 es:=rfl;cases j with
   |zero=>rw [hx];rfl
   |succ j =>
    have:=ih j (by simpa using hj);rw [hx,List.set_cons_succ];show _=.int .i64 x.k::.int .i64 x.n::.string x.s::.slice x.A x.len x.cap::z04 (es.set j e);rw [<- this,show(j+1)*4=j*4+1+1+1+1 from by omega];rfl
 rw [key es j hj] at h4;exact h4
theorem y2y {W:World} {g c N j:Nat} {es:List VC} {x:VC} {A:Option Addr} {n cc:Nat} (h:W.ownsRow 0 24 4 (.slice (some ⟨g,0,none⟩) N c) N (z04 es)) (hx:es[j]?=some x) :
  (W.setCell ⟨g,j*4+3,none⟩ (.slice A n cc)).ownsRow 0 24 4 (.slice (some ⟨g,0,none⟩) N c) N (z04 (es.set j ⟨x.k,x.n,x.s,A,n,cc⟩)):=by
 have h4:=(h.stored (j*4+3) (.slice A n cc)).1
 have key:∀ (es:List VC) (j:Nat),es[j]?=some x->(z04 es).set (j*4+3) (.slice A n cc)=z04 (es.set j ⟨x.k,x.n,x.s,A,n,cc⟩):=by
  intro es;induction es with
  |nil=>intro j hj;simp at hj
  |cons y es ih =>
   intro j hj;have hy:z04 (y::es)=.int .i64 y.k::.int .i64 y.n::.string y.s::.slice y.A y.len y.cap::z04 es:=rfl;cases j with
   |zero =>
    simp at hj;subst hj;rw [hy];rfl
   |succ j =>
    have:=ih j (by simpa using hj);rw [hy,show(j+1)*4+3=j*4+3+1+1+1+1 from by omega];show _=.int .i64 y.k::.int .i64 y.n::.string y.s::.slice y.A y.len y.cap::z04 (es.set j ⟨x.k,x.n,x.s,A,n,cc⟩);rw [<- this];rfl
 rw [key es j hx] at h4;exact h4
theorem z6r {W:World} {g c N j:Nat} {es:List VC} {e:VC} (h:W.ownsRow 0 24 4 (.slice (some ⟨g,0,none⟩) N c) N (z04 es)) (he:es[j]?=some e) :
  (W.cell? ⟨g,j*4,none⟩=some (.int .i64 e.k)/\W.cell? ⟨g,j*4+1,none⟩=some (.int .i64 e.n)/\W.cell? ⟨g,j*4+2,none⟩=some (.string e.s)/\W.cell? ⟨g,j*4+3,none⟩=some (.slice e.A e.len e.cap)) /\
  W.frozen? ⟨g,j*4,none⟩=false/\W.frozen? ⟨g,j*4+1,none⟩=false/\W.frozen? ⟨g,j*4+2,none⟩=false/\W.frozen? ⟨g,j*4+3,none⟩=false:=by
 have hl:es.length*4=N*4:=by rw [<- z25];exact h.1
 have hj:j<es.length:=(List.getElem?_eq_some_iff.1 he).1
 have hc:∀ i,i<4->W.cell? ⟨g,j*4+i,none⟩=e.cells[i]?:=fun i hi=>by
  rw [World.ownsRow.cellAt h (j*4+i) (by omega)];exact z2n he hi
 exact⟨⟨hc 0 (by decide),hc 1 (by decide),hc 2 (by decide),hc 3 (by decide)⟩,h.frozenAt _,h.frozenAt _,h.frozenAt _,h.frozenAt _⟩
theorem Stk.cells' {w0 w:World} {gs b1 b2 c:Nat} {c1 c2:Array Value} {fs:List FrM} {S:Option Addr} {O:Nat->Prop} {n:Nat} (h:Stk w0 w gs b1 b2 c1 c2 fs S c O) (hn:n=fs.length:=by assumption):w.cell? ⟨gs,0,none⟩=some (.slice S n c):=by rw [hn];exact h.cells
theorem y63 {w0 wa w4:World} {gs b1 b2 c:Nat} {c1 c2:Array Value} {fs:List FrM} {S:Option Addr} {O:Nat->Prop} {n N1 g c3:Nat} (h:Stk w0 wa gs b1 b2 c1 c2 fs S c O) (hn:n=fs.length) (hN:N1=n+1)
  (hx:w4.ownsRow 0 24 4 (.slice (some ⟨g,0,none⟩) N1 c3) N1 (z04 (fs.map FrM.vc++[⟨0,0,⟨#[]⟩,none,0,0⟩]))/\wa.grownBy w4 (Value.slice S n c).ownBlock/\(ob S=some g\/g=wa.heap.size)/\g<w4.heap.size) :
  ((w4.cell? ⟨g,n*4,none⟩=some (.int .i64 0)/\w4.cell? ⟨g,n*4+1,none⟩=some (.int .i64 0)/\w4.cell? ⟨g,n*4+2,none⟩=some (.string ⟨#[]⟩)/\w4.cell? ⟨g,n*4+3,none⟩=some (.slice none 0 0)) /\
   w4.frozen? ⟨g,n*4,none⟩=false/\w4.frozen? ⟨g,n*4+1,none⟩=false/\w4.frozen? ⟨g,n*4+2,none⟩=false/\w4.frozen? ⟨g,n*4+3,none⟩=false) /\
  w4.cell? ⟨gs,0,none⟩=some (.slice S n c)/\w4.frozen? ⟨gs,0,none⟩=false/\g≠gs/\gs≠g:=by
 obtain⟨hown,hgr,hat,hlt⟩:=hx;have hgs:some gs≠(Value.slice S n c).ownBlock:=fun e=>h.gsS (by rw [<- z28 S n c,<- e]);have hb:=h.box.grown hgr hgs
 have hne:g≠gs:=fun e=>by
  subst e;rcases hat with e|e
  ·exact h.gsS e
  ·have:=h.lt _ h.og;omega
 have hle:(fs.map FrM.vc).length<=n:=by rw [List.length_map];omega
 refine⟨z6r hown (by rw [List.getElem?_append_right hle,List.length_map,hn,Nat.sub_self];rfl),?_,hb.frozen 0,hne,Ne.symm hne⟩;have:=hb.cell 0;rw [hn];simpa using this
theorem y9u {w0 wa w4:World} {gs b1 b2 c:Nat} {c1 c2:Array Value} {fs:List FrM} {S:Option Addr} {O:Nat->Prop} {n N1 g c3:Nat} {k:Int} (h:Stk w0 wa gs b1 b2 c1 c2 fs S c O) (hk:k=6\/k=7) (hn:n=fs.length) (hN:N1=n+1)
  (hx:w4.ownsRow 0 24 4 (.slice (some ⟨g,0,none⟩) N1 c3) N1 (z04 (fs.map FrM.vc++[⟨0,0,⟨#[]⟩,none,0,0⟩]))/\wa.grownBy w4 (Value.slice S n c).ownBlock/\(ob S=some g\/g=wa.heap.size)/\g<w4.heap.size) (W:World)
  (hW:W=(((((w4.setCell ⟨g,n*4,none⟩ (.int .i64 k)).setCell ⟨g,n*4+1,none⟩ (.int .i64 0)).setCell ⟨g,n*4+2,none⟩ (.string ⟨#[]⟩)).setCell ⟨g,n*4+3,none⟩ (.slice none 0 0)).setCell ⟨gs,0,none⟩ (.slice (some ⟨g,0,none⟩) N1 c3)) \/
   W=(((((w4.setCell ⟨gs,0,none⟩ (.slice (some ⟨g,0,none⟩) N1 c3)).setCell ⟨g,n*4,none⟩ (.int .i64 k)).setCell ⟨g,n*4+1,none⟩ (.int .i64 0)).setCell ⟨g,n*4+2,none⟩ (.string ⟨#[]⟩)).setCell ⟨g,n*4+3,none⟩ (.slice none 0 0))) :
  Stk w0 W gs b1 b2 c1 c2 (fs++[⟨k,[],[],none,0⟩]) (some ⟨g,0,none⟩) c3 (fun i=>O i\/i=g):=by
 obtain⟨_,_,_,hne,hne2⟩:=y63 h hn hN hx;obtain⟨hown,hgr,hat,hlt⟩:=hx;have hgs:some gs≠(Value.slice S n c).ownBlock:=fun e=>h.gsS (by rw [<- z28 S n c,<- e]);have hb:=h.box.grown hgr hgs;have hjl:n<(fs.map FrM.vc++[(⟨0,0,⟨#[]⟩,none,0,0⟩:VC)]).length:=by rw [List.length_append,List.length_map];simp;omega
 have hle:(fs.map FrM.vc).length<=n:=by rw [List.length_map];omega
 have hset:(fs.map FrM.vc++[(⟨0,0,⟨#[]⟩,none,0,0⟩:VC)]).set n ⟨k,0,⟨#[]⟩,none,0,0⟩=fs.map FrM.vc++[⟨k,0,⟨#[]⟩,none,0,0⟩]:=by
  rw [List.set_append_right _ _ hle,List.length_map,hn,Nat.sub_self];rfl
 have gset:∀ {X Y:World} (b i:Nat) (u:Value),(b=g\/b=gs)->Chg (fun i=>i=g\/i=gs) X Y->Chg (fun i=>i=g\/i=gs) X (Y.setCell ⟨b,i,none⟩ u):=fun b i u hbb hc=>hc.setCell (p:=⟨b,i,none⟩) (fun _=>hbb) u;have h1:Chg (fun i=>i=gs) w4 (w4.setCell ⟨gs,0,none⟩ (.slice (some ⟨g,0,none⟩) N1 c3)):=(Chg.refl (fun i=>i=gs) w4).setCell (p:=⟨gs,0,none⟩) (fun _=>rfl) _;subst hn;rcases hW with rfl|rfl
 ·have ho:=z67 (e:=⟨k,0,⟨#[]⟩,none,0,0⟩) hown hjl;rw [hset] at ho;refine h.push hk hgr rfl hat hlt (gset gs 0 _ (.inr rfl) (gset g _ _ (.inl rfl) (gset g _ _ (.inl rfl) (gset g _ _ (.inl rfl) (gset g _ _ (.inl rfl) (Chg.refl (fun i=>i=g\/i=gs) w4)))))) ?_ ?_
  ·rw [<- hN];have hb4:=hb.chg (z4g w4 g fs.length (.int .i64 k) (.int .i64 0) (.string ⟨#[]⟩) (.slice none 0 0)) hne2;exact(hb4.set_ 0 _)
  ·rw [<- hN];exact z0p ho ((Chg.refl (fun i=>i=gs) _).setCell (p:=⟨gs,0,none⟩) (fun _=>rfl) _) (fun i hi e=>by rw [z28] at hi;cases hi;exact hne e)
 ·have ho:=z67 (e:=⟨k,0,⟨#[]⟩,none,0,0⟩) (z0p hown h1 (fun i hi e=>by rw [z28] at hi;cases hi;exact hne e)) hjl;rw [hset] at ho;refine h.push hk hgr rfl hat hlt (gset g _ _ (.inl rfl) (gset g _ _ (.inl rfl) (gset g _ _ (.inl rfl) (gset g _ _ (.inl rfl) (gset gs 0 _ (.inr rfl) (Chg.refl (fun i=>i=g\/i=gs) w4)))))) ?_ ?_
  ·rw [<- hN];exact Blk.chg (hb.set_ 0 (.slice (some ⟨g,0,none⟩) N1 c3)) (z4g (w4.setCell ⟨gs,0,none⟩ (.slice (some ⟨g,0,none⟩) N1 c3)) g fs.length (.int .i64 k) (.int .i64 0) (.string ⟨#[]⟩) (.slice none 0 0)) hne2
  ·rw [<- hN];exact ho
theorem y06 {w0 w:World} {gs b1 b2 c:Nat} {c1 c2:Array Value} {fs:List FrM} {SA:Option Addr} {O:Nat->Prop} (h:Stk w0 w gs b1 b2 c1 c2 fs SA c O) (hb:fs.length<=1000000) (hq:∀ f∈fs,f.ts.length<=1000000000) (kind:Int) (hk:kind=6\/kind=7) :
  Calls Tryz.prog 98 #[.pointer (some ⟨gs,0,none⟩),.int .i64 kind] w fun e w'=>e=.returned (.int .i64 (z1v (stO fs) kind)) /\
   ((z1v (stO fs) kind=0/\∃ (S':Option Addr) (c':Nat) (O':Nat->Prop),Stk w0 w' gs b1 b2 c1 c2 (fs++[⟨kind,[],[],none,0⟩]) S' c' O')\/(z1v (stO fs) kind≠0/\Stk w0 w' gs b1 b2 c1 c2 fs SA c O)):=by
 obtain⟨n,hn⟩:∃ n,n=fs.length:=⟨_,rfl⟩
 have HRM:=kf (y2n h n hn (by omega) hq kind);have q0:=h.cells' hn;have HST:=kf h;have HN:=kf hn;obtain⟨N1,hN1⟩:∃ N1,N1=n+1:=⟨_,rfl⟩
 have HN1:=kf hN1;have b1_:(n:Int)<(N1:Int):=by omega
 have b2_:(0:Int)<=(n:Int):=by omega
 obtain⟨er,her⟩:∃ er,er=z1v (stO fs) kind:=⟨_,rfl⟩
 rw [<- her] at HRM;have HE:Hid (z1v (stO fs) kind=er):=her.symm;rw [<- her];rw [<- hn] at hb;clear h hq hn hN1 her;by_cases he:er=0
 ·subst he;go_enter Tryz.func98,Tryz.ntmps98;go_upto_region 4 with(go_at_call 126;refine HRM.out.mono ?_;rintro e w2 ⟨rfl,hw⟩;subst hw);have HS0:=kf (HST.out.call ((Chg.refl NoS w2).drew));have q0':w2.drew.cell? ⟨gs,0,none⟩=some (.slice SA n c):=q0;refine HY.startY (fun w'=>w'.cell? ⟨gs,0,none⟩=some (.slice SA n c)) [8,9,10,11] (by kernel_rfl) q0' (fun hHeld=>?_);clear q0 q0' HST HRM;generalize w2.drew=wq at *;have HST:=HS0;have HFA:=kf (fun(g c3:Nat) (w4:World) hx=>y63 (HST.out.call ((Chg.refl NoS wq).alloc (.cells #[.int .i64 0,.int .i64 0,.string ⟨#[]⟩,.slice none 0 0] 24))) HN.out HN1.out (g:=g) (c3:=c3) (w4:=w4) hx);have HEND:=kf (fun(g c3:Nat) (w4:World) hx W hW=>y9u (k:=kind) (HST.out.call ((Chg.refl NoS wq).alloc (.cells #[.int .i64 0,.int .i64 0,.string ⟨#[]⟩,.slice none 0 0] 24))) hk HN.out HN1.out (g:=g) (c3:=c3) (w4:=w4) hx W hW);refine HY.takeY (i:=0) (oi:={ dst:=some 14,op:=Go.Op.move (Go.Operand.tmp 0),type:=162,pos:=_,after:=_,guard:=none }) (v:=?_) rfl (by kernel_rfl) (by kernel_rfl) (by kernel_rfl) (by kernel_rfl) (fun _ _ _ h=>h) (Or.inl ⟨by rfl,?_⟩) (by assumption) ?_;rotate_left
  ·intro w hSw;(try dsimp only at hSw);(first|(go_simp;done)|(go_simp;with_reducible rfl))
  try simp only [pkA]
  refine HY.takeY (i:=1) (oi:={ dst:=some 15,op:=Go.Op.nilCheck (Go.Operand.tmp 14),type:=0,pos:=_,after:=_,guard:=none }) (v:=?_) rfl (by kernel_rfl) (by kernel_rfl) (by kernel_rfl) (by kernel_rfl) (fun _ _ _ h=>h) (Or.inl ⟨by rfl,?_⟩) (by assumption) ?_;rotate_left
  ·intro w hSw;(try dsimp only at hSw);(first|(go_simp;done)|(go_simp;with_reducible rfl))
  try simp only [pkA]
  refine HY.takeY (i:=2) (oi:={ dst:=some 16,op:=Go.Op.load 137 (Go.Operand.tmp 15),type:=137,pos:=_,after:=_,guard:=none }) (v:=?_) rfl (by kernel_rfl) (by kernel_rfl) (by kernel_rfl) (by kernel_rfl) (fun _ _ _ h=>h) (Or.inl ⟨by rfl,?_⟩) (by assumption) ?_;rotate_left
  ·intro w hSw;(try dsimp only at hSw);(first|(go_simp;done)|(go_simp;with_reducible rfl))
  try simp only [pkA]
  refine HY.takeY (i:=3) (oi:={ dst:=some 17,op:=Go.Op.move (Go.Operand.tmp 1),type:=3,pos:=_,after:=_,guard:=none }) (v:=?_) rfl (by kernel_rfl) (by kernel_rfl) (by kernel_rfl) (by kernel_rfl) (fun _ _ _ h=>h) (Or.inl ⟨by rfl,?_⟩) (by assumption) ?_;rotate_left
  ·intro w hSw;(try dsimp only at hSw);(first|(go_simp;done)|(go_simp;with_reducible rfl))
  try simp only [pkA]
  refine HY.takeY (i:=4) (oi:={ dst:=some 18,op:=Go.Op.build 24 #[(0,Go.Operand.tmp 17)],type:=24,pos:=_,after:=_,guard:=none }) (v:=?_) rfl (by kernel_rfl) (by kernel_rfl) (by kernel_rfl) (by kernel_rfl) (fun _ _ _ h=>h) (Or.inl ⟨by rfl,?_⟩) (by assumption) ?_;rotate_left
  ·intro w hSw;(try dsimp only at hSw);(first|(go_simp;done)|(go_simp;with_reducible rfl))
  try simp only [pkA]
  refine HY.takeY (i:=5) (oi:={ dst:=some 19,op:=Go.Op.call { callee:=Go.Callee.builtin Go.Builtin.len,args:=#[Go.Operand.tmp 16],argTypes:=#[137] },type:=3,pos:=_,after:=_,guard:=none }) (v:=?_) rfl (by kernel_rfl) (by kernel_rfl) (by kernel_rfl) (by kernel_rfl) (fun _ _ _ h=>h) (Or.inl ⟨by rfl,?_⟩) (by assumption) ?_;rotate_left
  ·intro w hSw;(try dsimp only at hSw);(first|(go_simp;done)|(go_simp;with_reducible rfl))
  try simp only [pkA]
  refine HY.oneY (i:=6) (o:={ dst:=some 20,op:=Go.Op.buildSlice 137 1 #[(0,Go.Operand.const (Go.Value.agg #[Go.Value.int Go.IntKind.i64 0,Go.Value.int Go.IntKind.i64 0,Go.Value.string { data:=#[] },Go.Value.slice none 0 0]))],type:=137,pos:=_,after:=_,guard:=none }) (by kernel_rfl) rfl (fun K hK=>?_);go_simp;refine hK.out _ _ ((HST.out.call ((Chg.refl NoS wq).alloc (.cells #[.int .i64 0,.int .i64 0,.string ⟨#[]⟩,.slice none 0 0] 24))).cells') (fun hHeld=>?_);clear hK K;try simp only [pkA]
  refine HY.oneY (i:=7) (o:={ dst:=some 21,op:=Go.Op.call { callee:=Go.Callee.builtin Go.Builtin.append,args:=#[Go.Operand.tmp 16,Go.Operand.tmp 20],argTypes:=#[137,137] },type:=137,pos:=_,after:=_,guard:=none }) (by kernel_rfl) rfl (fun K hK=>?_);(refine y2d (W:=wq.alloc (.cells #[.int .i64 0,.int .i64 0,.string ⟨#[]⟩,.slice none 0 0] 24)) (es:=fs.map FrM.vc) (e:=⟨0,0,⟨#[]⟩,none,0,0⟩) (n:=n) (N1:=N1) (c:=c) (B:=wq.heap.size) (A:=SA) Tryz.underlying137 rfl (.tmp 16) (.tmp 20) rfl rfl rfl (by have h:=(HST.out.call ((Chg.refl NoS wq).alloc (.cells #[.int .i64 0,.int .i64 0,.string ⟨#[]⟩,.slice none 0 0] 24))).row;rw [HN.out];exact h) (by omega) HN1.out (Blk.new wq _ _) ?_;intro g c3 w4 hown hgr hat hlt;have HX:=kf (And.intro hown (And.intro hgr (And.intro hat hlt)));have hx:=HFA.out g c3 w4 HX.out;clear hown hgr hat hlt;obtain⟨⟨⟨k0,k1,k2,k3⟩,z0,z1,z2,z3⟩,c0,f0,hne,hne2⟩:=hx)
  refine hK.out _ _ c0 (fun hHeld=>?_);clear hK K;try simp only [pkA]
  refine HY.soonY (i:=8) (oi:={ dst:=some 22,op:=Go.Op.indexAddr 137 (Go.Operand.tmp 21) (Go.Operand.tmp 19),type:=0,pos:=_,after:=_,guard:=none }) (v:=?_) rfl (by kernel_rfl) (by decide) (by kernel_rfl) (by kernel_rfl) (fun _ _ _ h=>h) (Or.inl ⟨by rfl,?_⟩) ?_;rotate_left
  ·intro w _;(first|(go_simp;done)|(go_simp;with_reducible rfl))
  try simp only [pkA]
  refine HY.soonY (i:=10) (oi:={ dst:=some 23,op:=Go.Op.nilCheck (Go.Operand.tmp 14),type:=0,pos:=_,after:=_,guard:=none }) (v:=?_) rfl (by kernel_rfl) (by decide) (by kernel_rfl) (by kernel_rfl) (fun _ _ _ h=>h) (Or.inl ⟨by rfl,?_⟩) ?_;rotate_left
  ·intro w _;(first|(go_simp;done)|(go_simp;with_reducible rfl))
  try simp only [pkA]
  refine HY.twoY (i:=9) (j:=11) (o:={ dst:=none,op:=Go.Op.store 24 (Go.Operand.tmp 22) (Go.Operand.tmp 18),type:=0,pos:=_,after:=_,guard:=none }) (o':={ dst:=none,op:=Go.Op.store 137 (Go.Operand.tmp 23) (Go.Operand.tmp 21),type:=0,pos:=_,after:=_,guard:=none }) (by kernel_rfl) rfl rfl (by decide) (by decide) (fun K hK=>?_) (fun K hK=>?_)
  ·go_simp;refine hK.out _ _ ?_;clear hK K;try simp only [pkA]
   refine HY.lastY (i:=11) (o:={ dst:=none,op:=Go.Op.store 137 (Go.Operand.tmp 23) (Go.Operand.tmp 21),type:=0,pos:=_,after:=_,guard:=none }) (by kernel_rfl) rfl (by decide) (by kernel_rfl) (fun K hK=>?_);go_simp;refine hK.out _ _ ?_;clear hK K;try simp only [pkA]
   go_wp2_with fail;go_ret;exact⟨rfl,.inl ⟨trivial,some ⟨g,0,none⟩,c3,_,HEND.out g c3 w4 HX.out _ (.inl rfl)⟩⟩
  ·go_simp;refine hK.out _ _ ?_;clear hK K;try simp only [pkA]
   refine HY.lastY (i:=9) (o:={ dst:=none,op:=Go.Op.store 24 (Go.Operand.tmp 22) (Go.Operand.tmp 18),type:=0,pos:=_,after:=_,guard:=none }) (by kernel_rfl) rfl (by decide) (by kernel_rfl) (fun K hK=>?_);go_simp;refine hK.out _ _ ?_;clear hK K;try simp only [pkA]
   go_wp2_with fail;go_ret;exact⟨rfl,.inl ⟨trivial,some ⟨g,0,none⟩,c3,_,HEND.out g c3 w4 HX.out _ (.inr rfl)⟩⟩
 ·have e1:(er != 0)=true:=by simpa using he
  have e2:(er==0)=false:=by simpa using he
  have HNE:=kf he;clear he;go_enter Tryz.func98,Tryz.ntmps98;go_wp2_with (go_at_call 126;refine HRM.out.mono ?_;rintro e w2 ⟨rfl,hw⟩;subst hw);go_ret;exact⟨rfl,.inr ⟨HNE.out,HST.out⟩⟩
section
variable {w0 wa w4:World} {gs b1 b2 c:Nat} {c1 c2:Array Value} {fs:List FrM} {f:FrM} {gS:Nat} {O:Nat->Prop} {q Q1 g cc:Nat}
theorem v2u (h:Stk w0 wa gs b1 b2 c1 c2 (fs++[f]) (some ⟨gS,0,none⟩) c O) (hq:q=f.ts.length) (hQ:Q1=q+1)
  (hx:w4.ownsRow 0 24 4 (.slice (some ⟨g,0,none⟩) Q1 cc) Q1 (z04 (f.es++[⟨0,0,⟨#[]⟩,none,0,0⟩]))/\wa.grownBy w4 (Value.slice f.A q f.c).ownBlock/\(ob f.A=some g\/g=wa.heap.size)/\g<w4.heap.size) :
  ((w4.cell? ⟨g,q*4,none⟩=some (.int .i64 0)/\w4.cell? ⟨g,q*4+1,none⟩=some (.int .i64 0)/\w4.cell? ⟨g,q*4+2,none⟩=some (.string ⟨#[]⟩)/\w4.cell? ⟨g,q*4+3,none⟩=some (.slice none 0 0)) /\
   w4.frozen? ⟨g,q*4,none⟩=false/\w4.frozen? ⟨g,q*4+1,none⟩=false/\w4.frozen? ⟨g,q*4+2,none⟩=false/\w4.frozen? ⟨g,q*4+3,none⟩=false) /\
  w4.cell? ⟨gS,fs.length*4+3,none⟩=some (.slice f.A q f.c)/\w4.frozen? ⟨gS,fs.length*4+3,none⟩=false/\g≠gS/\gS≠g /\
  w4.ownsRow 0 24 4 (.slice (some ⟨gS,0,none⟩) (fs.length+1) c) (fs.length+1) (z04 (fs.map FrM.vc++[f.vc])):=by
 obtain⟨hown,hgr,hat,hlt⟩:=hx;have hfm:f∈fs++[f]:=List.mem_append_right _ (List.mem_singleton_self _);have hK:Chg (fun i=>ob f.A=some i) wa w4:=(Chg.refl _ _).grown hgr (fun i e _=>by rwa [z28] at e);have hrS:=z0p h.row hK (fun i hi e=>by rw [z28] at hi;cases hi;exact(h.of f hfm gS e).2 rfl);rw [List.length_append,List.map_append] at hrS
 have hne:g≠gS:=fun e=>by
  subst e;rcases hat with e|e
  ·exact(h.of f hfm g e).2 rfl
  ·have:=h.lt _ (h.os g rfl);omega
 have hle:f.es.length<=q:=by rw [(h.fr f hfm).len];omega
 have hsc:=z6r (j:=fs.length) (e:=f.vc) hrS (by rw [List.getElem?_append_right (by rw [List.length_map];exact Nat.le_refl _),List.length_map,Nat.sub_self];rfl);refine⟨z6r hown (by rw [List.getElem?_append_right hle,(h.fr f hfm).len,hq,Nat.sub_self];rfl),?_,hsc.2.2.2.2,hne,Ne.symm hne,hrS⟩;rw [hq];exact hsc.1.2.2.2
theorem v5x {t:VT} {e:VC} (h:Stk w0 wa gs b1 b2 c1 c2 (fs++[f]) (some ⟨gS,0,none⟩) c O) (hv:InsB w0 O wa t e) (hq:q=f.ts.length) (hQ:Q1=q+1)
  (hx:w4.ownsRow 0 24 4 (.slice (some ⟨g,0,none⟩) Q1 cc) Q1 (z04 (f.es++[⟨0,0,⟨#[]⟩,none,0,0⟩]))/\wa.grownBy w4 (Value.slice f.A q f.c).ownBlock/\(ob f.A=some g\/g=wa.heap.size)/\g<w4.heap.size) (W:World)
  (hW:W=(((((w4.setCell ⟨g,q*4,none⟩ (.int .i64 e.k)).setCell ⟨g,q*4+1,none⟩ (.int .i64 e.n)).setCell ⟨g,q*4+2,none⟩ (.string e.s)).setCell ⟨g,q*4+3,none⟩ (.slice e.A e.len e.cap)).setCell ⟨gS,fs.length*4+3,none⟩ (.slice (some ⟨g,0,none⟩) Q1 cc)) \/
   W=(((((w4.setCell ⟨gS,fs.length*4+3,none⟩ (.slice (some ⟨g,0,none⟩) Q1 cc)).setCell ⟨g,q*4,none⟩ (.int .i64 e.k)).setCell ⟨g,q*4+1,none⟩ (.int .i64 e.n)).setCell ⟨g,q*4+2,none⟩ (.string e.s)).setCell ⟨g,q*4+3,none⟩ (.slice e.A e.len e.cap))) :
  Stk w0 W gs b1 b2 c1 c2 (fs++[⟨f.k,f.es++[e],f.ts++[t],some ⟨g,0,none⟩,cc⟩]) (some ⟨gS,0,none⟩) c (fun i=>O i\/i=g):=by
 obtain⟨_,_,_,hne,hne2,hrS⟩:=v2u h hq hQ hx;obtain⟨hown,hgr,hat,hlt⟩:=hx;have hfm:f∈fs++[f]:=List.mem_append_right _ (List.mem_singleton_self _);have hle:f.es.length<=q:=by rw [(h.fr f hfm).len];omega
 have hjl:q<(f.es++[(⟨0,0,⟨#[]⟩,none,0,0⟩:VC)]).length:=by rw [List.length_append,(h.fr f hfm).len];simp;omega
 have hset:(f.es++[(⟨0,0,⟨#[]⟩,none,0,0⟩:VC)]).set q e=f.es++[e]:=by
  rw [List.set_append_right _ _ hle,(h.fr f hfm).len,hq,Nat.sub_self];rfl
 have hat2:(fs.map FrM.vc++[f.vc])[fs.length]?=some f.vc:=by rw [List.getElem?_append_right (by rw [List.length_map];exact Nat.le_refl _),List.length_map,Nat.sub_self];rfl
 have hset2:(fs.map FrM.vc++[f.vc]).set fs.length ⟨f.vc.k,f.vc.n,f.vc.s,some ⟨g,0,none⟩,Q1,cc⟩=fs.map FrM.vc++[⟨f.k,0,⟨#[]⟩,some ⟨g,0,none⟩,f.ts.length+1,cc⟩]:=by
  rw [List.set_append_right _ _ (by rw [List.length_map];exact Nat.le_refl _),List.length_map,Nat.sub_self,hQ,hq];rfl
 have gset:∀ {X Y:World} (b i:Nat) (u:Value),(b=g\/b=gS)->Chg (fun i=>i=g\/ob (some ⟨gS,0,none⟩)=some i) X Y->Chg (fun i=>i=g\/ob (some ⟨gS,0,none⟩)=some i) X (Y.setCell ⟨b,i,none⟩ u):=fun b i u hbb hc=>hc.setCell (p:=⟨b,i,none⟩) (fun _=>hbb.elim .inl (fun e=>.inr (by rw [e];rfl))) u;have h1:∀ X:World,Chg (fun i=>i=gS) X (X.setCell ⟨gS,fs.length*4+3,none⟩ (.slice (some ⟨g,0,none⟩) Q1 cc)):=fun X=>z4f _ _ (Chg.refl (fun i=>i=gS) X);subst hq;rcases hW with rfl|rfl
 ·have ho:=z67 (e:=e) hown hjl;rw [hset] at ho;have hs:=y2y (A:=some ⟨g,0,none⟩) (n:=Q1) (cc:=cc) (z0p hrS (z4g w4 g f.ts.length (.int .i64 e.k) (.int .i64 e.n) (.string e.s) (.slice e.A e.len e.cap)) (fun i hi e=>by rw [z28] at hi;cases hi;exact hne2 e)) hat2;rw [hset2] at hs;refine h.add hv hgr rfl hat hlt (gset gS _ _ (.inr rfl) (gset g _ _ (.inl rfl) (gset g _ _ (.inl rfl) (gset g _ _ (.inl rfl) (gset g _ _ (.inl rfl) (Chg.refl _ w4)))))) ?_ hs;rw [<- hQ];exact z0p ho (h1 _) (fun i hi e=>by rw [z28] at hi;cases hi;exact hne e)
 ·have ho:=z67 (e:=e) (z0p hown (h1 w4) (fun i hi e=>by rw [z28] at hi;cases hi;exact hne e)) hjl;rw [hset] at ho;have hs0:=y2y (A:=some ⟨g,0,none⟩) (n:=Q1) (cc:=cc) hrS hat2;rw [hset2] at hs0;have hs:=z0p hs0 (z4g (w4.setCell ⟨gS,fs.length*4+3,none⟩ (.slice (some ⟨g,0,none⟩) Q1 cc)) g f.ts.length (.int .i64 e.k) (.int .i64 e.n) (.string e.s) (.slice e.A e.len e.cap)) (fun i hi e=>by rw [z28] at hi;cases hi;exact hne2 e);refine h.add hv hgr rfl hat hlt (gset g _ _ (.inl rfl) (gset g _ _ (.inl rfl) (gset g _ _ (.inl rfl) (gset g _ _ (.inl rfl) (gset gS _ _ (.inr rfl) (Chg.refl _ w4)))))) ?_ hs;rw [<- hQ];exact ho
end
theorem z65 {w0 w:World} {gs b1 b2 c:Nat} {c1 c2:Array Value} {fs:List FrM} {f:FrM} {SA:Option Addr} {O:Nat->Prop} (h:Stk w0 w gs b1 b2 c1 c2 (fs++[f]) SA c O) (n:Nat) (hnn:n=fs.length+1) (hb:fs.length<=500000) (hq:∀ x∈fs++[f],x.ts.length<=1000000000) (t:VT) (e:VC) (hv:InsB w0 O w t e) :
  Calls Tryz.prog 102 #[.slice SA n c,e.val] w fun ee w'=>ee=.returned (.int .i64 (z1v (stO (fs++[f])) t.kind)) /\
   ((z1v (stO (fs++[f])) t.kind=0/\∃ (A':Option Addr) (c':Nat) (O':Nat->Prop),Stk w0 w' gs b1 b2 c1 c2 (fs++[⟨f.k,f.es++[e],f.ts++[t],A',c'⟩]) SA c O')\/(z1v (stO (fs++[f])) t.kind≠0/\Stk w0 w' gs b1 b2 c1 c2 (fs++[f]) SA c O)):=by
 obtain⟨gS,rfl,hcS,_,_,_,hs3⟩:=h.top;have hek:e.k=t.kind:=hv.eq.1;rw [<- hek];have HV:=kf hv;have hee:∃ X,X=e:=⟨_,rfl⟩
 obtain⟨X,hX⟩:=hee;obtain⟨ek,en,es,eA,el,ec⟩:=e;unfold VC.val;simp only [];have hchA:=(Chg.refl NoS w).alloc (.cells #[.int .i64 ek,.int .i64 en,.string es,.slice eA el ec] 24);have HSA:=kf (h.call hchA);have HRM:=kf (y2n HSA.out n (by simp;omega) (by omega) hq ek);have HB3:=kf (Blk.new w 24 #[.int .i64 ek,.int .i64 en,.string es,.slice eA el ec]);have HVA:=kf (hv.chg hchA);obtain⟨m,hm⟩:∃ m,m=fs.length:=⟨_,rfl⟩
 obtain⟨fA,hfA⟩:∃ fA,fA=f.A:=⟨_,rfl⟩
 obtain⟨q,hqq⟩:∃ q,q=f.ts.length:=⟨_,rfl⟩
 obtain⟨fc,hfc⟩:∃ fc,fc=f.c:=⟨_,rfl⟩
 have hs3':=(hchA.cell (p:=⟨gS,_,none⟩) (z05 hs3) (fun e=>e)).trans hs3;rw [<- hm,<- hfA,<- hqq,<- hfc] at hs3';have hqb:q<=1000000000:=by rw [hqq];exact hq f (List.mem_append_right _ (List.mem_singleton_self _))
 obtain⟨Q1,hQ1⟩:∃ Q1,Q1=q+1:=⟨_,rfl⟩
 have HQ1:=kf hQ1;have HM:=kf hm;have HFQ:=kf (And.intro hfA (And.intro hqq hfc));have e1:(n:Int)-1=(m:Int):=by omega
 have i1:(m:Int)<(n:Int):=by omega
 have hmb:m<=500000:=by omega
 have i2:(0:Int)<=(m:Int):=by omega
 have b1_:(q:Int)<(Q1:Int):=by omega
 have b2_:(0:Int)<=(q:Int):=by omega
 have hcS':n<=c:=by omega
 obtain⟨er,her⟩:∃ er,er=z1v (stO (fs++[f])) ek:=⟨_,rfl⟩
 rw [<- her] at HRM ⊢;obtain⟨W0,hW0⟩:∃ W0,W0=w.alloc (.cells #[.int .i64 ek,.int .i64 en,.string es,.slice eA el ec] 24):=⟨_,rfl⟩
 obtain⟨g3,hg3⟩:∃ g3,g3=w.heap.size:=⟨_,rfl⟩
 rw [<- hW0] at HSA HRM HB3 HVA hs3';rw [<- hg3] at HB3
 have HG3:Hid (ob fA≠some g3):=fun e=>by
  have h1:=h.lt g3 (h.of f (List.mem_append_right _ (List.mem_singleton_self _)) g3 (by rw [<- hfA];exact e)).1;omega
 obtain⟨y0,y1,y2,y3,_,_,_,_⟩:=HB3.out.cl4;clear h hq hnn hm hfA hqq hfc hQ1 her hv hek hs3 hchA HV hX hcS;by_cases he:er=0
 ·subst he;go_enter Tryz.func102,Tryz.ntmps102;go_upto_region 1 with fail;rw [<- hW0,<- hg3];clear hW0 hg3;go_upto_region 5 with(go_at_call 126;refine HRM.out.mono ?_;rintro e w2 ⟨rfl,hw⟩;subst hw);have HS0:=kf (HSA.out.call ((Chg.refl NoS w2).drew));have HV0:=kf (HVA.out.chg ((Chg.refl NoS w2).drew));have HB0:=kf (show Blk w2.drew g3 24 #[.int .i64 ek,.int .i64 en,.string es,.slice eA el ec] from HB3.out);have q0':w2.drew.cell? ⟨gS,m*4+3,none⟩=some (.slice fA q fc):=hs3';have hStart:(fun w':World=>w'.cell? ⟨gS,m*4+3,none⟩=some (.slice fA q fc)/\w'.cell? ⟨g3,0,none⟩=some (.int .i64 ek)/\w'.cell? ⟨g3,1,none⟩=some (.int .i64 en)/\w'.cell? ⟨g3,2,none⟩=some (.string es)/\w'.cell? ⟨g3,3,none⟩=some (.slice eA el ec)) w2.drew:=⟨q0',y0,y1,y2,y3⟩
  refine HY.startY (fun w'=>w'.cell? ⟨gS,m*4+3,none⟩=some (.slice fA q fc)/\w'.cell? ⟨g3,0,none⟩=some (.int .i64 ek)/\w'.cell? ⟨g3,1,none⟩=some (.int .i64 en)/\w'.cell? ⟨g3,2,none⟩=some (.string es)/\w'.cell? ⟨g3,3,none⟩=some (.slice eA el ec)) [8,9,10,11,12] (by kernel_rfl) hStart (fun hHeld=>?_);clear hs3' y0 y1 y2 y3 hStart HSA HRM HVA HB3;generalize w2.drew=wq at *;have HQS:Hid (m=fs.length/\fA=f.A/\q=f.ts.length/\fc=f.c):=⟨HM.out,HFQ.out⟩
  have HS6:Hid ((fun w':World=>w'.cell? ⟨gS,m*4+3,none⟩=some (.slice fA q fc)/\w'.cell? ⟨g3,0,none⟩=some (.int .i64 ek)/\w'.cell? ⟨g3,1,none⟩=some (.int .i64 en)/\w'.cell? ⟨g3,2,none⟩=some (.string es)/\w'.cell? ⟨g3,3,none⟩=some (.slice eA el ec)) (wq.alloc (.cells #[.int .i64 0,.int .i64 0,.string ⟨#[]⟩,.slice none 0 0] 24))):=by
   obtain⟨y0,y1,y2,y3,_,_,_,_⟩:=(HB0.out.alloc (.cells #[.int .i64 0,.int .i64 0,.string ⟨#[]⟩,.slice none 0 0] 24)).cl4;exact⟨(((Chg.refl NoS wq).alloc _).cell (p:=⟨gS,m*4+3,none⟩) (z05 q0') (fun e=>e)).trans q0',y0,y1,y2,y3⟩
  have HOW:Hid ((wq.alloc (.cells #[.int .i64 0,.int .i64 0,.string ⟨#[]⟩,.slice none 0 0] 24)).ownsRow 0 24 4 (.slice fA q fc) q (z04 f.es)):=by
   rw [HFQ.out.1,HFQ.out.2.1,HFQ.out.2.2];exact z0p (S:=NoS) (HS0.out.fr f (List.mem_append_right _ (List.mem_singleton_self _))).own ((Chg.refl NoS wq).alloc _) (fun _ _ e=>e)
  have HEND:Hid (∀ (g cc:Nat) (w4:World),(w4.ownsRow 0 24 4 (.slice (some ⟨g,0,none⟩) Q1 cc) Q1 (z04 (f.es++[⟨0,0,⟨#[]⟩,none,0,0⟩]))/\(wq.alloc (.cells #[.int .i64 0,.int .i64 0,.string ⟨#[]⟩,.slice none 0 0] 24)).grownBy w4 (Value.slice fA q fc).ownBlock/\(ob fA=some g\/g=(wq.alloc (.cells #[.int .i64 0,.int .i64 0,.string ⟨#[]⟩,.slice none 0 0] 24)).heap.size)/\g<w4.heap.size)->∀ (W:World),
    (W=(((((w4.setCell ⟨g,q*4,none⟩ (.int .i64 ek)).setCell ⟨g,q*4+1,none⟩ (.int .i64 en)).setCell ⟨g,q*4+2,none⟩ (.string es)).setCell ⟨g,q*4+3,none⟩ (.slice eA el ec)).setCell ⟨gS,m*4+3,none⟩ (.slice (some ⟨g,0,none⟩) Q1 cc)) \/
     W=(((((w4.setCell ⟨gS,m*4+3,none⟩ (.slice (some ⟨g,0,none⟩) Q1 cc)).setCell ⟨g,q*4,none⟩ (.int .i64 ek)).setCell ⟨g,q*4+1,none⟩ (.int .i64 en)).setCell ⟨g,q*4+2,none⟩ (.string es)).setCell ⟨g,q*4+3,none⟩ (.slice eA el ec))) ->
    Stk w0 W gs b1 b2 c1 c2 (fs++[⟨f.k,f.es++[⟨ek,en,es,eA,el,ec⟩],f.ts++[t],some ⟨g,0,none⟩,cc⟩]) (some ⟨gS,0,none⟩) c (fun i=>O i\/i=g)):=by
   obtain⟨k1,k2,k3,k4⟩:=HQS.out;have hQ:=HQ1.out;intro g cc w4 hx W hW;subst k1 k2 k3 k4;exact v5x (e:=⟨ek,en,es,eA,el,ec⟩) (HS0.out.call ((Chg.refl NoS wq).alloc _)) (HV0.out.chg ((Chg.refl NoS wq).alloc _)) rfl hQ hx W hW
  have HFA:Hid (∀ (g cc:Nat) (w4:World),(w4.ownsRow 0 24 4 (.slice (some ⟨g,0,none⟩) Q1 cc) Q1 (z04 (f.es++[⟨0,0,⟨#[]⟩,none,0,0⟩]))/\(wq.alloc (.cells #[.int .i64 0,.int .i64 0,.string ⟨#[]⟩,.slice none 0 0] 24)).grownBy w4 (Value.slice fA q fc).ownBlock/\(ob fA=some g\/g=(wq.alloc (.cells #[.int .i64 0,.int .i64 0,.string ⟨#[]⟩,.slice none 0 0] 24)).heap.size)/\g<w4.heap.size) ->
    ((w4.cell? ⟨g,q*4,none⟩=some (.int .i64 0)/\w4.cell? ⟨g,q*4+1,none⟩=some (.int .i64 0)/\w4.cell? ⟨g,q*4+2,none⟩=some (.string ⟨#[]⟩)/\w4.cell? ⟨g,q*4+3,none⟩=some (.slice none 0 0)) /\
     w4.frozen? ⟨g,q*4,none⟩=false/\w4.frozen? ⟨g,q*4+1,none⟩=false/\w4.frozen? ⟨g,q*4+2,none⟩=false/\w4.frozen? ⟨g,q*4+3,none⟩=false) /\
    w4.cell? ⟨gS,m*4+3,none⟩=some (.slice fA q fc)/\w4.frozen? ⟨gS,m*4+3,none⟩=false/\g≠gS/\gS≠g /\
    w4.cell? ⟨g3,0,none⟩=some (.int .i64 ek)/\w4.cell? ⟨g3,1,none⟩=some (.int .i64 en)/\w4.cell? ⟨g3,2,none⟩=some (.string es)/\w4.cell? ⟨g3,3,none⟩=some (.slice eA el ec)):=by
   obtain⟨k1,k2,k3,k4⟩:=HQS.out;have hQ:=HQ1.out;intro g cc w4 hx;have hb3:=(HB0.out.alloc (.cells #[.int .i64 0,.int .i64 0,.string ⟨#[]⟩,.slice none 0 0] 24)).grown hx.2.1 (fun e=>?_)
   ·obtain⟨y0,y1,y2,y3,_,_,_,_⟩:=hb3.cl4;subst k1 k2 k3 k4;obtain⟨a1,a2,a3,a4,a5,_⟩:=v2u (HS0.out.call ((Chg.refl NoS wq).alloc _)) rfl hQ hx;exact⟨a1,a2,a3,a4,a5,y0,y1,y2,y3⟩
   ·rw [z28] at e;exact HG3.out e.symm
  refine HY.takeY (i:=0) (oi:={ dst:=some 19,op:=Go.Op.move (Go.Operand.tmp 6),type:=164,pos:=_,after:=_,guard:=none }) (v:=?_) rfl (by kernel_rfl) (by kernel_rfl) (by kernel_rfl) (by kernel_rfl) (fun _ _ _ h=>h) (Or.inl ⟨by rfl,?_⟩) (by assumption) ?_;rotate_left
  ·intro w hSw;(try dsimp only at hSw);(try obtain⟨s0,s1,s2,s3,s4⟩:=hSw);(first|(go_simp;done)|(go_simp;with_reducible rfl))
  try simp only [pkA]
  refine HY.takeY (i:=1) (oi:={ dst:=some 20,op:=Go.Op.nilCheck (Go.Operand.tmp 19),type:=0,pos:=_,after:=_,guard:=none }) (v:=?_) rfl (by kernel_rfl) (by kernel_rfl) (by kernel_rfl) (by kernel_rfl) (fun _ _ _ h=>h) (Or.inl ⟨by rfl,?_⟩) (by assumption) ?_;rotate_left
  ·intro w hSw;(try dsimp only at hSw);(try obtain⟨s0,s1,s2,s3,s4⟩:=hSw);(first|(go_simp;done)|(go_simp;with_reducible rfl))
  try simp only [pkA]
  refine HY.takeY (i:=2) (oi:={ dst:=some 21,op:=Go.Op.fieldAddr 24 (Go.Operand.tmp 20) 3,type:=0,pos:=_,after:=_,guard:=none }) (v:=?_) rfl (by kernel_rfl) (by kernel_rfl) (by kernel_rfl) (by kernel_rfl) (fun _ _ _ h=>h) (Or.inl ⟨by rfl,?_⟩) (by assumption) ?_;rotate_left
  ·intro w hSw;(try dsimp only at hSw);(try obtain⟨s0,s1,s2,s3,s4⟩:=hSw);(first|(go_simp;done)|(go_simp;with_reducible rfl))
  try simp only [pkA]
  refine HY.takeY (i:=3) (oi:={ dst:=some 22,op:=Go.Op.load 22 (Go.Operand.tmp 21),type:=22,pos:=_,after:=_,guard:=none }) (v:=?_) rfl (by kernel_rfl) (by kernel_rfl) (by kernel_rfl) (by kernel_rfl) (fun _ _ _ h=>h) (Or.inl ⟨by rfl,?_⟩) (by assumption) ?_;rotate_left
  ·intro w hSw;(try dsimp only at hSw);(try obtain⟨s0,s1,s2,s3,s4⟩:=hSw);(first|(go_simp;done)|(go_simp;with_reducible rfl))
  try simp only [pkA]
  refine HY.takeY (i:=4) (oi:={ dst:=some 23,op:=Go.Op.load 24 (Go.Operand.tmp 3),type:=24,pos:=_,after:=_,guard:=none }) (v:=?_) rfl (by kernel_rfl) (by kernel_rfl) (by kernel_rfl) (by kernel_rfl) (fun _ _ _ h=>h) (Or.inl ⟨by rfl,?_⟩) (by assumption) ?_;rotate_left
  ·intro w hSw;(try dsimp only at hSw);(try obtain⟨s0,s1,s2,s3,s4⟩:=hSw);(first|(go_simp;done)|(go_simp;with_reducible rfl))
  try simp only [pkA]
  refine HY.takeY (i:=5) (oi:={ dst:=some 24,op:=Go.Op.call { callee:=Go.Callee.builtin Go.Builtin.len,args:=#[Go.Operand.tmp 22],argTypes:=#[22] },type:=3,pos:=_,after:=_,guard:=none }) (v:=?_) rfl (by kernel_rfl) (by kernel_rfl) (by kernel_rfl) (by kernel_rfl) (fun _ _ _ h=>h) (Or.inl ⟨by rfl,?_⟩) (by assumption) ?_;rotate_left
  ·intro w hSw;(try dsimp only at hSw);(try obtain⟨s0,s1,s2,s3,s4⟩:=hSw);(first|(go_simp;done)|(go_simp;with_reducible rfl))
  try simp only [pkA]
  refine HY.oneY (i:=6) (o:={ dst:=some 25,op:=Go.Op.buildSlice 22 1 #[(0,Go.Operand.const (Go.Value.agg #[Go.Value.int Go.IntKind.i64 0,Go.Value.int Go.IntKind.i64 0,Go.Value.string { data:=#[] },Go.Value.slice none 0 0]))],type:=22,pos:=_,after:=_,guard:=none }) (by kernel_rfl) rfl (fun K hK=>?_);go_simp;refine hK.out _ _ (HS6.out) (fun hHeld=>?_);clear hK K;try simp only [pkA]
  refine HY.oneY (i:=7) (o:={ dst:=some 26,op:=Go.Op.call { callee:=Go.Callee.builtin Go.Builtin.append,args:=#[Go.Operand.tmp 22,Go.Operand.tmp 25],argTypes:=#[22,22] },type:=22,pos:=_,after:=_,guard:=none }) (by kernel_rfl) rfl (fun K hK=>?_);(refine y2d (W:=wq.alloc (.cells #[.int .i64 0,.int .i64 0,.string ⟨#[]⟩,.slice none 0 0] 24)) (es:=f.es) (e:=⟨0,0,⟨#[]⟩,none,0,0⟩) (n:=q) (N1:=Q1) (c:=fc) (B:=wq.heap.size) (A:=fA) Tryz.underlying22 rfl (.tmp 22) (.tmp 25) rfl rfl rfl HOW.out (by omega) HQ1.out (Blk.new wq _ _) ?_;intro g cc w4 hown hgr hat hlt;have HX:=kf (And.intro hown (And.intro hgr (And.intro hat hlt)));have hx:=HFA.out g cc w4 HX.out;clear hown hgr hat hlt;obtain⟨⟨⟨k0,k1,k2,k3⟩,z0,z1,z2,z3⟩,c0,f0,hne,hne2,d0,d1,d2,d3⟩:=hx)
  refine hK.out _ _ ⟨c0,d0,d1,d2,d3⟩ (fun hHeld=>?_);clear hK K;try simp only [pkA]
  refine HY.soonY (i:=8) (oi:={ dst:=some 27,op:=Go.Op.indexAddr 22 (Go.Operand.tmp 26) (Go.Operand.tmp 24),type:=0,pos:=_,after:=_,guard:=none }) (v:=?_) rfl (by kernel_rfl) (by decide) (by kernel_rfl) (by kernel_rfl) (fun _ _ _ h=>h) (Or.inl ⟨by rfl,?_⟩) ?_;rotate_left
  ·intro w _;(first|(go_simp;done)|(go_simp;with_reducible rfl))
  try simp only [pkA]
  refine HY.soonY (i:=10) (oi:={ dst:=some 28,op:=Go.Op.nilCheck (Go.Operand.tmp 19),type:=0,pos:=_,after:=_,guard:=none }) (v:=?_) rfl (by kernel_rfl) (by decide) (by kernel_rfl) (by kernel_rfl) (fun _ _ _ h=>h) (Or.inl ⟨by rfl,?_⟩) ?_;rotate_left
  ·intro w _;(first|(go_simp;done)|(go_simp;with_reducible rfl))
  try simp only [pkA]
  refine HY.soonY (i:=11) (oi:={ dst:=some 29,op:=Go.Op.fieldAddr 24 (Go.Operand.tmp 28) 3,type:=0,pos:=_,after:=_,guard:=none }) (v:=?_) rfl (by kernel_rfl) (by decide) (by kernel_rfl) (by kernel_rfl) (fun _ _ _ h=>h) (Or.inl ⟨by rfl,?_⟩) ?_;rotate_left
  ·intro w _;(first|(go_simp;done)|(go_simp;with_reducible rfl))
  try simp only [pkA]
  refine HY.twoY (i:=9) (j:=12) (o:={ dst:=none,op:=Go.Op.store 24 (Go.Operand.tmp 27) (Go.Operand.tmp 23),type:=0,pos:=_,after:=_,guard:=none }) (o':={ dst:=none,op:=Go.Op.store 22 (Go.Operand.tmp 29) (Go.Operand.tmp 26),type:=0,pos:=_,after:=_,guard:=none }) (by kernel_rfl) rfl rfl (by decide) (by decide) (fun K hK=>?_) (fun K hK=>?_)
  ·go_simp;refine hK.out _ _ ?_;clear hK K;try simp only [pkA]
   refine HY.lastY (i:=12) (o:={ dst:=none,op:=Go.Op.store 22 (Go.Operand.tmp 29) (Go.Operand.tmp 26),type:=0,pos:=_,after:=_,guard:=none }) (by kernel_rfl) rfl (by decide) (by kernel_rfl) (fun K hK=>?_);go_simp;refine hK.out _ _ ?_;clear hK K;try simp only [pkA]
   go_wp2_with fail;go_ret;exact⟨rfl,some ⟨g,0,none⟩,cc,_,HEND.out g cc w4 HX.out _ (.inl rfl)⟩
  ·go_simp;refine hK.out _ _ ?_;clear hK K;try simp only [pkA]
   refine HY.lastY (i:=9) (o:={ dst:=none,op:=Go.Op.store 24 (Go.Operand.tmp 27) (Go.Operand.tmp 23),type:=0,pos:=_,after:=_,guard:=none }) (by kernel_rfl) rfl (by decide) (by kernel_rfl) (fun K hK=>?_);go_simp;refine hK.out _ _ ?_;clear hK K;try simp only [pkA]
   go_wp2_with fail;go_ret;exact⟨rfl,some ⟨g,0,none⟩,cc,_,HEND.out g cc w4 HX.out _ (.inr rfl)⟩
 ·have e1:(er != 0)=true:=by simpa using he
  have e2:(er==0)=false:=by simpa using he
  have HNE:=kf he;clear he;go_enter Tryz.func102,Tryz.ntmps102;go_upto_region 1 with fail;rw [<- hW0,<- hg3];clear hW0 hg3;go_wp2_with (go_at_call 126;refine HRM.out.mono ?_;rintro e w2 ⟨rfl,hw⟩;subst hw);go_ret;exact⟨rfl,.inr ⟨HNE.out,HSA.out⟩⟩
def y25 (w0:World) (gs b1 b2:Nat) (c1 c2:Array Value) (fs:List FrM) (kind:Int) (e:Ending) (w':World):Prop :=
 ∃ v:VC,e=.returned (.tuple #[v.val,.int .i64 (z8s (stO fs) kind).1])/\∃ (fs':List FrM) (S':Option Addr) (c':Nat) (O':Nat->Prop),Stk w0 w' gs b1 b2 c1 c2 fs' S' c' O'/\((z8s (stO fs) kind).1=0->stO fs'=(stO fs).tail/\InsB w0 O' w' (z8s (stO fs) kind).2 v)
theorem y60 {w0 w:World} {gs b1 b2 c:Nat} {c1 c2:Array Value} {SA:Option Addr} {O:Nat->Prop} (h:Stk w0 w gs b1 b2 c1 c2 [] SA c O) (kind:Int) :
  Calls Tryz.prog 99 #[.pointer (some ⟨gs,0,none⟩),.int .i64 kind] w (y25 w0 gs b1 b2 c1 c2 [] kind):=by
 have HERR:Hid (∀ w':World,Chg NoS w w'->y25 w0 gs b1 b2 c1 c2 [] kind (.returned (.tuple #[.agg #[.int .i64 0,.int .i64 0,.string ⟨#[]⟩,.slice none 0 0],.int .i64 11])) w'):=fun w' hc=>⟨⟨0,0,⟨#[]⟩,none,0,0⟩,rfl,[],SA,c,O,h.call hc,fun h=>absurd (show(11:Int)=0 from h) (by decide)⟩
 have HBX:Hid (Blk w gs 137 #[.slice SA 0 c]):=h.box;clear h;go_enter Tryz.func99,Tryz.ntmps99;go_upto_region 1 with fail;obtain⟨W1,hW1⟩:∃ W1,W1=w.alloc (.cells #[.int .i64 0,.int .i64 0,.string ⟨#[]⟩,.slice none 0 0] 24):=⟨_,rfl⟩
 obtain⟨g4,hg4⟩:∃ g4,g4=w.heap.size:=⟨_,rfl⟩
 have HC1:=kf ((Chg.refl NoS w).alloc (.cells #[.int .i64 0,.int .i64 0,.string ⟨#[]⟩,.slice none 0 0] 24));have HB4:=kf (Blk.new w 24 #[.int .i64 0,.int .i64 0,.string ⟨#[]⟩,.slice none 0 0]);rw [<- hW1] at HC1 HB4 ⊢;rw [<- hg4] at HB4 ⊢;have HG4:=kf hg4;clear hW1 hg4;have hge4:w.heap.size<=g4:=by have:=HG4.out;omega
 have HX1:=kf (HBX.out.chg HC1.out (fun e=>e));have q0:=(HX1.out.cell 0)
 simp at q0;obtain⟨r0,r1,r2,r3,z0,z1,z2,z3⟩:=HB4.out.cl4;go_wp2_with fail;refine bodyPost_ret (v:=.tuple #[.agg #[.int .i64 0,.int .i64 0,.string ⟨#[]⟩,.slice none 0 0],.int .i64 11]) (by simp [results,Tryz.results99,go_sem,r0,r1,r2,r3]) rfl ?_;exact HERR.out _ (Chg.newc hge4 (Chg.newc hge4 (Chg.newc hge4 (Chg.newc hge4 HC1.out))))
theorem y5z {w0 w:World} {gs b1 b2 c:Nat} {c1 c2:Array Value} {fs:List FrM} {f:FrM} {SA:Option Addr} {O:Nat->Prop} (h:Stk w0 w gs b1 b2 c1 c2 (fs++[f]) SA c O) (hb:fs.length<=500000) (hq:f.ts.length<=500000) (kind:Int) (hk67:kind=6\/kind=7) :
  Calls Tryz.prog 99 #[.pointer (some ⟨gs,0,none⟩),.int .i64 kind] w (y25 w0 gs b1 b2 c1 c2 (fs++[f]) kind):=by
 obtain⟨gS,rfl,hcS,h0,h1,h2,h3⟩:=h.top;have hfm:f∈fs++[f]:=List.mem_append_right _ (List.mem_singleton_self _);have hfo:=h.fr f hfm;have hfg:=y2z hfo.own;have hpo:z8s (stO (fs++[f])) kind=if f.k≠kind then(11,z1i) else if kind=7 then z97 f.ts else(0,.mk f.k 0 ⟨#[]⟩ f.ts):=by rw [z0d];rfl
 have HERR:Hid (∀ w':World,Chg NoS w w'->f.k≠kind->y25 w0 gs b1 b2 c1 c2 (fs++[f]) kind (.returned (.tuple #[.agg #[.int .i64 0,.int .i64 0,.string ⟨#[]⟩,.slice none 0 0],.int .i64 11])) w'):=fun w' hc hne=>⟨⟨0,0,⟨#[]⟩,none,0,0⟩,by rw [hpo,if_pos hne];rfl,fs++[f],_,c,O,h.call hc,fun h=>by rw [hpo,if_pos hne] at h;exact absurd h (by decide)⟩
 obtain⟨n,hn⟩:∃ n,n=fs.length+1:=⟨_,rfl⟩
 have hbx:=h.box;rw [show(fs++[f]).length=n from by rw [hn];simp] at hbx;have HBX:=kf hbx;obtain⟨m,hm⟩:∃ m,m=fs.length:=⟨_,rfl⟩
 -- what stands behind the closing
 have HEND:Hid (∀ W':World,Chg (fun i=>i=gs) w W'->Blk W' gs 137 #[.slice (some ⟨gS,0,none⟩) m c]->Stk w0 W' gs b1 b2 c1 c2 fs (some ⟨gS,0,none⟩) c (fun i=>O i/\ob f.A≠some i)/\FrOk w0 (fun i=>O i/\ob f.A≠some i) W' f):=fun W' hc hb=>by rw [hm] at hb;exact h.pop hc hb
 have HNG7:Hid (∀ {X:World} (g:Nat),g<X.heap.size->w.heap.size<=g->gs=g->False):=fun {X} g _ hg e=>by have:=h.lt gs h.og;omega
 have HSZ0:=kf h.chg.size;have HNW:=kf (fun g (hg:ob f.A=some g)=>h.new g (h.of f hfm g hg).1);have HLT:Hid (∀ i,(O i/\ob f.A≠some i)->i<w.heap.size):=fun i hi=>h.lt i hi.1;have HGO:Hid (O gs/\ob f.A≠some gs):=⟨h.og,h.gsF hfm⟩
 have HIS:Hid (∀ (j:Nat) (t:VT) (e:VC),f.ts[j]?=some t->f.es[j]?=some e->InsB w0 (fun i=>O i/\ob f.A≠some i) w t e):=fun j t e h1 h2=>(hfo.is j t e h1 h2).turn (Chg.refl O w) (fun i _ e=>e.1);have HSR:=kf (fun(W:World) (hc:Chg (fun i=>i=gs) w W)=>z8h (z0p hfo.own hc (fun g hg e=>by rw [z28] at hg;exact h.gsF hfm (by rw [<- e];exact hg))))
 have HKS:Hid (∀ t∈f.ts,t.str.size<=maxLen):=fun t ht=>by
  obtain⟨j,hj⟩:=List.mem_iff_getElem?.1 ht;obtain⟨e,he⟩:∃ e,f.es[j]?=some e:=⟨_,List.getElem?_eq_getElem (by rw [hfo.len];exact(List.getElem?_eq_some_iff.1 hj).1)⟩
  have hi:=hfo.is j t e hj he;rw [<- hi.eq.2.2];exact hi.now.good.s
 have HLN:=kf hfo.len;obtain⟨q,hqq⟩:∃ q,q=f.ts.length:=⟨_,rfl⟩
 obtain⟨fA,hfA⟩:∃ fA,fA=f.A:=⟨_,rfl⟩
 obtain⟨fc,hfc⟩:∃ fc,fc=f.c:=⟨_,rfl⟩
 obtain⟨kk,hkk⟩:∃ kk,kk=f.k:=⟨_,rfl⟩
 have HFQ:=kf (And.intro hqq (And.intro hfA (And.intro hfc hkk)));rw [<- hqq,<- hfA,<- hfc] at h3 hfg;rw [<- hkk] at h0;rw [<- hkk] at hpo;rw [<- hm] at h0 h1 h2 h3;have hqc:=hfg.2.1;have HSP:=kf hfg.2.2.2;have e1:(n:Int)-1=(m:Int):=by omega
 have i1:(m:Int)<(n:Int):=by omega
 have i2:(0:Int)<=(m:Int):=by omega
 have i3:(m:Int)<=(c:Int):=by omega
 have hmb:m<=500000:=by omega
 have hqb:q<=500000:=by omega
 have d0:decide ((m:Int)<0)=false:=by simp
 have HPO:=kf hpo;rw [<- hkk] at HERR;clear h hfm hfo hfg hn hbx hm hqq hfA hfc hkk hb hq hcS hpo;by_cases hk:kk=kind
 ·subst hk;by_cases hk7:kk=7
  ·subst hk7;clear HERR;go_enter Tryz.func99,Tryz.ntmps99;go_upto_region 1 with fail;obtain⟨W1,hW1⟩:∃ W1,W1=w.alloc (.cells #[.int .i64 0,.int .i64 0,.string ⟨#[]⟩,.slice none 0 0] 24):=⟨_,rfl⟩
   obtain⟨g4,hg4⟩:∃ g4,g4=w.heap.size:=⟨_,rfl⟩
   have HC1:=kf ((Chg.refl NoS w).alloc (.cells #[.int .i64 0,.int .i64 0,.string ⟨#[]⟩,.slice none 0 0] 24));have HB4:=kf (Blk.new w 24 #[.int .i64 0,.int .i64 0,.string ⟨#[]⟩,.slice none 0 0]);rw [<- hW1] at HC1 HB4 ⊢;rw [<- hg4] at HB4 ⊢;have HG4:=kf hg4;clear hW1 hg4;have hge4:w.heap.size<=g4:=by have:=HG4.out;omega
   have HX1:=kf (HBX.out.chg HC1.out (fun e=>e));have q0:=(HX1.out.cell 0)
   simp at q0;obtain⟨r0,r1,r2,r3,z0,z1,z2,z3⟩:=HB4.out.cl4;have h0':=(HC1.out.cell (p:=⟨gS,_,none⟩) (z05 h0) (fun e=>e)).trans h0;have h1':=(HC1.out.cell (p:=⟨gS,_,none⟩) (z05 h1) (fun e=>e)).trans h1;have h2':=(HC1.out.cell (p:=⟨gS,_,none⟩) (z05 h2) (fun e=>e)).trans h2;have h3':=(HC1.out.cell (p:=⟨gS,_,none⟩) (z05 h3) (fun e=>e)).trans h3;clear h0 h1 h2 h3;go_upto_region 5 with fail;obtain⟨W2,hW2⟩:∃ W2,W2=W1.alloc (.cells #[.int .i64 7,.int .i64 0,.string ⟨#[]⟩,.slice fA q fc] 24):=⟨_,rfl⟩
   obtain⟨g7,hg7⟩:∃ g7,g7=W1.heap.size:=⟨_,rfl⟩
   have HB7:=kf (Blk.new W1 24 #[.int .i64 7,.int .i64 0,.string ⟨#[]⟩,.slice fA q fc]);have HC2:=kf (HC1.out.alloc (.cells #[.int .i64 7,.int .i64 0,.string ⟨#[]⟩,.slice fA q fc] 24));have HX2:=kf (HX1.out.alloc (.cells #[.int .i64 7,.int .i64 0,.string ⟨#[]⟩,.slice fA q fc] 24));have HB42:=kf (HB4.out.alloc (.cells #[.int .i64 7,.int .i64 0,.string ⟨#[]⟩,.slice fA q fc] 24));rw [<- hW2] at HB7 HC2 HX2 HB42 ⊢;rw [<- hg7] at HB7 ⊢;have HG7:Hid (g4<g7):=by rw [hg7];exact HB4.out.lt
   clear hW2 hg7 HB4 HX1 h0' h1' h2' h3' q0 r0 r1 r2 r3 z0 z1 z2 z3;have q0:=(HX2.out.cell 0)
   have zz:=(HX2.out.frozen 0)
   simp at q0;go_upto_region 6 with fail;have hk:Chg (fun i=>i=gs) W2 (W2.setCell ⟨gs,0,none⟩ (.slice (some ⟨gS,0,none⟩) m c)):=(Chg.refl (fun i=>i=gs) W2).setCell (p:=⟨gs,0,none⟩) (fun _=>rfl) _;have HB73:=kf (HB7.out.chg hk (fun e=>HNG7.out g7 HB7.out.lt (by have:=HG7.out;have:=HG4.out;omega) e.symm));have HB43:=kf (HB42.out.chg hk (fun e=>HNG7.out g4 HB42.out.lt (by have:=HG4.out;omega) e.symm));have HX3:=kf (HX2.out.set_ 0 (.slice (some ⟨gS,0,none⟩) m c));have HC3:=kf (HC2.out.mono (fun _ _ e=>e.elim) |>.trans hk (fun _ _ e=>e):Chg (fun i=>i=gs) w _);obtain⟨W3,hW3⟩:∃ W3,W3=W2.setCell ⟨gs,0,none⟩ (.slice (some ⟨gS,0,none⟩) m c):=⟨_,rfl⟩
   rw [<- hW3] at HB73 HB43 HX3 HC3 ⊢;clear hW3 hk HC2 HX2 HB7 HB42 q0 zz;obtain⟨q0,q1,q2,q3,y0,y1,y2,y3⟩:=HB73.out.cl4;obtain⟨r0,r1,r2,r3,z0,z1,z2,z3⟩:=HB43.out.cl4;have HD:=kf (@y61 (v9h (fun i=>(O i/\ob f.A≠some i)\/i<w0.heap.size) w) f.ts f.es fA q fc W3 HFQ.out.1.symm (HLN.out.trans HFQ.out.1.symm) (by rw [HFQ.out.1,HFQ.out.2.1,HFQ.out.2.2.1];exact HSR.out W3 HC3.out) HIS.out (fun a ha=>by rw [HSP.out a ha]) hqc hqb HKS.out);clear z0 z1 z2 z3 r0 r1 r2 r3
   go_wp2_with (go_at_call 127;refine HD.out.mono ?_;rintro e w5 ⟨hc5,hor⟩;have HC5:=kf hc5;have HB45:=kf (HB43.out.chg hc5 (fun e=>e));have HX5:=kf (HX3.out.chg hc5 (fun e=>e));obtain⟨r0,r1,r2,r3,z0,z1,z2,z3⟩:=HB45.out.cl4;clear hc5;obtain⟨v5,er5,rfl,HOR⟩:∃ (v5:VC) (er5:Int),e=.returned (.tuple #[v5.val,.int .i64 er5])/\Hid (er5=(z97 f.ts).1/\(((z97 f.ts).1≠0)\/((z97 f.ts).1=0/\∃ (es:List VC) (A:Option Addr) (n c:Nat),v5=⟨7,0,⟨#[]⟩,A,n,c⟩/\w5.ownsRow 0 24 4 (.slice A n c) n (z04 es)/\es.length=n/\(z1p f.ts).length=n/\(∀ (j:Nat) (t:VT) (e:VC),(z1p f.ts)[j]?=some t->es[j]?=some e->InsB w0 (fun i=>O i/\ob f.A≠some i) w t e)/\∀ a,A=some a->W3.heap.size<=a.block))):=(by
    rcases hor with⟨h1,h2⟩|⟨h1,es,A,n,c,h2,h3⟩
    ·exact⟨_,_,h2,rfl,.inl h1⟩
    ·exact⟨_,_,h2,h1.symm,.inr ⟨h1,es,A,n,c,rfl,h3⟩⟩);clear hor;obtain⟨vk,vn,vs,vA,vl,vcp⟩:=v5;unfold VC.val;simp only [])
   refine bodyPost_ret (v:=.tuple #[.agg #[.int .i64 vk,.int .i64 vn,.string vs,.slice vA vl vcp],.int .i64 er5]) (by simp [results,Tryz.results99,go_sem,r0,r1,r2,r3]) rfl ?_;have hP:z8s (stO (fs++[f])) 7=z97 f.ts:=by rw [HPO.out,if_neg (by simp),if_pos trivial]
   have hW:Chg (fun i=>i=gs) w ((((w5.setCell ⟨g4,0,none⟩ (.int .i64 vk)).setCell ⟨g4,1,none⟩ (.int .i64 vn)).setCell ⟨g4,2,none⟩ (.string vs)).setCell ⟨g4,3,none⟩ (.slice vA vl vcp)) :=
    (HC3.out.trans (HC5.out.mono (fun _ _ e=>e.elim):Chg (fun i=>i=gs) W3 w5) (fun _ _ e=>e)).trans (z0l w5 g4 _ _ _ _) (fun i hi e=>by have:=HG4.out;omega)
   have hX:Blk ((((w5.setCell ⟨g4,0,none⟩ (.int .i64 vk)).setCell ⟨g4,1,none⟩ (.int .i64 vn)).setCell ⟨g4,2,none⟩ (.string vs)).setCell ⟨g4,3,none⟩ (.slice vA vl vcp)) gs 137 #[.slice (some ⟨gS,0,none⟩) m c]:=HX5.out.chg (z0l w5 g4 _ _ _ _) (fun e=>HNG7.out g4 HB45.out.lt (by have:=HG4.out;omega) e);obtain⟨hS,hF⟩:=HEND.out _ hW hX;obtain⟨he,hr⟩:=HOR.out;refine⟨⟨vk,vn,vs,vA,vl,vcp⟩,by rw [hP,<- he];rfl,fs,_,c,_,hS,fun h0=>⟨by rw [z0d];rfl,?_⟩⟩;rw [hP] at h0 ⊢;rcases hr with h1|⟨_,es,A,n1,c1',hv,hown,hel,htl,his,hnew⟩
   ·exact absurd h0 h1
   ·simp only [VC.mk.injEq] at hv;obtain⟨rfl,rfl,rfl,rfl,rfl,rfl⟩:=hv
    have hd:(z97 f.ts).2=.mk 7 0 ⟨#[]⟩ (z1p f.ts):=by
     unfold z97 at h0 ⊢;split at h0
     ·exact absurd h0 (by decide)
     ·next h5 =>
      rw [if_neg h5];split at h0
      ·exact absurd h0 (by decide)
      ·next h6=>rw [if_neg h6]
    rw [hd];refine y1p (z0p hown (z0l w5 g4 _ _ _ _) (fun g hg e=>?_)) (fun g hg e=>?_) hel htl (fun j t e h1 h2=>(his j t e h1 h2).turn (hW.mono (fun i _ e=>by rw [e];exact HGO.out)) (fun _ _ e=>e)) (by decide) (by decide) (by decide)
    ·rw [z28] at hg;rcases vA with _|a
     ·cases hg
     ·have h1:a.block=g:=by simpa [ob] using hg
      have:=hnew a rfl;have:=HB43.out.lt;omega
    ·rcases vA with _|a
     ·cases hg
     ·have h1:a.block=g:=by simpa [ob] using hg
      have:=hnew a rfl;have h2:g<w.heap.size:=e.elim (fun e=>HLT.out g e) (fun e=>Nat.lt_of_lt_of_le e HSZ0.out);have:=HC3.out.size;omega
  ·obtain rfl:kk=6:=hk67.resolve_right hk7;clear HERR hk67;go_enter Tryz.func99,Tryz.ntmps99;go_upto_region 1 with fail;obtain⟨W1,hW1⟩:∃ W1,W1=w.alloc (.cells #[.int .i64 0,.int .i64 0,.string ⟨#[]⟩,.slice none 0 0] 24):=⟨_,rfl⟩
   obtain⟨g4,hg4⟩:∃ g4,g4=w.heap.size:=⟨_,rfl⟩
   have HC1:=kf ((Chg.refl NoS w).alloc (.cells #[.int .i64 0,.int .i64 0,.string ⟨#[]⟩,.slice none 0 0] 24));have HB4:=kf (Blk.new w 24 #[.int .i64 0,.int .i64 0,.string ⟨#[]⟩,.slice none 0 0]);rw [<- hW1] at HC1 HB4 ⊢;rw [<- hg4] at HB4 ⊢;have HG4:=kf hg4;clear hW1 hg4;have hge4:w.heap.size<=g4:=by have:=HG4.out;omega
   have HX1:=kf (HBX.out.chg HC1.out (fun e=>e));have q0:=(HX1.out.cell 0)
   simp at q0;obtain⟨r0,r1,r2,r3,z0,z1,z2,z3⟩:=HB4.out.cl4;have h0':=(HC1.out.cell (p:=⟨gS,_,none⟩) (z05 h0) (fun e=>e)).trans h0;have h1':=(HC1.out.cell (p:=⟨gS,_,none⟩) (z05 h1) (fun e=>e)).trans h1;have h2':=(HC1.out.cell (p:=⟨gS,_,none⟩) (z05 h2) (fun e=>e)).trans h2;have h3':=(HC1.out.cell (p:=⟨gS,_,none⟩) (z05 h3) (fun e=>e)).trans h3;clear h0 h1 h2 h3;go_upto_region 5 with fail;obtain⟨W2,hW2⟩:∃ W2,W2=W1.alloc (.cells #[.int .i64 6,.int .i64 0,.string ⟨#[]⟩,.slice fA q fc] 24):=⟨_,rfl⟩
   obtain⟨g7,hg7⟩:∃ g7,g7=W1.heap.size:=⟨_,rfl⟩
   have HB7:=kf (Blk.new W1 24 #[.int .i64 6,.int .i64 0,.string ⟨#[]⟩,.slice fA q fc]);have HC2:=kf (HC1.out.alloc (.cells #[.int .i64 6,.int .i64 0,.string ⟨#[]⟩,.slice fA q fc] 24));have HX2:=kf (HX1.out.alloc (.cells #[.int .i64 6,.int .i64 0,.string ⟨#[]⟩,.slice fA q fc] 24));have HB42:=kf (HB4.out.alloc (.cells #[.int .i64 6,.int .i64 0,.string ⟨#[]⟩,.slice fA q fc] 24));rw [<- hW2] at HB7 HC2 HX2 HB42 ⊢;rw [<- hg7] at HB7 ⊢;have HG7:Hid (g4<g7):=by rw [hg7];exact HB4.out.lt
   clear hW2 hg7 HB4 HX1 h0' h1' h2' h3' q0 r0 r1 r2 r3 z0 z1 z2 z3;have q0:=(HX2.out.cell 0)
   have zz:=(HX2.out.frozen 0)
   simp at q0;go_upto_region 6 with fail;have hk:Chg (fun i=>i=gs) W2 (W2.setCell ⟨gs,0,none⟩ (.slice (some ⟨gS,0,none⟩) m c)):=(Chg.refl (fun i=>i=gs) W2).setCell (p:=⟨gs,0,none⟩) (fun _=>rfl) _;have HB73:=kf (HB7.out.chg hk (fun e=>HNG7.out g7 HB7.out.lt (by have:=HG7.out;have:=HG4.out;omega) e.symm));have HB43:=kf (HB42.out.chg hk (fun e=>HNG7.out g4 HB42.out.lt (by have:=HG4.out;omega) e.symm));have HX3:=kf (HX2.out.set_ 0 (.slice (some ⟨gS,0,none⟩) m c));have HC3:=kf (HC2.out.mono (fun _ _ e=>e.elim) |>.trans hk (fun _ _ e=>e):Chg (fun i=>i=gs) w _);obtain⟨W3,hW3⟩:∃ W3,W3=W2.setCell ⟨gs,0,none⟩ (.slice (some ⟨gS,0,none⟩) m c):=⟨_,rfl⟩
   rw [<- hW3] at HB73 HB43 HX3 HC3 ⊢;clear hW3 hk HC2 HX2 HB7 HB42 q0 zz;obtain⟨q0,q1,q2,q3,y0,y1,y2,y3⟩:=HB73.out.cl4;obtain⟨r0,r1,r2,r3,z0,z1,z2,z3⟩:=HB43.out.cl4;go_wp2_with fail;refine bodyPost_ret (v:=.tuple #[.agg #[.int .i64 6,.int .i64 0,.string ⟨#[]⟩,.slice fA q fc],.int .i64 0]) (by simp [results,Tryz.results99,go_sem,r0,r1,r2,r3]) rfl ?_;have hP:z8s (stO (fs++[f])) 6=(0,.mk 6 0 ⟨#[]⟩ f.ts):=by rw [HPO.out,if_neg (by simp),if_neg (by decide)]
   have hW:Chg (fun i=>i=gs) w ((((W3.setCell ⟨g4,0,none⟩ (.int .i64 6)).setCell ⟨g4,1,none⟩ (.int .i64 0)).setCell ⟨g4,2,none⟩ (.string ⟨#[]⟩)).setCell ⟨g4,3,none⟩ (.slice fA q fc)):=HC3.out.trans (z0l W3 g4 _ _ _ _) (fun i hi e=>by have:=HG4.out;omega);have hX:Blk ((((W3.setCell ⟨g4,0,none⟩ (.int .i64 6)).setCell ⟨g4,1,none⟩ (.int .i64 0)).setCell ⟨g4,2,none⟩ (.string ⟨#[]⟩)).setCell ⟨g4,3,none⟩ (.slice fA q fc)) gs 137 #[.slice (some ⟨gS,0,none⟩) m c]:=HX3.out.chg (z0l W3 g4 _ _ _ _) (fun e=>HNG7.out g4 HB43.out.lt (by have:=HG4.out;omega) e);obtain⟨hS,hF⟩:=HEND.out _ hW hX;refine⟨⟨6,0,⟨#[]⟩,fA,q,fc⟩,by rw [hP];rfl,fs,_,c,_,hS,fun _=>⟨by rw [z0d];rfl,?_⟩⟩;obtain⟨k1,k2,k3,_⟩:=HFQ.out;rw [hP];subst k1 k2 k3;exact y1p hF.own (fun g hg e=>e.elim (fun e=>e.2 hg) (fun e=>by have:=HNW.out g hg;omega)) hF.len rfl hF.is (by decide) (by decide) (by decide)
 ·have d1:(kk != kind)=true:=by simpa using hk
  have d2:(kk==kind)=false:=by simpa using hk
  have HERR2:=kf (fun w' hc=>HERR.out w' hc hk);clear hk;go_enter Tryz.func99,Tryz.ntmps99;go_upto_region 1 with fail;obtain⟨W1,hW1⟩:∃ W1,W1=w.alloc (.cells #[.int .i64 0,.int .i64 0,.string ⟨#[]⟩,.slice none 0 0] 24):=⟨_,rfl⟩
  obtain⟨g4,hg4⟩:∃ g4,g4=w.heap.size:=⟨_,rfl⟩
  have HC1:=kf ((Chg.refl NoS w).alloc (.cells #[.int .i64 0,.int .i64 0,.string ⟨#[]⟩,.slice none 0 0] 24));have HB4:=kf (Blk.new w 24 #[.int .i64 0,.int .i64 0,.string ⟨#[]⟩,.slice none 0 0]);rw [<- hW1] at HC1 HB4 ⊢;rw [<- hg4] at HB4 ⊢;have HG4:=kf hg4;clear hW1 hg4;have hge4:w.heap.size<=g4:=by have:=HG4.out;omega
  have HX1:=kf (HBX.out.chg HC1.out (fun e=>e));have q0:=(HX1.out.cell 0)
  simp at q0;obtain⟨r0,r1,r2,r3,z0,z1,z2,z3⟩:=HB4.out.cl4;have h0':=(HC1.out.cell (p:=⟨gS,_,none⟩) (z05 h0) (fun e=>e)).trans h0;go_wp2_with fail;refine bodyPost_ret (v:=.tuple #[.agg #[.int .i64 0,.int .i64 0,.string ⟨#[]⟩,.slice none 0 0],.int .i64 11]) (by simp [results,Tryz.results99,go_sem,r0,r1,r2,r3]) rfl ?_;exact HERR2.out _ (Chg.newc hge4 (Chg.newc hge4 (Chg.newc hge4 (Chg.newc hge4 HC1.out))))
theorem y2q {w0 w:World} {gs b1 b2 c:Nat} {c1 c2:Array Value} {fs:List FrM} {SA:Option Addr} {O:Nat->Prop} (h:Stk w0 w gs b1 b2 c1 c2 fs SA c O) (hb:fs.length<=500000) (hq:∀ f∈fs,f.ts.length<=500000) (kind:Int) (hk67:kind=6\/kind=7) :
  Calls Tryz.prog 99 #[.pointer (some ⟨gs,0,none⟩),.int .i64 kind] w (y25 w0 gs b1 b2 c1 c2 fs kind):=by
 rcases List.eq_nil_or_concat fs with rfl|⟨fs',f,rfl⟩
 ·exact y60 h kind
 ·rw [List.concat_eq_append] at h hq hb ⊢;exact y5z h (by rw [List.length_append] at hb;omega) (hq f (List.mem_append_right _ (List.mem_singleton_self _))) kind hk67
end Go.Proofs.YtmibnkddappgiaaGreatDoor
