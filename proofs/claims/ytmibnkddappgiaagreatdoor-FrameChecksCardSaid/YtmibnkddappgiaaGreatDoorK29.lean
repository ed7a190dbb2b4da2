import Derived.Test.YtmibnkddappgiaaGreatDoorK28
set_option linter.unusedVariables false
set_option maxHeartbeats 64000000
set_option maxRecDepth 100000
set_option linter.unusedSimpArgs false
namespace Go.Proofs.YtmibnkddappgiaaGreatDoor
open Go.RowKit
theorem v0s {k:Int} {l:List VT} {key:ByteArray} (h:k≠7\/k=7/\z0n key l=none):z1a k l key=(z1i,false):=by
 unfold z1a;rcases h with h|⟨h,h2⟩
 ·rw [if_neg h]
 ·rw [if_pos h,h2]
theorem v0r {l:List VT} {key:ByteArray} {j:Nat} (h:z0n key l=some j):z1a 7 l key=((l[2*j+1]?).getD z1i,true):=by
 unfold z1a;rw [if_pos rfl,h]
theorem y78 (c:VC) (l:List VT) (key:ByteArray) (w:World) (hv:ValIs w (.mk c.k c.n c.s l) c) (hsz:z1n l<=1000000000) :
  Calls Tryz.prog 39 #[c.val,.string key] w (GetTo w (z1a c.k l key)):=by
 obtain⟨_,_,_,hg,hl,hr⟩:=hv.inv;have HF:=kf (fun W (h:ValIs W (.mk c.k c.n c.s l) c)=>y0b c l key W h hsz);have HV:=kf hv;obtain⟨k,n,s,A,len,cap⟩:=c;simp only [] at hl hr;have hcap:=hg.cap;simp only [] at hcap;have hl9:len<=1000000000:=by have:=z63 l;omega
 have HL:=kf hl;have HR:=kf hr;unfold VC.val at HF;simp only [] at HF HV ⊢;show Calls Tryz.prog 39 #[.agg #[.int .i64 k,.int .i64 n,.string s,.slice A len cap],.string key] w _;have HB:=kf (⟨(Blk.new w 24 #[.int .i64 k,.int .i64 n,.string s,.slice A len cap]).alloc (.cells #[.int .i64 0,.int .i64 0,.string ⟨#[]⟩,.slice none 0 0] 24),Nat.le_refl _⟩:PB w _ w.heap.size _);have HO:=kf (⟨Blk.new (w.alloc (.cells #[.int .i64 k,.int .i64 n,.string s,.slice A len cap] 24)) 24 #[.int .i64 0,.int .i64 0,.string ⟨#[]⟩,.slice none 0 0],by simp⟩:PB w _ _ _);have hs1:(w.alloc (.cells #[.int .i64 k,.int .i64 n,.string s,.slice A len cap] 24)).heap.size=w.heap.size+1:=by simp
 rw [hs1] at HO;have HC0:=kf (((Chg.refl NoS w).alloc (.cells #[.int .i64 k,.int .i64 n,.string s,.slice A len cap] 24)).alloc (.cells #[.int .i64 0,.int .i64 0,.string ⟨#[]⟩,.slice none 0 0] 24));have HZ:=kf hs1;clear hs1 hv hg hl hr hsz;go_enter Tryz.func39,Tryz.ntmps39;go_upto_region 2 with(go_at_call 61;refine(HF.out _ (HV.out.chg HC0.out)).mono ?_;rintro e w2 ⟨q,b,rfl,hc2,hq2⟩;have HB2:=kf (HB.out.call hc2);have HO2:=kf (HO.out.call hc2);have HC2:=kf (HC0.out.trans hc2 (fun _ _ e=>e));have HQ:=kf hq2;clear hc2 hq2);obtain⟨g2,hg2⟩:∃ g,g=w.heap.size+1:=⟨_,rfl⟩
 rw [<- hg2] at HO2 ⊢;obtain⟨g,hg1⟩:∃ g,g=w.heap.size:=⟨_,rfl⟩
 rw [<- hg1] at HB2 ⊢;clear hg1 hg2 HB HO HZ HF HC0;have p3:=HB2.out.blk.cell 3;simp at p3;rcases HQ.out with⟨rfl,hq⟩|⟨rfl,rfl,j,hj,rfl,hlt⟩
 ·have HE:=kf (v0s hq);clear hq;have z0:=HO2.out.blk.frozen 0;have z1:=HO2.out.blk.frozen 1;have z2:=HO2.out.blk.frozen 2;have z3:=HO2.out.blk.frozen 3;have y0:=HO2.out.blk.cell 0;have y1:=HO2.out.blk.cell 1;have y2:=HO2.out.blk.cell 2;have y3:=HO2.out.blk.cell 3;simp at y0 y1 y2 y3;go_wp2_with fail;try simp only [Exit.noGoto_ret]
  clear y0 y1 y2 y3;obtain⟨hb,hcc⟩:=HO2.out.set4 (a:=.int .i64 0) (b:=.int .i64 0) (c:=.string ⟨#[]⟩) (d:=.slice none 0 0) HC2.out rfl;have r0:=hb.blk.cell 0;have r1:=hb.blk.cell 1;have r2:=hb.blk.cell 2;have r3:=hb.blk.cell 3;simp at r0 r1 r2 r3;refine bodyPost_ret (v:=.tuple #[.agg #[.int .i64 0,.int .i64 0,.string ⟨#[]⟩,.slice none 0 0],.bool false]) (by simp [results,Tryz.results39,go_sem,r0,r1,r2,r3]) rfl ?_;exact GetTo.of HE.out ⟨0,0,⟨#[]⟩,none,0,0⟩ (z2p _) hcc
 ·have hg:=v0r hj;have hl3:2*j<len:=by rw [<- HL.out];exact hlt
  obtain⟨q,hq⟩:∃ q,q=2*j:=⟨_,rfl⟩
  rw [<- hq] at hg hl3 ⊢;clear hq HQ hlt hj;by_cases hlast:q+1=len
  ·have HE:Hid (z1a 7 l key=(z1i,true)):=by
    show _=_;rw [hg,List.getElem?_eq_none (by rw [HL.out];omega)];rfl
   have k1:IntKind.i64.wrap ((q:Int)+1)=(len:Int):=by rw [IntKind.wrap_i64];omega
   have f1:((q:Int)+1==(len:Int))=true:=by simp;omega
   have f2:(q+1==len)=true:=by simp;omega
   clear hg;have z0:=HO2.out.blk.frozen 0;have z1:=HO2.out.blk.frozen 1;have z2:=HO2.out.blk.frozen 2;have z3:=HO2.out.blk.frozen 3;have y0:=HO2.out.blk.cell 0;have y1:=HO2.out.blk.cell 1;have y2:=HO2.out.blk.cell 2;have y3:=HO2.out.blk.cell 3;simp at y0 y1 y2 y3;go_wp2_with fail;try simp only [Exit.noGoto_ret]
   clear y0 y1 y2 y3;obtain⟨hb,hcc⟩:=HO2.out.set4 (a:=.int .i64 0) (b:=.int .i64 0) (c:=.string ⟨#[]⟩) (d:=.slice none 0 0) HC2.out rfl;have r0:=hb.blk.cell 0;have r1:=hb.blk.cell 1;have r2:=hb.blk.cell 2;have r3:=hb.blk.cell 3;simp at r0 r1 r2 r3;refine bodyPost_ret (v:=.tuple #[.agg #[.int .i64 0,.int .i64 0,.string ⟨#[]⟩,.slice none 0 0],.bool true]) (by simp [results,Tryz.results39,go_sem,r0,r1,r2,r3]) rfl ?_;exact GetTo.of HE.out ⟨0,0,⟨#[]⟩,none,0,0⟩ (z2p _) hcc
  ·obtain⟨u,hu⟩:∃ u,u=q+1:=⟨_,rfl⟩
   have hul:u<len:=by omega
   have e1:(q:Int)+1=(u:Int):=by omega
   have k1:IntKind.i64.wrap (u:Int)=(u:Int):=by rw [IntKind.wrap_i64];omega
   have f1:((u:Int)==(len:Int))=false:=by simp;omega
   have f2:(u==len)=false:=by simp;omega
   obtain⟨x,hx,_⟩:=z0s (l:=l) (k:=u) (by rw [HL.out];exact hul)
   have HE:Hid (z1a 7 l key=(x,true)):=by
    show _=_;rw [hg,<- hu,hx];rfl
   obtain⟨b,off,rfl⟩:∃ b off,A=some ⟨b,off,none⟩:=by
    have h:=HR.out;cases hll:l with
    |nil=>rw [hll] at hx;simp at hx
    |cons t0 l0=>rw [hll] at h;exact h.start
   obtain⟨eA,el,ec,c0,c1,c2,c3,hvx⟩:=HR.out.nth HC2.out hx;have i1:(u:Int)<len:=by omega
   have HXN:Hid (∀ w',Chg NoS w w'->ValIs w' x ⟨x.kind,x.num,x.str,eA,el,ec⟩):=fun w' hc'=>by
    obtain⟨eA',el',ec',d0,d1,d2,d3,hv0⟩:=HR.out.nth (Chg.refl NoS w) hx;have h3:=(HC2.out.cell (p:=⟨b,off+u*4+3,none⟩) (z05 d3) (fun h=>h)).trans d3;rw [c3] at h3;cases h3
    exact hv0.chg hc'
   obtain⟨xk,hxk⟩:∃ y,x.kind=y:=⟨_,rfl⟩
   obtain⟨xn,hxn⟩:∃ y,x.num=y:=⟨_,rfl⟩
   obtain⟨xs,hxs⟩:∃ y,x.str=y:=⟨_,rfl⟩
   rw [hxk] at c0 HXN;rw [hxn] at c1 HXN;rw [hxs] at c2 HXN;clear hx hg hlast hu hvx hxk hxn hxs hl3;have z0:=HO2.out.blk.frozen 0;have z1:=HO2.out.blk.frozen 1;have z2:=HO2.out.blk.frozen 2;have z3:=HO2.out.blk.frozen 3;have y0:=HO2.out.blk.cell 0;have y1:=HO2.out.blk.cell 1;have y2:=HO2.out.blk.cell 2;have y3:=HO2.out.blk.cell 3;simp at y0 y1 y2 y3;go_wp2_with fail;try simp only [Exit.noGoto_ret]
   clear y0 y1 y2 y3;obtain⟨hb,hcc⟩:=HO2.out.set4 (a:=.int .i64 xk) (b:=.int .i64 xn) (c:=.string xs) (d:=.slice eA el ec) HC2.out rfl;have r0:=hb.blk.cell 0;have r1:=hb.blk.cell 1;have r2:=hb.blk.cell 2;have r3:=hb.blk.cell 3;simp at r0 r1 r2 r3;refine bodyPost_ret (v:=.tuple #[.agg #[.int .i64 xk,.int .i64 xn,.string xs,.slice eA el ec],.bool true]) (by simp [results,Tryz.results39,go_sem,r0,r1,r2,r3]) rfl ?_;exact GetTo.of HE.out ⟨xk,xn,xs,eA,el,ec⟩ (HXN.out _ hcc) hcc
noncomputable def v61 (k:Int) (l:List VT) (key:ByteArray):Bool:=(z1a k l key).2
theorem z8y {k:Int} {l:List VT} {key:ByteArray}:v61 k l key=decide (0<=z1c k l key):=by
 unfold v61;by_cases h:z1c k l key<0
 ·rw [v7o h,decide_eq_false (by omega)]
 ·obtain⟨j,h1,_,h2⟩:=v7p h;rw [h2,h1,decide_eq_true (by omega)]
noncomputable def z9o (k:Int) (l:List VT):Bool:=!v61 k l z02&&(!v61 k l z0g&&(!v61 k l z2f&&decide (k=7)))
noncomputable def v8f (t:VT) (st:Bool) (n:Nat):Int :=
 if z0w t=0 then(if st then(if z9o t.kind t.row then 0 else 2) else(if n=0 then 0 else 2)) else z0w t
theorem q0t {W:World} {g:Nat} {T:TypeId} {a b c d:Value} (h:Blk W g T #[a,b,c,d]):W.cell? ⟨g,0,none⟩=some a/\W.cell? ⟨g,1,none⟩=some b/\W.cell? ⟨g,2,none⟩=some c/\W.cell? ⟨g,3,none⟩=some d :=
 ⟨(h.cell 0).trans rfl,(h.cell 1).trans rfl,(h.cell 2).trans rfl,(h.cell 3).trans rfl⟩
theorem y34 {d:ByteArray} (h:d.size=0):d=⟨#[]⟩:=by
 obtain⟨a⟩:=d;have:a.size=0:=h;rw [Array.size_eq_zero_iff] at this;rw [this]
theorem y35 {d:ByteArray} (h:¬d.size=0):(d.toList==[])=false:=by
 rw [beq_eq_false_iff_ne];intro h2;apply h;have h3:d=⟨#[]⟩:=z2o (by rw [h2];kernel_rfl);rw [h3];rfl
theorem y47 (t:VT) (k m:Int) (s:ByteArray) (A:Option Addr) (l c:Nat) (st:Bool) (d:ByteArray) (w:World) (hv:ValIs w t ⟨k,m,s,A,l,c⟩) (hsz:z1h t<=1000000) (hd:d.size<=16777216) :
  Calls Tryz.prog 7 #[z1u ⟨k,m,s,A,l,c⟩ st d] w fun e w'=>e=.returned (.int .i64 (v8f t st d.size))/\Chg NoS w w':=by
 obtain⟨tk,tm,ts,tl⟩:=t;obtain⟨e1,e2,e3,_⟩:=hv.inv;simp only [] at e1 e2 e3;subst e1 e2 e3;have HK:=kf (fun W (h:Chg NoS w W)=>y05 (.mk k m s tl) ⟨k,m,s,A,l,c⟩ W (hv.chg h) (by omega));have HF:=kf (fun W (h:Chg NoS w W) (key:ByteArray)=>y5u ⟨k,m,s,A,l,c⟩ tl key W (hv.chg h) (by rw [z0f] at hsz;omega));have HF1:=kf (fun W h=>HF.out W h z02);have HF2:=kf (fun W h=>HF.out W h z0g);have HF3:=kf (fun W h=>HF.out W h z2f);unfold v8f;obtain⟨ck,hck⟩:∃ z,z=z0w (.mk k m s tl):=⟨_,rfl⟩
 rw [<- hck] at HK ⊢
 rw [show z9o (VT.mk k m s tl).kind (VT.mk k m s tl).row=(!decide (0<=z1c k tl z02)&&(!decide (0<=z1c k tl z0g)&&(!decide (0<=z1c k tl z2f)&&decide (k=7)))) from by
  show z9o k tl=_;unfold z9o;rw [z8y,z8y,z8y]]
 simp only [] at HF1 HF2 HF3;obtain⟨z1,hz1⟩:∃ z,z=z1c k tl z02:=⟨_,rfl⟩
 obtain⟨z2,hz2⟩:∃ z,z=z1c k tl z0g:=⟨_,rfl⟩
 obtain⟨z3,hz3⟩:∃ z,z=z1c k tl z2f:=⟨_,rfl⟩
 rw [<- hz1,<- hz2,<- hz3];rw [<- hz1] at HF1;rw [<- hz2] at HF2;rw [<- hz3] at HF3;obtain⟨p1,hp1⟩:∃ p,decide (0<=z1)=p:=⟨_,rfl⟩
 obtain⟨p2,hp2⟩:∃ p,decide (0<=z2)=p:=⟨_,rfl⟩
 obtain⟨p3,hp3⟩:∃ p,decide (0<=z3)=p:=⟨_,rfl⟩
 obtain⟨p7,h7⟩:∃ p,(k==7)=p:=⟨_,rfl⟩
 rw [hp1,hp2,hp3,show decide (k=7)=p7 from h7];unfold VC.val at HK HF1 HF2 HF3;unfold z02 at HF1;unfold z0g at HF2;unfold z2f at HF3;simp only [] at HK HF1 HF2 HF3;clear HF hv hsz hck hz1 hz2 hz3;have HB:=kf (Blk.new w 26 (obA ⟨k,m,s,A,l,c⟩ st d));have HC:=kf ((Chg.refl NoS w).alloc (.cells (obA ⟨k,m,s,A,l,c⟩ st d) 26));unfold z1u;obtain⟨W1,hW1⟩:∃ W1,W1=w.alloc (.cells (obA ⟨k,m,s,A,l,c⟩ st d) 26):=⟨_,rfl⟩
 obtain⟨g,hg⟩:∃ g,g=w.heap.size:=⟨_,rfl⟩
 rw [<- hW1] at HB HC;rw [<- hg] at HB;unfold obA at HB hW1 ⊢;simp only [] at HB hW1 ⊢;by_cases h0:ck=0
 ·subst h0;cases st with
  |false =>
   by_cases hd0:d.size=0
   ·obtain rfl:=y34 hd0;clear hd hd0;go_enter Tryz.func7,Tryz.ntmps7;go_upto_region 1 with fail;rw [<- hg,<- hW1];clear hg hW1;obtain⟨q0,q1,q2,q3,q4,q5,_,_,_,_,_,_⟩:=HB.out.cl6
    go_wp2_with first
     |(go_at_call 21;(with_reducible refine(HF3.out _ HC4.out).mono ?_);rintro e w5 ⟨rfl,h5⟩;have HC5:=kf (HC4.out.trans h5 (fun _ _ e=>e));have HB5:=kf (HB4.out.chg h5 (fun e=>e));clear q0 q1 q2 q3 q4 q5;obtain⟨q0,q1,q2,q3,q4,q5,_,_,_,_,_,_⟩:=HB5.out.cl6;clear h5)
     |(go_at_call 21;(with_reducible refine(HF2.out _ HC3.out).mono ?_);rintro e w4 ⟨rfl,h4⟩;have HC4:=kf (HC3.out.trans h4 (fun _ _ e=>e));have HB4:=kf (HB3.out.chg h4 (fun e=>e));clear q0 q1 q2 q3 q4 q5;obtain⟨q0,q1,q2,q3,q4,q5,_,_,_,_,_,_⟩:=HB4.out.cl6;clear h4)
     |(go_at_call 21;(with_reducible refine(HF1.out _ HC2.out).mono ?_);rintro e w3 ⟨rfl,h3⟩;have HC3:=kf (HC2.out.trans h3 (fun _ _ e=>e));have HB3:=kf (HB2.out.chg h3 (fun e=>e));clear q0 q1 q2 q3 q4 q5;obtain⟨q0,q1,q2,q3,q4,q5,_,_,_,_,_,_⟩:=HB3.out.cl6;clear h3)
     |(go_at_call 20;(with_reducible refine(HK.out _ HC.out).mono ?_);rintro e w2 ⟨rfl,h2⟩;have HC2:=kf (HC.out.trans h2 (fun _ _ e=>e));have HB2:=kf (HB.out.chg h2 (fun e=>e));clear q0 q1 q2 q3 q4 q5;obtain⟨q0,q1,q2,q3,q4,q5,_,_,_,_,_,_⟩:=HB2.out.cl6;clear h2)
    go_ret
    first
     |exact⟨by simp,HC6.out⟩
     |exact⟨by simp,HC5.out⟩
     |exact⟨by simp,HC4.out⟩
     |exact⟨by simp,HC3.out⟩
     |exact⟨by simp,HC2.out⟩
   ·have dl:=y35 hd0;clear hd;go_enter Tryz.func7,Tryz.ntmps7;go_upto_region 1 with fail;rw [<- hg,<- hW1];clear hg hW1;obtain⟨q0,q1,q2,q3,q4,q5,_,_,_,_,_,_⟩:=HB.out.cl6
    go_wp2_with first
     |(go_at_call 21;(with_reducible refine(HF3.out _ HC4.out).mono ?_);rintro e w5 ⟨rfl,h5⟩;have HC5:=kf (HC4.out.trans h5 (fun _ _ e=>e));have HB5:=kf (HB4.out.chg h5 (fun e=>e));clear q0 q1 q2 q3 q4 q5;obtain⟨q0,q1,q2,q3,q4,q5,_,_,_,_,_,_⟩:=HB5.out.cl6;clear h5)
     |(go_at_call 21;(with_reducible refine(HF2.out _ HC3.out).mono ?_);rintro e w4 ⟨rfl,h4⟩;have HC4:=kf (HC3.out.trans h4 (fun _ _ e=>e));have HB4:=kf (HB3.out.chg h4 (fun e=>e));clear q0 q1 q2 q3 q4 q5;obtain⟨q0,q1,q2,q3,q4,q5,_,_,_,_,_,_⟩:=HB4.out.cl6;clear h4)
     |(go_at_call 21;(with_reducible refine(HF1.out _ HC2.out).mono ?_);rintro e w3 ⟨rfl,h3⟩;have HC3:=kf (HC2.out.trans h3 (fun _ _ e=>e));have HB3:=kf (HB2.out.chg h3 (fun e=>e));clear q0 q1 q2 q3 q4 q5;obtain⟨q0,q1,q2,q3,q4,q5,_,_,_,_,_,_⟩:=HB3.out.cl6;clear h3)
     |(go_at_call 20;(with_reducible refine(HK.out _ HC.out).mono ?_);rintro e w2 ⟨rfl,h2⟩;have HC2:=kf (HC.out.trans h2 (fun _ _ e=>e));have HB2:=kf (HB.out.chg h2 (fun e=>e));clear q0 q1 q2 q3 q4 q5;obtain⟨q0,q1,q2,q3,q4,q5,_,_,_,_,_,_⟩:=HB2.out.cl6;clear h2)
    go_ret
    first
     |exact⟨by simp,HC6.out⟩
     |exact⟨by simp,HC5.out⟩
     |exact⟨by simp,HC4.out⟩
     |exact⟨by simp,HC3.out⟩
     |exact⟨by simp,HC2.out⟩
  |true =>
   obtain⟨n,hn⟩:∃ n,d.size=n:=⟨_,rfl⟩
   rw [hn] at hd;have dd:decide (16777216<n)=false:=by simp;omega
   have dd':decide ((16777216:Int)<n)=false:=by simp;omega
   clear hd;cases p7 with
   |false =>
    have h7n:(k != 7)=true:=by simp [bne,h7]
    clear hp1 hp2 hp3;go_enter Tryz.func7,Tryz.ntmps7;go_upto_region 1 with fail;rw [<- hg,<- hW1];clear hg hW1;obtain⟨q0,q1,q2,q3,q4,q5,_,_,_,_,_,_⟩:=HB.out.cl6
    go_wp2_with first
     |(go_at_call 21;(with_reducible refine(HF3.out _ HC4.out).mono ?_);rintro e w5 ⟨rfl,h5⟩;have HC5:=kf (HC4.out.trans h5 (fun _ _ e=>e));have HB5:=kf (HB4.out.chg h5 (fun e=>e));clear q0 q1 q2 q3 q4 q5;obtain⟨q0,q1,q2,q3,q4,q5,_,_,_,_,_,_⟩:=HB5.out.cl6;clear h5)
     |(go_at_call 21;(with_reducible refine(HF2.out _ HC3.out).mono ?_);rintro e w4 ⟨rfl,h4⟩;have HC4:=kf (HC3.out.trans h4 (fun _ _ e=>e));have HB4:=kf (HB3.out.chg h4 (fun e=>e));clear q0 q1 q2 q3 q4 q5;obtain⟨q0,q1,q2,q3,q4,q5,_,_,_,_,_,_⟩:=HB4.out.cl6;clear h4)
     |(go_at_call 21;(with_reducible refine(HF1.out _ HC2.out).mono ?_);rintro e w3 ⟨rfl,h3⟩;have HC3:=kf (HC2.out.trans h3 (fun _ _ e=>e));have HB3:=kf (HB2.out.chg h3 (fun e=>e));clear q0 q1 q2 q3 q4 q5;obtain⟨q0,q1,q2,q3,q4,q5,_,_,_,_,_,_⟩:=HB3.out.cl6;clear h3)
     |(go_at_call 20;(with_reducible refine(HK.out _ HC.out).mono ?_);rintro e w2 ⟨rfl,h2⟩;have HC2:=kf (HC.out.trans h2 (fun _ _ e=>e));have HB2:=kf (HB.out.chg h2 (fun e=>e));clear q0 q1 q2 q3 q4 q5;obtain⟨q0,q1,q2,q3,q4,q5,_,_,_,_,_,_⟩:=HB2.out.cl6;clear h2)
    go_ret
    first
     |exact⟨by simp,HC6.out⟩
     |exact⟨by simp,HC5.out⟩
     |exact⟨by simp,HC4.out⟩
     |exact⟨by simp,HC3.out⟩
     |exact⟨by simp,HC2.out⟩
   |true =>
    obtain rfl:k=7:=by simpa using h7
    have h7n:((7:Int) != 7)=false:=rfl;cases p1 with
    |true =>
     go_enter Tryz.func7,Tryz.ntmps7;go_upto_region 1 with fail;rw [<- hg,<- hW1];clear hg hW1;obtain⟨q0,q1,q2,q3,q4,q5,_,_,_,_,_,_⟩:=HB.out.cl6
     go_wp2_with first
      |(go_at_call 21;(with_reducible refine(HF3.out _ HC4.out).mono ?_);rintro e w5 ⟨rfl,h5⟩;have HC5:=kf (HC4.out.trans h5 (fun _ _ e=>e));have HB5:=kf (HB4.out.chg h5 (fun e=>e));clear q0 q1 q2 q3 q4 q5;obtain⟨q0,q1,q2,q3,q4,q5,_,_,_,_,_,_⟩:=HB5.out.cl6;clear h5)
      |(go_at_call 21;(with_reducible refine(HF2.out _ HC3.out).mono ?_);rintro e w4 ⟨rfl,h4⟩;have HC4:=kf (HC3.out.trans h4 (fun _ _ e=>e));have HB4:=kf (HB3.out.chg h4 (fun e=>e));clear q0 q1 q2 q3 q4 q5;obtain⟨q0,q1,q2,q3,q4,q5,_,_,_,_,_,_⟩:=HB4.out.cl6;clear h4)
      |(go_at_call 21;(with_reducible refine(HF1.out _ HC2.out).mono ?_);rintro e w3 ⟨rfl,h3⟩;have HC3:=kf (HC2.out.trans h3 (fun _ _ e=>e));have HB3:=kf (HB2.out.chg h3 (fun e=>e));clear q0 q1 q2 q3 q4 q5;obtain⟨q0,q1,q2,q3,q4,q5,_,_,_,_,_,_⟩:=HB3.out.cl6;clear h3)
      |(go_at_call 20;(with_reducible refine(HK.out _ HC.out).mono ?_);rintro e w2 ⟨rfl,h2⟩;have HC2:=kf (HC.out.trans h2 (fun _ _ e=>e));have HB2:=kf (HB.out.chg h2 (fun e=>e));clear q0 q1 q2 q3 q4 q5;obtain⟨q0,q1,q2,q3,q4,q5,_,_,_,_,_,_⟩:=HB2.out.cl6;clear h2)
     go_ret
     first
      |exact⟨by simp,HC6.out⟩
      |exact⟨by simp,HC5.out⟩
      |exact⟨by simp,HC4.out⟩
      |exact⟨by simp,HC3.out⟩
      |exact⟨by simp,HC2.out⟩
    |false =>
     cases p2 with
     |true =>
      go_enter Tryz.func7,Tryz.ntmps7;go_upto_region 1 with fail;rw [<- hg,<- hW1];clear hg hW1;obtain⟨q0,q1,q2,q3,q4,q5,_,_,_,_,_,_⟩:=HB.out.cl6
      go_wp2_with first
       |(go_at_call 21;(with_reducible refine(HF3.out _ HC4.out).mono ?_);rintro e w5 ⟨rfl,h5⟩;have HC5:=kf (HC4.out.trans h5 (fun _ _ e=>e));have HB5:=kf (HB4.out.chg h5 (fun e=>e));clear q0 q1 q2 q3 q4 q5;obtain⟨q0,q1,q2,q3,q4,q5,_,_,_,_,_,_⟩:=HB5.out.cl6;clear h5)
       |(go_at_call 21;(with_reducible refine(HF2.out _ HC3.out).mono ?_);rintro e w4 ⟨rfl,h4⟩;have HC4:=kf (HC3.out.trans h4 (fun _ _ e=>e));have HB4:=kf (HB3.out.chg h4 (fun e=>e));clear q0 q1 q2 q3 q4 q5;obtain⟨q0,q1,q2,q3,q4,q5,_,_,_,_,_,_⟩:=HB4.out.cl6;clear h4)
       |(go_at_call 21;(with_reducible refine(HF1.out _ HC2.out).mono ?_);rintro e w3 ⟨rfl,h3⟩;have HC3:=kf (HC2.out.trans h3 (fun _ _ e=>e));have HB3:=kf (HB2.out.chg h3 (fun e=>e));clear q0 q1 q2 q3 q4 q5;obtain⟨q0,q1,q2,q3,q4,q5,_,_,_,_,_,_⟩:=HB3.out.cl6;clear h3)
       |(go_at_call 20;(with_reducible refine(HK.out _ HC.out).mono ?_);rintro e w2 ⟨rfl,h2⟩;have HC2:=kf (HC.out.trans h2 (fun _ _ e=>e));have HB2:=kf (HB.out.chg h2 (fun e=>e));clear q0 q1 q2 q3 q4 q5;obtain⟨q0,q1,q2,q3,q4,q5,_,_,_,_,_,_⟩:=HB2.out.cl6;clear h2)
      go_ret
      first
       |exact⟨by simp,HC6.out⟩
       |exact⟨by simp,HC5.out⟩
       |exact⟨by simp,HC4.out⟩
       |exact⟨by simp,HC3.out⟩
       |exact⟨by simp,HC2.out⟩
     |false =>
      cases p3 with
      |true =>
       go_enter Tryz.func7,Tryz.ntmps7;go_upto_region 1 with fail;rw [<- hg,<- hW1];clear hg hW1;obtain⟨q0,q1,q2,q3,q4,q5,_,_,_,_,_,_⟩:=HB.out.cl6
       go_wp2_with first
        |(go_at_call 21;(with_reducible refine(HF3.out _ HC4.out).mono ?_);rintro e w5 ⟨rfl,h5⟩;have HC5:=kf (HC4.out.trans h5 (fun _ _ e=>e));have HB5:=kf (HB4.out.chg h5 (fun e=>e));clear q0 q1 q2 q3 q4 q5;obtain⟨q0,q1,q2,q3,q4,q5,_,_,_,_,_,_⟩:=HB5.out.cl6;clear h5)
        |(go_at_call 21;(with_reducible refine(HF2.out _ HC3.out).mono ?_);rintro e w4 ⟨rfl,h4⟩;have HC4:=kf (HC3.out.trans h4 (fun _ _ e=>e));have HB4:=kf (HB3.out.chg h4 (fun e=>e));clear q0 q1 q2 q3 q4 q5;obtain⟨q0,q1,q2,q3,q4,q5,_,_,_,_,_,_⟩:=HB4.out.cl6;clear h4)
        |(go_at_call 21;(with_reducible refine(HF1.out _ HC2.out).mono ?_);rintro e w3 ⟨rfl,h3⟩;have HC3:=kf (HC2.out.trans h3 (fun _ _ e=>e));have HB3:=kf (HB2.out.chg h3 (fun e=>e));clear q0 q1 q2 q3 q4 q5;obtain⟨q0,q1,q2,q3,q4,q5,_,_,_,_,_,_⟩:=HB3.out.cl6;clear h3)
        |(go_at_call 20;(with_reducible refine(HK.out _ HC.out).mono ?_);rintro e w2 ⟨rfl,h2⟩;have HC2:=kf (HC.out.trans h2 (fun _ _ e=>e));have HB2:=kf (HB.out.chg h2 (fun e=>e));clear q0 q1 q2 q3 q4 q5;obtain⟨q0,q1,q2,q3,q4,q5,_,_,_,_,_,_⟩:=HB2.out.cl6;clear h2)
       go_ret
       first
        |exact⟨by simp,HC6.out⟩
        |exact⟨by simp,HC5.out⟩
        |exact⟨by simp,HC4.out⟩
        |exact⟨by simp,HC3.out⟩
        |exact⟨by simp,HC2.out⟩
      |false =>
       go_enter Tryz.func7,Tryz.ntmps7;go_upto_region 1 with fail;rw [<- hg,<- hW1];clear hg hW1;obtain⟨q0,q1,q2,q3,q4,q5,_,_,_,_,_,_⟩:=HB.out.cl6
       go_wp2_with first
        |(go_at_call 21;(with_reducible refine(HF3.out _ HC4.out).mono ?_);rintro e w5 ⟨rfl,h5⟩;have HC5:=kf (HC4.out.trans h5 (fun _ _ e=>e));have HB5:=kf (HB4.out.chg h5 (fun e=>e));clear q0 q1 q2 q3 q4 q5;obtain⟨q0,q1,q2,q3,q4,q5,_,_,_,_,_,_⟩:=HB5.out.cl6;clear h5)
        |(go_at_call 21;(with_reducible refine(HF2.out _ HC3.out).mono ?_);rintro e w4 ⟨rfl,h4⟩;have HC4:=kf (HC3.out.trans h4 (fun _ _ e=>e));have HB4:=kf (HB3.out.chg h4 (fun e=>e));clear q0 q1 q2 q3 q4 q5;obtain⟨q0,q1,q2,q3,q4,q5,_,_,_,_,_,_⟩:=HB4.out.cl6;clear h4)
        |(go_at_call 21;(with_reducible refine(HF1.out _ HC2.out).mono ?_);rintro e w3 ⟨rfl,h3⟩;have HC3:=kf (HC2.out.trans h3 (fun _ _ e=>e));have HB3:=kf (HB2.out.chg h3 (fun e=>e));clear q0 q1 q2 q3 q4 q5;obtain⟨q0,q1,q2,q3,q4,q5,_,_,_,_,_,_⟩:=HB3.out.cl6;clear h3)
        |(go_at_call 20;(with_reducible refine(HK.out _ HC.out).mono ?_);rintro e w2 ⟨rfl,h2⟩;have HC2:=kf (HC.out.trans h2 (fun _ _ e=>e));have HB2:=kf (HB.out.chg h2 (fun e=>e));clear q0 q1 q2 q3 q4 q5;obtain⟨q0,q1,q2,q3,q4,q5,_,_,_,_,_,_⟩:=HB2.out.cl6;clear h2)
       go_ret
       first
        |exact⟨by simp,HC6.out⟩
        |exact⟨by simp,HC5.out⟩
        |exact⟨by simp,HC4.out⟩
        |exact⟨by simp,HC3.out⟩
        |exact⟨by simp,HC2.out⟩
 ·have d0:(ck==0)=false:=by simpa using h0
  have d0n:(ck != 0)=true:=by simpa using h0
  clear hd;go_enter Tryz.func7,Tryz.ntmps7;go_upto_region 1 with fail;rw [<- hg,<- hW1];clear hg hW1;obtain⟨q0,q1,q2,q3,q4,q5,_,_,_,_,_,_⟩:=HB.out.cl6
  go_wp2_with first
   |(go_at_call 21;(with_reducible refine(HF3.out _ HC4.out).mono ?_);rintro e w5 ⟨rfl,h5⟩;have HC5:=kf (HC4.out.trans h5 (fun _ _ e=>e));have HB5:=kf (HB4.out.chg h5 (fun e=>e));clear q0 q1 q2 q3 q4 q5;obtain⟨q0,q1,q2,q3,q4,q5,_,_,_,_,_,_⟩:=HB5.out.cl6;clear h5)
   |(go_at_call 21;(with_reducible refine(HF2.out _ HC3.out).mono ?_);rintro e w4 ⟨rfl,h4⟩;have HC4:=kf (HC3.out.trans h4 (fun _ _ e=>e));have HB4:=kf (HB3.out.chg h4 (fun e=>e));clear q0 q1 q2 q3 q4 q5;obtain⟨q0,q1,q2,q3,q4,q5,_,_,_,_,_,_⟩:=HB4.out.cl6;clear h4)
   |(go_at_call 21;(with_reducible refine(HF1.out _ HC2.out).mono ?_);rintro e w3 ⟨rfl,h3⟩;have HC3:=kf (HC2.out.trans h3 (fun _ _ e=>e));have HB3:=kf (HB2.out.chg h3 (fun e=>e));clear q0 q1 q2 q3 q4 q5;obtain⟨q0,q1,q2,q3,q4,q5,_,_,_,_,_,_⟩:=HB3.out.cl6;clear h3)
   |(go_at_call 20;(with_reducible refine(HK.out _ HC.out).mono ?_);rintro e w2 ⟨rfl,h2⟩;have HC2:=kf (HC.out.trans h2 (fun _ _ e=>e));have HB2:=kf (HB.out.chg h2 (fun e=>e));clear q0 q1 q2 q3 q4 q5;obtain⟨q0,q1,q2,q3,q4,q5,_,_,_,_,_,_⟩:=HB2.out.cl6;clear h2)
  go_ret
  first
   |exact⟨by simp [h0],HC6.out⟩
   |exact⟨by simp [h0],HC5.out⟩
   |exact⟨by simp [h0],HC4.out⟩
   |exact⟨by simp [h0],HC3.out⟩
   |exact⟨by simp [h0],HC2.out⟩
end Go.Proofs.YtmibnkddappgiaaGreatDoor
