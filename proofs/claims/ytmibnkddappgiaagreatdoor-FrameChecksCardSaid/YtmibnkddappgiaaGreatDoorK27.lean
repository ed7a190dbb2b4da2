import Derived.Test.YtmibnkddappgiaaGreatDoorK07
import Derived.Test.YtmibnkddappgiaaGreatDoorK09
set_option linter.unusedVariables false
set_option maxHeartbeats 64000000
set_option maxRecDepth 100000
set_option linter.unusedSimpArgs false
namespace Go.Proofs.YtmibnkddappgiaaGreatDoor
open Go.RowKit
def z7c (most:Nat) (t:VT) (d:Nat) (st:Nat):Nat × Bool:=(max st d,decide (d<most/\(t.kind=6\/t.kind=7)))
structure DJ (w0:World) (g2 g1 most:Nat) (st:Nat) (W:World):Prop where
 a:Blk W g2 3 #[.int .i64 (st:Nat)]
 b:Blk W g1 3 #[.int .i64 (most:Nat)]
 ne:g1≠g2
 new:w0.heap.size<=g2
 chg:Chg NoS w0 W
theorem DJ.call {w0 W W':World} {g2 g1 most st:Nat} (h:DJ w0 g2 g1 most st W) (hc:Chg NoS W W'):DJ w0 g2 g1 most st W':=⟨h.a.chg hc (fun e=>e),h.b.chg hc (fun e=>e),h.ne,h.new,h.chg.trans hc (fun _ _ e=>e)⟩
theorem DJ.set {w0 W:World} {g2 g1 most st:Nat} (h:DJ w0 g2 g1 most st W) (n:Nat):DJ w0 g2 g1 most n (W.setCell ⟨g2,0,none⟩ (.int .i64 (n:Nat))) :=
 ⟨h.a.set_ 0 _,h.b.far (p:=⟨g2,0,none⟩) h.ne _,h.ne,h.new,h.chg.setCell (p:=⟨g2,0,none⟩) (fun h2=>absurd h2 (Nat.not_lt.2 h.new)) _⟩
theorem v1r (w0:World) (g2 g1 most:Nat) (t:VT) (c:VC) (d st:Nat) (W:World) (hv:ValIs W t c) (hj:DJ w0 g2 g1 most st W) :
  Calls Tryz.prog 57 #[c.val,.int .i64 (d:Nat),.pointer (some ⟨g2,0,none⟩),.pointer (some ⟨g1,0,none⟩)] W fun e w'=>e=.returned (.bool (z7c most t d st).2)/\DJ w0 g2 g1 most (z7c most t d st).1 w'/\Chg (fun i=>i=g2) W w':=by
 obtain⟨tk,tn,ts,l⟩:=t;obtain⟨h1,h2,h3,_,_,_⟩:=hv.inv;obtain⟨ck,cn,cs,A,len,cap⟩:=c;simp only [] at h1 h2 h3;subst h1 h2 h3;have HJ:=kf (hj.call ((Chg.refl NoS W).alloc (.cells #[.int .i64 ck,.int .i64 cn,.string cs,.slice A len cap] 24)));have hl:=hj.a.lt;have hne:¬W.heap.size=g2:=by omega
 have x0:=HJ.out.a.cell 0;have y0:=HJ.out.b.cell 0;have x1:=HJ.out.a.frozen 0;simp at x0 y0;have HC:=kf (((Chg.refl (fun i=>i=g2) W).alloc (.cells #[.int .i64 ck,.int .i64 cn,.string cs,.slice A len cap] 24)));have HB:=kf (Blk.new W 24 #[.int .i64 ck,.int .i64 cn,.string cs,.slice A len cap]);obtain⟨m,hm⟩:∃ m:Nat,m=max st d:=⟨_,rfl⟩
 have HJ2:=kf (HJ.out.set m);have HB2:=kf (HB.out.far (p:=⟨g2,0,none⟩) hne (.int .i64 (m:Nat)));have HC2:=kf (HC.out.setCell (p:=⟨g2,0,none⟩) (fun _=>rfl) (.int .i64 (m:Nat)));have z0:=HB2.out.cell 0;have z1:=HJ2.out.b.cell 0;simp at z0 z1;have HST:=kf (show(z7c most (.mk ck cn cs l) d st).1=m from hm.symm);have HS2:=kf (show(z7c most (.mk ck cn cs l) d st).2=decide (d<most/\(ck=6\/ck=7)) from rfl);rw [HST.out,HS2.out];unfold VC.val;simp only [];clear hj hv hl hne HST HS2;have HM:Hid (max (st:Int) (d:Int)=(m:Nat)):=by show _=_;rw [hm];omega
 clear hm;by_cases h1:d<most
 ·have e1:decide ((d:Int)<(most:Int))=true:=by simpa using h1
  have e1':decide (d<most)=true:=by simpa using h1
  by_cases h6:ck=6
  ·subst h6;have HK:=kf h1;clear h1;go_enter Tryz.func57,Tryz.ntmps57;go_upto_region 2 with fail;rw [HM.out];go_wp2_with fail;go_ret;exact⟨by first|rfl|simp [HK.out],HJ2.out,HC2.out⟩
  ·have e6:(ck==6)=false:=by simpa using h6
   by_cases h7:ck=7
   ·subst h7;have HK:=kf h1;clear h1 h6;go_enter Tryz.func57,Tryz.ntmps57;go_upto_region 2 with fail;rw [HM.out];go_wp2_with fail;go_ret;exact⟨by first|rfl|simp [HK.out],HJ2.out,HC2.out⟩
   ·have e7:(ck==7)=false:=by simpa using h7
    have HK6:=kf h6;have HK7:=kf h7;clear h1 h6 h7;go_enter Tryz.func57,Tryz.ntmps57;go_upto_region 2 with fail;rw [HM.out];go_wp2_with fail;go_ret;exact⟨by first|rfl|simp [HK6.out,HK7.out],HJ2.out,HC2.out⟩
 ·have e1:decide ((d:Int)<(most:Int))=false:=by simpa using h1
  have e1':decide (d<most)=false:=by simpa using h1
  have HK:=kf h1;clear h1;go_enter Tryz.func57,Tryz.ntmps57;go_upto_region 2 with fail;rw [HM.out];go_wp2_with fail;go_ret;exact⟨by first|rfl|simp [HK.out],HJ2.out,HC2.out⟩
theorem v5h (w0:World) (g2 g1 most:Nat):SeeOf w0 57 #[.pointer (some ⟨g2,0,none⟩),.pointer (some ⟨g1,0,none⟩)] (fun i=>i=g2) (DJ w0 g2 g1 most) (z7c most) where
 chg:=fun _ _ h=>h.chg
 keep:=fun _ _ _ h hc=>h.call hc
 low:=fun _ _ h i hi=>hi ▸ h.a.lt
 see:=fun t c d st W hv hj _=>v1r w0 g2 g1 most t c d st W hv hj
theorem z5o:∀ (l:List VT) (a:Nat),1<=a->z0v a l=max a (z0v 1 l)
 |[],a=>fun h=>by rw [z0v,z0v];omega
 |t::l,a=>fun h=>by
  have h1:=z1m t;have e1:=z5o l (z07 t+1) (by omega);have e2:=z5o l a h;rw [z1r,z1r,if_pos (show 1<z07 t+1 by omega)];split
  ·rw [e1];omega
  ·rw [e1,e2];omega
theorem y4t (t:VT) (l:List VT):z0v 1 (t::l)=max (z07 t+1) (z0v 1 l):=by
 have h1:=z1m t;rw [z1r,if_pos (show 1<z07 t+1 by omega),z5o l (z07 t+1) (by omega)]
mutual
theorem y51 (most:Nat):∀ (t:VT) (d st:Nat),1<=d->d<=most->z54 (z7c most) t d st=max st (min most (d-1+z07 t))
 |.mk k n s l,d,st=>fun h1 h2=>by
  by_cases h:d<most/\(k=6\/k=7)
  ·rw [z8b (show(z7c most (.mk k n s l) d st).2=true from decide_eq_true h)];show z33 (z7c most) l (d+1) (max st d)=_;rw [y52 most l (d+1) (max st d) (by omega) (by omega) (by omega),z07,if_pos h.2];have:=(z3g l 1 (Nat.le_refl _)).1;omega
  ·rw [z61 (show(z7c most (.mk k n s l) d st).2=false from decide_eq_false h)];show max st d=_;have h4:=(z1m (.mk k n s l)).1;by_cases h3:d=most
   ·omega
   ·have h5:¬(k=6\/k=7):=fun e=>h ⟨by omega,e⟩;rw [z07,if_neg h5];omega
theorem y52 (most:Nat):∀ (l:List VT) (d st:Nat),2<=d->d<=most->d-1<=st->z33 (z7c most) l d st=max st (min most (d-2+z0v 1 l))
 |[],d,st=>fun h1 h2 h3=>by rw [z33,z0v];omega
 |t::l,d,st=>fun h1 h2 h3=>by
  have h4:=(z1m t).1;rw [z55,y51 most t d st (by omega) h2,y52 most l d _ h1 h2 (by omega),y4t];omega
end
theorem v1p (t:VT) (c:VC) (most:Nat) (w:World) (hv:ValIs w t c) (hs:z1h t<=1000000000) (hm:1<=most) :
  Calls Tryz.prog 35 #[c.val,.int .i64 (most:Nat)] w fun e w'=>e=.returned (.int .i64 ((min most (z07 t):Nat):Int))/\Chg NoS w w':=by
 have HV:=kf hv;obtain⟨ck,cn,cs,A,len,cap⟩:=c;unfold VC.val;simp only [];have HB:=kf (((Blk.new w 24 #[.int .i64 ck,.int .i64 cn,.string cs,.slice A len cap]).alloc (.cells #[.int .i64 (most:Nat)] 3)).alloc (.cells #[.int .i64 0] 3));have hb1:=(Blk.new (w.alloc (.cells #[.int .i64 ck,.int .i64 cn,.string cs,.slice A len cap] 24)) 3 #[.int .i64 (most:Nat)]).alloc (.cells #[.int .i64 0] 3);have hb2:=(Blk.new ((w.alloc (.cells #[.int .i64 ck,.int .i64 cn,.string cs,.slice A len cap] 24)).alloc (.cells #[.int .i64 (most:Nat)] 3)) 3 #[.int .i64 ((0:Nat):Int)])
 simp only [World.size_alloc] at hb1 hb2;have HJ:=kf ((⟨hb2,hb1,by omega,by omega,(((Chg.refl NoS w).alloc _).alloc _).alloc _⟩:DJ w (w.heap.size+1+1) (w.heap.size+1) most 0 _));have x0:=HB.out.cell 0;have x1:=HB.out.cell 1;have x2:=HB.out.cell 2;have x3:=HB.out.cell 3;simp at x0 x1 x2 x3;have HX:=kf (y27 w 57 _ (fun args w=>rfl) _ _ _ (v5h w (w.heap.size+1+1) (w.heap.size+1) most) t ⟨ck,cn,cs,A,len,cap⟩ 1 0 _ HV.out HJ.out (by omega));rw [y51 most t 1 0 (Nat.le_refl _) hm] at HX;have HE:=kf (show max 0 (min most (1-1+z07 t))=min most (z07 t) by omega);rw [HE.out] at HX;unfold VC.val at HX;simp only [] at HX;clear hb1 hb2;go_enter Tryz.func35,Tryz.ntmps35;go_wp2_with (go_at_call 36;refine HX.out.mono ?_;rintro e w4 ⟨rfl,hj4,hc4⟩;have q0:=hj4.a.cell 0;simp at q0;have HJ4:=kf hj4;clear hj4 hc4);go_ret;exact⟨rfl,HJ4.out.chg⟩
def nmQ (l:List VT) (j:Nat) (r:Int):Prop:=(∀ i t,i<j->l[2*i]?=some t->t.kind=5)/\((r=0/\∀ i t u,i+1<j->l[2*i]?=some t->l[2*i+2]?=some u->Op.bytesLess t.str.toList u.str.toList=true)\/(r=16/\¬y45 l))
theorem v08 (l:List VT):nmQ l 0 0:=⟨fun i t h=>absurd h (Nat.not_lt_zero i),.inl ⟨rfl,fun i t u h=>absurd h (by omega)⟩⟩
theorem z8u {l:List VT} {j q:Nat} {t:VT} {r:Int} (hn:nmQ l j r) (hq:q=2*j) (ht:l[q]?=some t) (h5:t.kind=5):∀ i u,i<j+1->l[2*i]?=some u->u.kind=5:=by
 intro i u hi hu;rcases Nat.lt_or_ge i j with h|h
 ·exact hn.1 i u h hu
 ·obtain rfl:i=j:=by omega
  rw [<- hq,ht] at hu;cases hu
  exact h5
theorem v4j {l:List VT} {t:VT} {r:Int} (hn:nmQ l 0 r) (ht:l[0]?=some t) (h5:t.kind=5):nmQ l 1 r:=by
 refine⟨z8u hn (q:=0) rfl ht h5,?_⟩;rcases hn.2 with⟨rfl,h⟩|h
 ·exact .inl ⟨rfl,fun i t u h=>absurd h (by omega)⟩
 ·exact .inr h
theorem v79 {l:List VT} {j p q:Nat} {t u:VT} {r:Int} (hn:nmQ l (j+1) r) (hp:p=2*j) (hq:q=2*(j+1)) (ht:l[p]?=some t) (hu:l[q]?=some u) (h5:u.kind=5) (hl:Op.bytesLess t.str.toList u.str.toList=true):nmQ l (j+1+1) r:=by
 refine⟨z8u hn hq hu h5,?_⟩;rcases hn.2 with⟨rfl,h⟩|h
 ·refine .inl ⟨rfl,fun i t' u' hi hit hiu=>?_⟩;rcases Nat.lt_or_ge (i+1) (j+1) with h2|h2
  ·exact h i t' u' h2 hit hiu
  ·obtain rfl:i=j:=by omega
   rw [<- hp,ht] at hit;rw [show 2*i+2=q by omega,hu] at hiu;cases hit
   cases hiu
   exact hl
 ·exact .inr h
theorem v7a {l:List VT} {j p q:Nat} {t u:VT} {r:Int} (hn:nmQ l (j+1) r) (hp:p=2*j) (hq:q=2*(j+1)) (ht:l[p]?=some t) (hu:l[q]?=some u) (h5:u.kind=5) (hl:Op.bytesLess t.str.toList u.str.toList=false):nmQ l (j+1+1) 16:=by
 refine⟨z8u hn hq hu h5,.inr ⟨rfl,fun h=>?_⟩⟩;have h2:=h j t u (by rw [<- hp];exact ht) (by rw [show 2*j+2=q by omega];exact hu);rw [hl] at h2;cases h2
theorem v4k {l:List VT} {j:Nat} {r:Int} (hn:nmQ l j r) (he:l.length%2=0) (hj:l.length<=2*j):z49 0 0 l=r:=by
 have h1:z6u l:=fun i t hit=>hn.1 i t (by have h:=(List.getElem?_eq_some_iff.1 hit).1;omega) hit;rcases hn.2 with⟨rfl,h⟩|⟨rfl,h⟩
 ·exact y1y he h1 (fun i t u hit hiu=>h i t u (by have h:=(List.getElem?_eq_some_iff.1 hiu).1;omega) hit hiu)
 ·exact y3f he h1 h
theorem y6o (l:List VT) (A:Option Addr) (len cap:Nat) (w0 w:World) (hl:l.length=len) (hr:RowIs w0 A 0 l) (hlm:len<=maxLen) (hc:Chg NoS w0 w) :
  Calls Tryz.prog 60 #[.slice A len cap] w fun e w'=>e=.returned (.int .i64 (z49 0 0 l))/\Chg NoS w w':=by
 unfold maxLen at hlm;obtain⟨r,hr2⟩:∃ r:Nat,len%2=r:=⟨_,rfl⟩
 have t1:(len:Int).tmod 2=(r:Int):=by rw [Int.tmod_eq_emod_of_nonneg (by omega)];omega
 have t2:(len:Int)%2=(r:Int):=by omega
 have HC:=kf hc;clear hc;by_cases h2:r=0
 ·subst h2;have HEV:=kf (show l.length%2=0 from by rw [hl];exact hr2);have HL:=kf hl;have HR:=kf hr;have HLE:=kf hr2;clear hr2 hl hr;go_enter Tryz.func60,Tryz.ntmps60;go_upto_region 5 with fail;go_loopw [3,4] (fun ve va wr=>∃ (j:Nat) (r:Int),2*j<=len/\ve=.int .i64 r/\va=.int .i64 ((2*j:Nat):Int)/\Hid (Chg NoS w wr)/\Hid (nmQ l j r)) (fun _ va _=>len-(intOf va).toNat)
  case atStart=>exact⟨0,0,by omega,rfl,by go_num,Chg.refl _ _,v08 l⟩
  case round =>
   obtain⟨j,r,hj,rfl,rfl,HCW,HN⟩:=hrel;obtain⟨q,hq⟩:∃ q,q=2*j:=⟨_,rfl⟩
   rw [<- hq] at hj ⊢;have HQ:=kf hq;clear hq;have HCR:=kf (HC.out.trans HCW.out (fun _ _ e=>e));by_cases h1:q<len
   ·obtain⟨u,hu,_⟩:=z0s (l:=l) (k:=q) (by rw [HL.out];exact h1)
    obtain⟨b,off,rfl⟩:∃ b off,A=some ⟨b,off,none⟩:=by
     have h:=HR.out;cases hll:l with
     |nil=>rw [hll] at hu;simp at hu
     |cons t0 l0=>rw [hll] at h;exact h.start
    obtain⟨eA,el,ec,c0,_,c2,_,_⟩:=HR.out.nth HCR.out hu;have i1:(q:Int)<len:=by omega
    obtain⟨uk,huk⟩:∃ uk,u.kind=uk:=⟨_,rfl⟩
    obtain⟨us,hus⟩:∃ us,u.str=us:=⟨_,rfl⟩
    rw [huk] at c0;rw [hus] at c2;have HU:=kf hu;have HUK:=kf huk;have HUS:=kf hus;clear hu huk hus;by_cases h5:uk=5
    ·subst h5;cases j with
     |zero =>
      obtain rfl:q=0:=HQ.out;simp only [Nat.zero_mul,Nat.add_zero] at c0 c2;have HNN:=kf (v4j HN.out HU.out HUK.out);have d0:decide ((0:Int)<0)=false:=by decide
      go_upto_region 9 with fail;go_quiet (fail);go_wp2_with fail;go_roundw
      case rel=>exact⟨1,r,by have:=HLE.out;omega,rfl,by go_num,HCW.out.drewN nq,HNN.out⟩
      case measure=>simp [intOf];omega
     |succ m =>
      obtain⟨p,hp⟩:∃ p,p=2*m:=⟨_,rfl⟩
      have hqp:(q:Int)-2=(p:Int):=by have:=HQ.out;omega
      have hp3:p<len:=by have:=HQ.out;omega
      have HPP:=kf hp;clear hp;obtain⟨t,ht,_⟩:=z0s (l:=l) (k:=p) (by rw [HL.out];exact hp3);obtain⟨eA',el',ec',_,_,c2',_,_⟩:=HR.out.nth HCR.out ht;have k1:IntKind.i64.wrap (p:Int)=(p:Int):=by rw [IntKind.wrap_i64];omega
      have k2:IntKind.i64.wrap ((q:Int)-2)=(p:Int):=by rw [hqp,k1]
      have i2:(p:Int)<len:=by omega
      have i3:(0:Int)<=(q:Int)-2:=by omega
      have i4:(q:Int)-2<len:=by omega
      have d0:decide ((0:Int)<(q:Int))=true:=by simp;omega
      have d0':decide (0<q)=true:=by simp;omega
      obtain⟨ts,hts⟩:∃ ts,t.str=ts:=⟨_,rfl⟩
      rw [hts] at c2';have HT:=kf ht;have HTS:=kf hts;clear ht hts;by_cases hb:Op.bytesLess ts.toList us.toList=true
      ·have HNN:=kf (v79 HN.out HPP.out HQ.out HT.out HU.out HUK.out (by rw [HTS.out,HUS.out];exact hb));go_upto_region 9 with fail;go_quiet (fail);go_wp2_with fail;go_roundw
       case rel=>exact⟨m+1+1,r,by have:=HLE.out;have:=HQ.out;omega,rfl,by have:=HQ.out;first|(go_num;done)|(go_num;omega),HCW.out.drewN nq,HNN.out⟩
       case measure=>simp [intOf];omega
      ·have hb2:Op.bytesLess ts.toList us.toList=false:=by simpa using hb
       have HNN:=kf (v7a HN.out HPP.out HQ.out HT.out HU.out HUK.out (by rw [HTS.out,HUS.out];exact hb2));clear hb;go_upto_region 9 with fail;go_quiet (fail);go_wp2_with fail;go_roundw
       case rel=>exact⟨m+1+1,16,by have:=HLE.out;have:=HQ.out;omega,rfl,by have:=HQ.out;first|(go_num;done)|(go_num;omega),HCW.out.drewN nq,HNN.out⟩
       case measure=>simp [intOf];omega
    ·have e5:(uk==5)=false:=by simpa using h5
     have e5':(uk != 5)=true:=by simpa using h5
     have HE:=kf (z22 (n:=0) (sz:=0) (l:=l) (.inr (.inr (.inr (fun h=>h5 (by rw [<- HUK.out];exact h j u (by rw [<- HQ.out];exact HU.out)))))));clear h5;go_wp2_with fail;go_ret;exact⟨z00 HE.out.symm,HCW.out⟩
   ·have HE:=kf (v4k HN.out HEV.out (by rw [HL.out];have:=HQ.out;omega));have d1:decide ((q:Int)<len)=false:=by simp;omega
    have d1':decide (q<len)=false:=by simp;omega
    go_wp2_with fail;go_ret;exact⟨z00 HE.out.symm,HCW.out⟩
 ·have e2:((r:Int)==0)=false:=by simpa using h2
  have e2':((r:Int) != 0)=true:=by simpa using h2
  have HE:=kf (z22 (n:=0) (sz:=0) (l:=l) (.inr (.inr (.inl (by rw [hl,hr2];exact h2)))));clear h2 hr2 hl hr;go_enter Tryz.func60,Tryz.ntmps60;go_wp2_with fail;go_ret;exact⟨z00 HE.out.symm,Chg.refl _ _⟩
theorem v0q (s:ByteArray):(∀ d∈sl s,d≠0)↔Lib.indexByte s.data.toList 0=-1:=by
 have e1:sl s=s.data.toList.map UInt8.toNat:=rfl;constructor
 ·intro h;have hge:=Lib.indexByte_ge s.data.toList 0;by_cases h2:Lib.indexByte s.data.toList 0=-1
  ·exact h2
  ·obtain⟨o,ho⟩:∃ o:Nat,Lib.indexByte s.data.toList 0=o:=⟨(Lib.indexByte s.data.toList 0).toNat,by omega⟩
   have h3:=(Lib.indexByte_some ho).1;have h4:=List.mem_of_getElem? h3;exact absurd rfl (h 0 (by rw [e1];exact List.mem_map.2 ⟨0,h4,rfl⟩))
 ·intro h d hd;rw [e1] at hd;obtain⟨x,hx,rfl⟩:=List.mem_map.1 hd;obtain⟨k,hk⟩:=List.getElem?_of_mem hx;intro h0;have h3:x=0:=UInt8.toNat_inj.1 h0;subst h3;exact Lib.indexByte_none h k hk
theorem y85 (s:ByteArray) (w:World):Calls Tryz.prog 59 #[.string s,.string ⟨#[0]⟩] w fun e w'=>e=.returned (.bool (decide (¬∀ d∈sl s,d≠0)))/\w'=w:=by
 have HI:=kf (fun W=>Go.Proofs.Tryz.stringslite_Index_one s 0 W);have hge:=Lib.indexByte_ge s.data.toList 0;obtain⟨z,hz⟩:∃ z,Lib.indexByte s.data.toList 0=z:=⟨_,rfl⟩
 have hd:decide (¬∀ d∈sl s,d≠0)=decide (0<=z):=by
  apply decide_eq_decide.2;rw [v0q,hz];rw [hz] at hge;omega
 rw [hz] at HI;rw [hd];clear hz hge hd
 have HS:Hid (∀ W,Calls Tryz.prog 83 #[.string s,.string ⟨#[0]⟩] W fun e w'=>e=.returned (.int .i64 z)/\w'=W):=by
  show ∀ W,_;intro W;go_enter Tryz.func83,Tryz.ntmps83;go_wp2_with (go_at_call 109;refine(HI.out _).mono ?_;rintro e w2 ⟨rfl,rfl⟩);go_ret;exact⟨rfl,rfl⟩
 go_enter Tryz.func59,Tryz.ntmps59;go_wp2_with (go_at_call 83;refine(HS.out _).mono ?_;rintro e w2 ⟨rfl,rfl⟩);go_ret;exact⟨rfl,rfl⟩
theorem v9a {k:Int} (h0:k≠0) (h1:k≠1) (h2:k≠2) (h3:k≠3) (h4:k≠4) (h5:k≠5) (h6:k≠6) (h7:k≠7) (h8:k≠8) (n:Int) (s:ByteArray) (l:List VT):z0b k n s l=2:=by
 rw [z0b,if_neg h0,if_neg h1,if_neg (by omega),if_neg h4,if_neg h5,if_neg h6,if_neg h7,if_neg h8]
theorem y8j (c:VC) (l:List VT) (w:World) (hv:ValIs w (.mk c.k c.n c.s l) c) :
  Calls Tryz.prog 38 #[c.val] w fun e w'=>e=.returned (.int .i64 (z0b c.k c.n c.s l))/\Chg NoS w w':=by
 obtain⟨_,_,_,hg,hl,hr⟩:=hv.inv;obtain⟨k,n,s,A,len,cap⟩:=c;simp only [] at hl hr;have hlm:=hg.len;have hss:=hg.s;simp only [] at hlm hss;unfold maxLen at hss;unfold VC.val;simp only [];have HC0:=kf ((Chg.refl NoS w).alloc (.cells #[.int .i64 k,.int .i64 n,.string s,.slice A len cap] 24));have HN:=kf (fun(W:World) (h:Chg NoS w W)=>y6o l A len cap w W hl hr hlm h);have HT:=kf (fun W=>y85 s W);have HK:=kf (fun W=>z2j k n s A len cap W);have HL:=kf hl;obtain⟨tb,htb⟩:∃ tb,s.toList.isEmpty=tb:=⟨_,rfl⟩
 obtain⟨lb,hlb⟩:∃ lb,((len:Int)==0)=lb:=⟨_,rfl⟩
 have HTB:Hid ((tb=true/\s.size=0)\/(tb=false/\¬s.size=0)):=by
  show _\/_;by_cases h:s.size=0
  ·rw [z0y h] at htb;subst htb;exact .inl ⟨by simp [ByteArray.toList_eq],h⟩
  ·rw [z1j h] at htb;subst htb;exact .inr ⟨rfl,h⟩
 have HLB:Hid ((lb=true/\l.length=0)\/(lb=false/\¬l.length=0)):=by
  show _\/_;rw [hl];by_cases h:len=0
  ·subst h;subst hlb;exact .inl ⟨rfl,rfl⟩
  ·have:((len:Int)==0)=false:=by simpa using h
   rw [this] at hlb;subst hlb;exact .inr ⟨rfl,h⟩
 clear hv hg hr hlm hl;go_enter Tryz.func38,Tryz.ntmps38;go_upto_region 2 with fail;go_quiet (fail);go_upto_region 3 with fail;clear htb hlb;by_cases k0:k=0
 ·subst k0;by_cases c1:n<0
  ·have d1:decide (n<0)=true:=by simpa using c1
   have HE:Hid (z0b 0 n s l=2):=by
    show _=_;have a:=HTB.out;have b:=HLB.out;(try simp only [reduceCtorEq,eq_self,false_and,true_and,or_false,false_or,Bool.true_eq_false,Bool.false_eq_true] at a);(try simp only [reduceCtorEq,eq_self,false_and,true_and,or_false,false_or,Bool.true_eq_false,Bool.false_eq_true] at b)
    rw [z6s];split<;>first|rfl|(exfalso;omega)
   clear c1;go_wp2_with (fail);go_ret;exact⟨z00 HE.out.symm,HC0.out.drewN nq⟩
  have d1:decide (n<0)=false:=by simpa using c1
  by_cases c2:0<n
  ·have d2:decide (0<n)=true:=by simpa using c2
   have HE:Hid (z0b 0 n s l=2):=by
    show _=_;have a:=HTB.out;have b:=HLB.out;(try simp only [reduceCtorEq,eq_self,false_and,true_and,or_false,false_or,Bool.true_eq_false,Bool.false_eq_true] at a);(try simp only [reduceCtorEq,eq_self,false_and,true_and,or_false,false_or,Bool.true_eq_false,Bool.false_eq_true] at b)
    rw [z6s];split<;>first|rfl|(exfalso;omega)
   clear c1 c2;go_wp2_with (fail);go_ret;exact⟨z00 HE.out.symm,HC0.out.drewN nq⟩
  have d2:decide (0<n)=false:=by simpa using c2
  cases tb with
  |false =>
   have HE:Hid (z0b 0 n s l=2):=by
    show _=_;have a:=HTB.out;have b:=HLB.out;(try simp only [reduceCtorEq,eq_self,false_and,true_and,or_false,false_or,Bool.true_eq_false,Bool.false_eq_true] at a);(try simp only [reduceCtorEq,eq_self,false_and,true_and,or_false,false_or,Bool.true_eq_false,Bool.false_eq_true] at b)
    rw [z6s];split<;>first|rfl|(exfalso;omega)
   clear c1 c2;go_wp2_with (fail);go_ret;exact⟨z00 HE.out.symm,HC0.out.drewN nq⟩
  |true =>
   cases lb with
   |false =>
    have HE:Hid (z0b 0 n s l=2):=by
     show _=_;have a:=HTB.out;have b:=HLB.out;(try simp only [reduceCtorEq,eq_self,false_and,true_and,or_false,false_or,Bool.true_eq_false,Bool.false_eq_true] at a);(try simp only [reduceCtorEq,eq_self,false_and,true_and,or_false,false_or,Bool.true_eq_false,Bool.false_eq_true] at b)
     rw [z6s];split<;>first|rfl|(exfalso;omega)
    clear c1 c2;go_wp2_with (fail);go_ret;exact⟨z00 HE.out.symm,HC0.out.drewN nq⟩
   |true =>
    have HE:Hid (z0b 0 n s l=0):=by
     show _=_;have a:=HTB.out;have b:=HLB.out;(try simp only [reduceCtorEq,eq_self,false_and,true_and,or_false,false_or,Bool.true_eq_false,Bool.false_eq_true] at a);(try simp only [reduceCtorEq,eq_self,false_and,true_and,or_false,false_or,Bool.true_eq_false,Bool.false_eq_true] at b)
     rw [z6s];split<;>first|rfl|(exfalso;omega)
    clear c1 c2;go_wp2_with (fail);go_ret;exact⟨z00 HE.out.symm,HC0.out.drewN nq⟩
 have e0:(k==0)=false:=by simpa using k0
 by_cases k1:k=1
 ·subst k1;by_cases c1:n<0
  ·have d1:decide (n<0)=true:=by simpa using c1
   have HE:Hid (z0b 1 n s l=2):=by
    show _=_;have a:=HTB.out;have b:=HLB.out;(try simp only [reduceCtorEq,eq_self,false_and,true_and,or_false,false_or,Bool.true_eq_false,Bool.false_eq_true] at a);(try simp only [reduceCtorEq,eq_self,false_and,true_and,or_false,false_or,Bool.true_eq_false,Bool.false_eq_true] at b)
    rw [z4o];split<;>first|rfl|(exfalso;omega)
   clear c1;go_wp2_with (fail);go_ret;exact⟨z00 HE.out.symm,HC0.out.drewN nq⟩
  have d1:decide (n<0)=false:=by simpa using c1
  by_cases c2:1<n
  ·have d2:decide (1<n)=true:=by simpa using c2
   have HE:Hid (z0b 1 n s l=2):=by
    show _=_;have a:=HTB.out;have b:=HLB.out;(try simp only [reduceCtorEq,eq_self,false_and,true_and,or_false,false_or,Bool.true_eq_false,Bool.false_eq_true] at a);(try simp only [reduceCtorEq,eq_self,false_and,true_and,or_false,false_or,Bool.true_eq_false,Bool.false_eq_true] at b)
    rw [z4o];split<;>first|rfl|(exfalso;omega)
   clear c1 c2;go_wp2_with (fail);go_ret;exact⟨z00 HE.out.symm,HC0.out.drewN nq⟩
  have d2:decide (1<n)=false:=by simpa using c2
  cases tb with
  |false =>
   have HE:Hid (z0b 1 n s l=2):=by
    show _=_;have a:=HTB.out;have b:=HLB.out;(try simp only [reduceCtorEq,eq_self,false_and,true_and,or_false,false_or,Bool.true_eq_false,Bool.false_eq_true] at a);(try simp only [reduceCtorEq,eq_self,false_and,true_and,or_false,false_or,Bool.true_eq_false,Bool.false_eq_true] at b)
    rw [z4o];split<;>first|rfl|(exfalso;omega)
   clear c1 c2;go_wp2_with (fail);go_ret;exact⟨z00 HE.out.symm,HC0.out.drewN nq⟩
  |true =>
   cases lb with
   |false =>
    have HE:Hid (z0b 1 n s l=2):=by
     show _=_;have a:=HTB.out;have b:=HLB.out;(try simp only [reduceCtorEq,eq_self,false_and,true_and,or_false,false_or,Bool.true_eq_false,Bool.false_eq_true] at a);(try simp only [reduceCtorEq,eq_self,false_and,true_and,or_false,false_or,Bool.true_eq_false,Bool.false_eq_true] at b)
     rw [z4o];split<;>first|rfl|(exfalso;omega)
    clear c1 c2;go_wp2_with (fail);go_ret;exact⟨z00 HE.out.symm,HC0.out.drewN nq⟩
   |true =>
    have HE:Hid (z0b 1 n s l=0):=by
     show _=_;have a:=HTB.out;have b:=HLB.out;(try simp only [reduceCtorEq,eq_self,false_and,true_and,or_false,false_or,Bool.true_eq_false,Bool.false_eq_true] at a);(try simp only [reduceCtorEq,eq_self,false_and,true_and,or_false,false_or,Bool.true_eq_false,Bool.false_eq_true] at b)
     rw [z4o];split<;>first|rfl|(exfalso;omega)
    clear c1 c2;go_wp2_with (fail);go_ret;exact⟨z00 HE.out.symm,HC0.out.drewN nq⟩
 have e1:(k==1)=false:=by simpa using k1
 by_cases k2:k=2
 ·subst k2
  have HE:Hid (z0b 2 n s l=z0h 2 n s.size len):=by
   show _=_;rw [y0d,HL.out]
  go_wp2_with (go_at_call 58;refine(HK.out _).mono ?_;rintro e w3 ⟨rfl,hc3⟩;have HC3:=kf ((HC0.out.drewN nq).trans hc3 (fun _ _ e=>e));clear hc3);go_ret;exact⟨z00 HE.out.symm,HC3.out⟩
 have e2:(k==2)=false:=by simpa using k2
 by_cases k3:k=3
 ·subst k3
  have HE:Hid (z0b 3 n s l=z0h 3 n s.size len):=by
   show _=_;rw [y1h,HL.out]
  go_wp2_with (go_at_call 58;refine(HK.out _).mono ?_;rintro e w3 ⟨rfl,hc3⟩;have HC3:=kf ((HC0.out.drewN nq).trans hc3 (fun _ _ e=>e));clear hc3);go_ret;exact⟨z00 HE.out.symm,HC3.out⟩
 have e3:(k==3)=false:=by simpa using k3
 by_cases k4:k=4
 ·subst k4;by_cases c1:n<0
  ·have d1:decide (n<0)=true:=by simpa using c1
   have HE:Hid (z0b 4 n s l=2):=by
    show _=_;have a:=HTB.out;have b:=HLB.out;(try simp only [reduceCtorEq,eq_self,false_and,true_and,or_false,false_or,Bool.true_eq_false,Bool.false_eq_true] at a);(try simp only [reduceCtorEq,eq_self,false_and,true_and,or_false,false_or,Bool.true_eq_false,Bool.false_eq_true] at b)
    rw [z5h];split<;>first|rfl|(exfalso;omega)
   clear c1;go_wp2_with (fail);go_ret;exact⟨z00 HE.out.symm,HC0.out.drewN nq⟩
  have d1:decide (n<0)=false:=by simpa using c1
  by_cases c2:0<n
  ·have d2:decide (0<n)=true:=by simpa using c2
   have HE:Hid (z0b 4 n s l=2):=by
    show _=_;have a:=HTB.out;have b:=HLB.out;(try simp only [reduceCtorEq,eq_self,false_and,true_and,or_false,false_or,Bool.true_eq_false,Bool.false_eq_true] at a);(try simp only [reduceCtorEq,eq_self,false_and,true_and,or_false,false_or,Bool.true_eq_false,Bool.false_eq_true] at b)
    rw [z5h];split<;>first|rfl|(exfalso;omega)
   clear c1 c2;go_wp2_with (fail);go_ret;exact⟨z00 HE.out.symm,HC0.out.drewN nq⟩
  have d2:decide (0<n)=false:=by simpa using c2
  cases lb with
  |false =>
   have HE:Hid (z0b 4 n s l=2):=by
    show _=_;have a:=HTB.out;have b:=HLB.out;(try simp only [reduceCtorEq,eq_self,false_and,true_and,or_false,false_or,Bool.true_eq_false,Bool.false_eq_true] at a);(try simp only [reduceCtorEq,eq_self,false_and,true_and,or_false,false_or,Bool.true_eq_false,Bool.false_eq_true] at b)
    rw [z5h];split<;>first|rfl|(exfalso;omega)
   clear c1 c2;go_wp2_with (fail);go_ret;exact⟨z00 HE.out.symm,HC0.out.drewN nq⟩
  |true =>
   have HE:Hid (z0b 4 n s l=0):=by
    show _=_;have a:=HTB.out;have b:=HLB.out;(try simp only [reduceCtorEq,eq_self,false_and,true_and,or_false,false_or,Bool.true_eq_false,Bool.false_eq_true] at a);(try simp only [reduceCtorEq,eq_self,false_and,true_and,or_false,false_or,Bool.true_eq_false,Bool.false_eq_true] at b)
    rw [z5h];split<;>first|rfl|(exfalso;omega)
   clear c1 c2;go_wp2_with (fail);go_ret;exact⟨z00 HE.out.symm,HC0.out.drewN nq⟩
 have e4:(k==4)=false:=by simpa using k4
 by_cases k5:k=5
 ·subst k5;by_cases c0:127<s.size
  ·have d0:decide (127<(s.size:Int))=true:=by simp;omega
   have d0':decide (127<s.size)=true:=by simpa using c0
   have HE:Hid (z0b 5 n s l=17):=by
    show _=_;rw [z2i,if_pos (fun h=>by have:=h.2;omega)]
   clear c0;go_wp2_with (fail);go_ret;exact⟨z00 HE.out.symm,HC0.out.drewN nq⟩
  have d0:decide (127<(s.size:Int))=false:=by simp;omega
  have d0':decide (127<s.size)=false:=by simpa using c0
  by_cases cz:∀ d∈sl s,d≠0
  ·have HTX:=kf (show z1w s from⟨cz,by omega⟩);rw [show decide (¬∀ d∈sl s,d≠0)=false from decide_eq_false (fun h=>h cz)] at HT;clear cz c0;by_cases c1:n<0
   ·have d1:decide (n<0)=true:=by simpa using c1
    have HE:Hid (z0b 5 n s l=2):=by
     show _=_;have a:=HTB.out;have b:=HLB.out;(try simp only [reduceCtorEq,eq_self,false_and,true_and,or_false,false_or,Bool.true_eq_false,Bool.false_eq_true] at a);(try simp only [reduceCtorEq,eq_self,false_and,true_and,or_false,false_or,Bool.true_eq_false,Bool.false_eq_true] at b)
     rw [z2i,if_neg (fun h=>h HTX.out)];split<;>first|rfl|(exfalso;omega)
    clear c1;go_wp2_with (go_at_call 59;refine(HT.out _).mono ?_;rintro e w3 ⟨rfl,rfl⟩);go_ret;exact⟨z00 HE.out.symm,HC0.out.drewN nq⟩
   have d1:decide (n<0)=false:=by simpa using c1
   by_cases c2:0<n
   ·have d2:decide (0<n)=true:=by simpa using c2
    have HE:Hid (z0b 5 n s l=2):=by
     show _=_;have a:=HTB.out;have b:=HLB.out;(try simp only [reduceCtorEq,eq_self,false_and,true_and,or_false,false_or,Bool.true_eq_false,Bool.false_eq_true] at a);(try simp only [reduceCtorEq,eq_self,false_and,true_and,or_false,false_or,Bool.true_eq_false,Bool.false_eq_true] at b)
     rw [z2i,if_neg (fun h=>h HTX.out)];split<;>first|rfl|(exfalso;omega)
    clear c1 c2;go_wp2_with (go_at_call 59;refine(HT.out _).mono ?_;rintro e w3 ⟨rfl,rfl⟩);go_ret;exact⟨z00 HE.out.symm,HC0.out.drewN nq⟩
   have d2:decide (0<n)=false:=by simpa using c2
   cases lb with
   |false =>
    have HE:Hid (z0b 5 n s l=2):=by
     show _=_;have a:=HTB.out;have b:=HLB.out;(try simp only [reduceCtorEq,eq_self,false_and,true_and,or_false,false_or,Bool.true_eq_false,Bool.false_eq_true] at a);(try simp only [reduceCtorEq,eq_self,false_and,true_and,or_false,false_or,Bool.true_eq_false,Bool.false_eq_true] at b)
     rw [z2i,if_neg (fun h=>h HTX.out)];split<;>first|rfl|(exfalso;omega)
    clear c1 c2;go_wp2_with (go_at_call 59;refine(HT.out _).mono ?_;rintro e w3 ⟨rfl,rfl⟩);go_ret;exact⟨z00 HE.out.symm,HC0.out.drewN nq⟩
   |true =>
    have HE:Hid (z0b 5 n s l=0):=by
     show _=_;have a:=HTB.out;have b:=HLB.out;(try simp only [reduceCtorEq,eq_self,false_and,true_and,or_false,false_or,Bool.true_eq_false,Bool.false_eq_true] at a);(try simp only [reduceCtorEq,eq_self,false_and,true_and,or_false,false_or,Bool.true_eq_false,Bool.false_eq_true] at b)
     rw [z2i,if_neg (fun h=>h HTX.out)];split<;>first|rfl|(exfalso;omega)
    clear c1 c2;go_wp2_with (go_at_call 59;refine(HT.out _).mono ?_;rintro e w3 ⟨rfl,rfl⟩);go_ret;exact⟨z00 HE.out.symm,HC0.out.drewN nq⟩
  ·rw [show decide (¬∀ d∈sl s,d≠0)=true from decide_eq_true cz] at HT
   have HE:Hid (z0b 5 n s l=17):=by
    show _=_;rw [z2i,if_pos (fun h=>cz h.1)]
   clear c0 cz;go_wp2_with (go_at_call 59;refine(HT.out _).mono ?_;rintro e w3 ⟨rfl,rfl⟩);go_ret;exact⟨z00 HE.out.symm,HC0.out.drewN nq⟩
 have e5:(k==5)=false:=by simpa using k5
 by_cases k6:k=6
 ·subst k6;by_cases c1:n<0
  ·have d1:decide (n<0)=true:=by simpa using c1
   have HE:Hid (z0b 6 n s l=2):=by
    show _=_;have a:=HTB.out;have b:=HLB.out;(try simp only [reduceCtorEq,eq_self,false_and,true_and,or_false,false_or,Bool.true_eq_false,Bool.false_eq_true] at a);(try simp only [reduceCtorEq,eq_self,false_and,true_and,or_false,false_or,Bool.true_eq_false,Bool.false_eq_true] at b)
    rw [z5g];split<;>first|rfl|(exfalso;omega)
   clear c1;go_wp2_with (fail);go_ret;exact⟨z00 HE.out.symm,HC0.out.drewN nq⟩
  have d1:decide (n<0)=false:=by simpa using c1
  by_cases c2:0<n
  ·have d2:decide (0<n)=true:=by simpa using c2
   have HE:Hid (z0b 6 n s l=2):=by
    show _=_;have a:=HTB.out;have b:=HLB.out;(try simp only [reduceCtorEq,eq_self,false_and,true_and,or_false,false_or,Bool.true_eq_false,Bool.false_eq_true] at a);(try simp only [reduceCtorEq,eq_self,false_and,true_and,or_false,false_or,Bool.true_eq_false,Bool.false_eq_true] at b)
    rw [z5g];split<;>first|rfl|(exfalso;omega)
   clear c1 c2;go_wp2_with (fail);go_ret;exact⟨z00 HE.out.symm,HC0.out.drewN nq⟩
  have d2:decide (0<n)=false:=by simpa using c2
  cases tb with
  |false =>
   have HE:Hid (z0b 6 n s l=2):=by
    show _=_;have a:=HTB.out;have b:=HLB.out;(try simp only [reduceCtorEq,eq_self,false_and,true_and,or_false,false_or,Bool.true_eq_false,Bool.false_eq_true] at a);(try simp only [reduceCtorEq,eq_self,false_and,true_and,or_false,false_or,Bool.true_eq_false,Bool.false_eq_true] at b)
    rw [z5g];split<;>first|rfl|(exfalso;omega)
   clear c1 c2;go_wp2_with (fail);go_ret;exact⟨z00 HE.out.symm,HC0.out.drewN nq⟩
  |true =>
   have HE:Hid (z0b 6 n s l=0):=by
    show _=_;have a:=HTB.out;have b:=HLB.out;(try simp only [reduceCtorEq,eq_self,false_and,true_and,or_false,false_or,Bool.true_eq_false,Bool.false_eq_true] at a);(try simp only [reduceCtorEq,eq_self,false_and,true_and,or_false,false_or,Bool.true_eq_false,Bool.false_eq_true] at b)
    rw [z5g];split<;>first|rfl|(exfalso;omega)
   clear c1 c2;go_wp2_with (fail);go_ret;exact⟨z00 HE.out.symm,HC0.out.drewN nq⟩
 have e6:(k==6)=false:=by simpa using k6
 by_cases k7:k=7
 ·subst k7;by_cases c1:n<0
  ·have d1:decide (n<0)=true:=by simpa using c1
   have HE:Hid (z0b 7 n s l=2):=by
    show _=_;have a:=HTB.out;(try simp only [reduceCtorEq,eq_self,false_and,true_and,or_false,false_or,Bool.true_eq_false,Bool.false_eq_true] at a)
    rw [z8t];exact z22 (by omega)
   clear c1;go_wp2_with (fail);go_ret;exact⟨z00 HE.out.symm,HC0.out.drewN nq⟩
  have d1:decide (n<0)=false:=by simpa using c1
  by_cases c2:0<n
  ·have d2:decide (0<n)=true:=by simpa using c2
   have HE:Hid (z0b 7 n s l=2):=by
    show _=_;have a:=HTB.out;(try simp only [reduceCtorEq,eq_self,false_and,true_and,or_false,false_or,Bool.true_eq_false,Bool.false_eq_true] at a)
    rw [z8t];exact z22 (by omega)
   clear c1 c2;go_wp2_with (fail);go_ret;exact⟨z00 HE.out.symm,HC0.out.drewN nq⟩
  have d2:decide (0<n)=false:=by simpa using c2
  cases tb with
  |false =>
   have HE:Hid (z0b 7 n s l=2):=by
    show _=_;have a:=HTB.out;(try simp only [reduceCtorEq,eq_self,false_and,true_and,or_false,false_or,Bool.true_eq_false,Bool.false_eq_true] at a)
    rw [z8t];exact z22 (by omega)
   clear c1 c2;go_wp2_with (fail);go_ret;exact⟨z00 HE.out.symm,HC0.out.drewN nq⟩
  |true =>
   have HE:Hid (z0b 7 n s l=z49 0 0 l):=by
    show _=_;have a:=HTB.out;(try simp only [reduceCtorEq,eq_self,false_and,true_and,or_false,false_or,Bool.true_eq_false,Bool.false_eq_true] at a)
    rw [z8t,show n=0 by omega,show s.size=0 by omega]
   clear c1 c2;go_wp2_with (go_at_call 60;refine(HN.out _ (by exact HC0.out.drewN nq)).mono ?_;rintro e w3 ⟨rfl,hc3⟩;have HC3:=kf ((HC0.out.drewN nq).trans hc3 (fun _ _ e=>e));clear hc3);go_ret;exact⟨z00 HE.out.symm,HC3.out⟩
 have e7:(k==7)=false:=by simpa using k7
 by_cases k8:k=8
 ·subst k8;by_cases c1:n<1
  ·have d1:decide (n<1)=true:=by simpa using c1
   have HE:Hid (z0b 8 n s l=2):=by
    show _=_;have a:=HTB.out;have b:=HLB.out;(try simp only [reduceCtorEq,eq_self,false_and,true_and,or_false,false_or,Bool.true_eq_false,Bool.false_eq_true] at a);(try simp only [reduceCtorEq,eq_self,false_and,true_and,or_false,false_or,Bool.true_eq_false,Bool.false_eq_true] at b)
    rw [z5f];split<;>first|rfl|(exfalso;omega)
   clear c1;go_wp2_with (fail);go_ret;exact⟨z00 HE.out.symm,HC0.out.drewN nq⟩
  have d1:decide (n<1)=false:=by simpa using c1
  by_cases c2:4096<n
  ·have d2:decide (4096<n)=true:=by simpa using c2
   have HE:Hid (z0b 8 n s l=2):=by
    show _=_;have a:=HTB.out;have b:=HLB.out;(try simp only [reduceCtorEq,eq_self,false_and,true_and,or_false,false_or,Bool.true_eq_false,Bool.false_eq_true] at a);(try simp only [reduceCtorEq,eq_self,false_and,true_and,or_false,false_or,Bool.true_eq_false,Bool.false_eq_true] at b)
    rw [z5f];split<;>first|rfl|(exfalso;omega)
   clear c1 c2;go_wp2_with (fail);go_ret;exact⟨z00 HE.out.symm,HC0.out.drewN nq⟩
  have d2:decide (4096<n)=false:=by simpa using c2
  cases tb with
  |false =>
   have HE:Hid (z0b 8 n s l=2):=by
    show _=_;have a:=HTB.out;have b:=HLB.out;(try simp only [reduceCtorEq,eq_self,false_and,true_and,or_false,false_or,Bool.true_eq_false,Bool.false_eq_true] at a);(try simp only [reduceCtorEq,eq_self,false_and,true_and,or_false,false_or,Bool.true_eq_false,Bool.false_eq_true] at b)
    rw [z5f];split<;>first|rfl|(exfalso;omega)
   clear c1 c2;go_wp2_with (fail);go_ret;exact⟨z00 HE.out.symm,HC0.out.drewN nq⟩
  |true =>
   cases lb with
   |false =>
    have HE:Hid (z0b 8 n s l=2):=by
     show _=_;have a:=HTB.out;have b:=HLB.out;(try simp only [reduceCtorEq,eq_self,false_and,true_and,or_false,false_or,Bool.true_eq_false,Bool.false_eq_true] at a);(try simp only [reduceCtorEq,eq_self,false_and,true_and,or_false,false_or,Bool.true_eq_false,Bool.false_eq_true] at b)
     rw [z5f];split<;>first|rfl|(exfalso;omega)
    clear c1 c2;go_wp2_with (fail);go_ret;exact⟨z00 HE.out.symm,HC0.out.drewN nq⟩
   |true =>
    have HE:Hid (z0b 8 n s l=0):=by
     show _=_;have a:=HTB.out;have b:=HLB.out;(try simp only [reduceCtorEq,eq_self,false_and,true_and,or_false,false_or,Bool.true_eq_false,Bool.false_eq_true] at a);(try simp only [reduceCtorEq,eq_self,false_and,true_and,or_false,false_or,Bool.true_eq_false,Bool.false_eq_true] at b)
     rw [z5f];split<;>first|rfl|(exfalso;omega)
    clear c1 c2;go_wp2_with (fail);go_ret;exact⟨z00 HE.out.symm,HC0.out.drewN nq⟩
 have e8:(k==8)=false:=by simpa using k8
 have HE:Hid (z0b k n s l=2):=by
  show _=_;exact v9a k0 k1 k2 k3 k4 k5 k6 k7 k8 n s l
 clear k0 k1 k2 k3 k4 k5 k6 k7 k8;go_wp2_with (fail);go_ret;exact⟨z00 HE.out.symm,HC0.out.drewN nq⟩
end Go.Proofs.YtmibnkddappgiaaGreatDoor
