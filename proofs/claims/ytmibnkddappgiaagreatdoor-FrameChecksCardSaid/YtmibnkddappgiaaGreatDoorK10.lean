import Derived.Test.YtmibnkddappgiaaGreatDoorK09
set_option linter.unusedVariables false
set_option maxHeartbeats 64000000
set_option maxRecDepth 100000
set_option linter.unusedSimpArgs false
namespace Go.Proofs.YtmibnkddappgiaaGreatDoor.PS
open Go.RowKit
theorem z9n [PAd] (g:Nat) (lb:Array Value) (eg:∀ args w,(callFunc g args).run Tryz.prog w=.ok (.enter g args) w) (key0 key:Int->Int) (NN:Int) (hkk:key=kk key0 NN) (gs cap:Nat) (w0:World) (hcmp:CmpOf g lb key0 NN gs w0) :
  ∀ (sz a m b:Nat) (d:List Int) (w:World),b-a<=sz->a<m->m<b->b<=d.length->d.length<=1000000->Row w gs cap d->Good NN d->Sorted key d a m->Sorted key d m b->InTurn key0 d->Chg (fun i=>i=gs) w0 w ->
  Calls Tryz.prog 81 #[.slice (some ⟨gs,0,none⟩) d.length cap,.int .i64 a,.int .i64 m,.int .i64 b,.func (.func g) #[] lb] w (z4z w gs cap d a b (fun d'=>Sorted key d' a b)):=by
 intro sz;induction sz with
 |zero=>intro a m b d w h1 h2 h3;omega
 |succ sz ih =>
  intro a m b d w hsz ham hmb hb hL hR hG hs1 hs2 hst hch;have HR:=kf hR;have HG:=kf hG;have HS1:=kf hs1;have HS2:=kf hs2;have HCH:=kf hch;have HST:=kf hst;have HCV:=kf (fun i j (h1:j<i) (h2:i<d.length)=>y0w hkk hst hG h1 h2);have HKK:=kf hkk;clear hR hG hs1 hs2 hst hch;obtain⟨N,hN⟩:∃ N,N=d.length:=⟨_,rfl⟩
  have HN:=kf hN;rw [<- hN] at hb hL ⊢;clear hN;have HCM:=kf (fun i j (W:World) (hi:i<N) (hj:j<N) hc=>hcmp (d.getD i 0) (d.getD j 0) W (HG.out.get i (by have:=HN.out;omega)).1 (HG.out.get i (by have:=HN.out;omega)).2 (HG.out.get j (by have:=HN.out;omega)).1 (HG.out.get j (by have:=HN.out;omega)).2 hc);have HCQ:Hid (∀ i j (W:World) (n:Nat),i<N->j<N->Chg (fun i=>i=gs) w W->Calls Tryz.prog g (#[.slice (some (PAd.ad (d.getD i 0))) 2 2,.slice (some (PAd.ad (d.getD j 0))) 2 2]++lb) (W.drewN n) fun e w''=>e=.returned (.int .i64 (cmpv (key0 (d.getD i 0)) (key0 (d.getD j 0))))/\∃ m,w''=W.drewN m):=fun i j W n hi hj hc=>z7x (HCM.out i j _ hi hj ((HCH.out.trans hc (fun _ _ h=>h)).drewN n));clear HCM;by_cases c1:(m:Int)-a=1
  ·have c1':m=a+1:=by omega
   have HC1:=kf c1';clear c1';go_enter Tryz.func81,Tryz.ntmps81;go_wp2_with fail;go_loopw [10,11] (fun vi vj wr=>∃ i j:Nat,m<=i/\i<=j/\j<=b/\vi=.int .i64 i/\vj=.int .i64 j/\Hid ((∀ k,a<k->k<i->key (d.getD k 0)<=key (d.getD a 0))/\(∀ k,j<=k->k<b->key (d.getD a 0)<=key (d.getD k 0)))/\Hid (∃ q,wr=w.drewN q)) (fun vi vj _=>(intOf vj).toNat-(intOf vi).toNat)
   case atStart=>exact⟨m,b,by omega,by omega,by omega,by go_num,rfl,⟨fun k h1 h2=>absurd h1 (by have:=HC1.out;omega),fun k h1 h2=>absurd h1 (by omega)⟩,⟨0,rfl⟩⟩
   case round =>
    obtain⟨i,j,hi,hij,hj,rfl,rfl,hI,hq⟩:=hrel;have HRw:Hid (Row wr gs cap d):=by obtain⟨q,rfl⟩:=hq.out;exact HR.out.drewN q
    have HCw:Hid (Chg (fun i=>i=gs) w wr):=by obtain⟨q,rfl⟩:=hq.out;exact(Chg.refl _ _).drewN q
    by_cases hlt:i<j
    ·obtain⟨h,hh⟩:∃ h,h=(i+j) / 2:=⟨_,rfl⟩
     have heq:((i:Int)+j) / 2=(h:Int):=by omega
     have hh1:i<=h/\h<j:=by omega
     have HHH:=kf hh1;clear hh hh1;have e1:=HRw.out.cell h (by have:=HHH.out;have:=HN.out;omega);have e2:=HRw.out.cell a (by have:=HN.out;omega);have hcl:=kf (fun n=>HCQ.out h a wr n (by have:=HHH.out;omega) (by omega) HCw.out);have bh:(h:Int)<N:=by have:=HHH.out;omega
     have ba:(a:Int)<N:=by omega
     obtain⟨x,hx⟩:∃ x,x=d.getD h 0:=⟨_,rfl⟩
     obtain⟨y,hy⟩:∃ y,y=d.getD a 0:=⟨_,rfl⟩
     rw [<- hx] at e1 hcl;rw [<- hy] at e2 hcl;have hcv:=HCV.out h a (by have:=HHH.out;omega) (by have:=HHH.out;have:=HN.out;omega);rw [<- hx,<- hy] at hcv;have HX:=kf hx;have HY:=kf hy;clear hx hy;obtain⟨cv,hcv0⟩:∃ cv,cv=cmpv (key0 x) (key0 y):=⟨_,rfl⟩
     rw [<- hcv0] at hcl hcv;clear hcv0;by_cases hxy:key x<key y
     ·have hd:decide (cv<0)=true:=by rw [hcv];simpa using hxy
      have HXY:=kf hxy;clear hcv hxy;go_upto_region 5 with fail;go_quiet ((go_at_fn g;exact hcl.out _));go_wp2_with fail;go_roundw
      case rel =>
       refine⟨h+1,j,by have:=HHH.out;omega,by have:=HHH.out;omega,hj,by go_num,rfl,⟨fun k h1 h2=>?_,hI.out.2⟩,?_⟩
       ·have h3:=HS2.out.le (i:=k) (j:=h) (by have:=HC1.out;omega) (by omega) (by have:=HHH.out;omega);have h4:=HXY.out;rw [HX.out,HY.out] at h4;omega
       ·obtain⟨q,hq⟩:=hq.out;exact⟨q+nq,by rw [hq,z11]⟩
      case measure=>simp [intOf];have:=HHH.out;omega
     ·have hd:decide (cv<0)=false:=by rw [hcv];simpa using hxy
      have HXY:=kf hxy;clear hcv hxy;go_upto_region 5 with fail;go_quiet ((go_at_fn g;exact hcl.out _));go_wp2_with fail;go_roundw
      case rel =>
       refine⟨i,h,hi,by have:=HHH.out;omega,by have:=HHH.out;omega,rfl,by go_num,⟨hI.out.1,fun k h1 h2=>?_⟩,?_⟩
       ·have h3:=HS2.out.le (i:=h) (j:=k) (by have:=HHH.out;omega) (by omega) (by omega);have h4:=HXY.out;rw [HX.out,HY.out] at h4;omega
       ·obtain⟨q,hq⟩:=hq.out;exact⟨q+nq,by rw [hq,z11]⟩
      case measure=>simp [intOf];have:=HHH.out;omega
    ·obtain rfl:i=j:=by omega
     go_wp2_with fail;go_loopw [13] (fun v wr2=>∃ k:Nat,∃ d1:List Int,a<=k/\k+1<=i/\v=.int .i64 k/\d1.length=N/\Row wr2 gs cap d1/\Hid (Same d d1 a b)/\Hid ((∀ q,a<=q->q<k->d1.getD q 0=d.getD (q+1) 0)/\d1.getD k 0=d.getD a 0/\(∀ q,k<q->q<b->d1.getD q 0=d.getD q 0))/\Chg (fun i=>i=gs) w wr2) (fun v _=>i-(intOf v).toNat)
     case atStart=>exact⟨a,d,by omega,by have:=HC1.out;omega,rfl,HN.out.symm,HRw.out,Same.refl _ _ _,⟨fun q h1 h2=>absurd h1 (by omega),rfl,fun q _ _=>rfl⟩,HCw.out⟩
     case round =>
      obtain⟨k,d1,hk1,hk2,rfl,hl1,hRk,hSm,hQ,hck⟩:=hrel;have HRk:=kf hRk;have HCk:=kf hck;clear hRk hck;by_cases hlt2:k+1<i
      ·have k1:=HRk.out.cell k (by omega);have k2:=HRk.out.cell (k+1) (by omega);have f1:=HRk.out.frozen k;have f2:=HRk.out.frozen (k+1);obtain⟨x,hx⟩:∃ x,x=d1.getD k 0:=⟨_,rfl⟩
       obtain⟨y,hy⟩:∃ y,y=d1.getD (k+1) 0:=⟨_,rfl⟩
       rw [<- hx] at k1;rw [<- hy] at k2;have HX:=kf hx;have HY:=kf hy;clear hx hy;have e1:IntKind.i64.wrap ((k:Int)+1)=(k:Int)+1:=by rw [IntKind.wrap_i64];omega
       have b1:(k:Int)<N:=by omega
       have b2:(k:Int)+1<N:=by omega
       have b4:0<=(k:Int)+1:=by omega
       have t2:((k:Int)+1).toNat=k+1:=by omega
       go_upto_region 11 with fail;go_region
       go_wp2_with fail;go_roundw
       case rel =>
        have hsw:=HRk.out.swap k (k+1);rw [<- HX.out,<- HY.out] at hsw;refine⟨k+1,z4d d1 k (k+1),by omega,by omega,by go_num,by rw [z39];exact hl1,hsw.drew,hSm.out.trans (Same.swap d1 a b k (k+1) (by omega) (by omega) (by omega)),⟨fun q h1 h2=>?_,?_,fun q h1 h2=>?_⟩,((HCk.out.setCell (p:=⟨gs,k,none⟩) (fun _=>rfl) _).setCell (p:=⟨gs,k+1,none⟩) (fun _=>rfl) _).drew⟩
        ·rw [z12 d1 _ _ q (by omega) (by omega),if_neg (by omega)];by_cases e:q=k
         ·subst e;rw [if_pos rfl];exact hQ.out.2.2 _ (by omega) (by omega)
         ·rw [if_neg e];exact hQ.out.1 q h1 (by omega)
        ·rw [z12 d1 _ _ _ (by omega) (by omega),if_pos rfl];exact hQ.out.2.1
        ·rw [z12 d1 _ _ q (by omega) (by omega),if_neg (by omega),if_neg (by omega)];exact hQ.out.2.2 q (by omega) h2
       case measure=>simp [intOf];omega
      ·go_wp2_with fail;go_end0;obtain rfl:i=k+1:=by omega
       exact⟨rfl,d1,HRk.out,hSm.out,v0j (i:=k+1) (by omega) hj (fun q h1 h2=>hQ.out.1 q h1 (by omega)) hQ.out.2.1 (fun q h1 h2=>hQ.out.2.2 q (by omega) h2) hI.out.1 hI.out.2 (by have:=HC1.out;subst this;exact HS2.out),HCk.out⟩
  ·have c1b:(((m:Int)-a)==1)=false:=by simp;omega
   by_cases c2:(b:Int)-m=1
   ·have c2':b=m+1:=by omega
    have HC2:=kf c2';clear c2';go_enter Tryz.func81,Tryz.ntmps81;go_wp2_with fail;go_loopw [14,15] (fun vi vj wr=>∃ i j:Nat,a<=i/\i<=j/\j<=m/\vi=.int .i64 i/\vj=.int .i64 j/\Hid ((∀ k,a<=k->k<i->key (d.getD k 0)<=key (d.getD m 0))/\(∀ k,j<=k->k<m->key (d.getD m 0)<=key (d.getD k 0)))/\Hid (∃ q,wr=w.drewN q)) (fun vi vj _=>(intOf vj).toNat-(intOf vi).toNat)
    case atStart=>exact⟨a,m,by omega,by omega,by omega,rfl,rfl,⟨fun k h1 h2=>absurd h1 (by omega),fun k h1 h2=>absurd h1 (by omega)⟩,⟨0,rfl⟩⟩
    case round =>
     obtain⟨i,j,hi,hij,hj,rfl,rfl,hI,hq⟩:=hrel;have HRw:Hid (Row wr gs cap d):=by obtain⟨q,rfl⟩:=hq.out;exact HR.out.drewN q
     have HCw:Hid (Chg (fun i=>i=gs) w wr):=by obtain⟨q,rfl⟩:=hq.out;exact(Chg.refl _ _).drewN q
     by_cases hlt:i<j
     ·obtain⟨h,hh⟩:∃ h,h=(i+j) / 2:=⟨_,rfl⟩
      have heq:((i:Int)+j) / 2=(h:Int):=by omega
      have hh1:i<=h/\h<j:=by omega
      have HHH:=kf hh1;clear hh hh1;have e1:=HRw.out.cell h (by have:=HHH.out;have:=HN.out;omega);have e2:=HRw.out.cell m (by have:=HN.out;omega);have hcl:=kf (fun n=>HCQ.out m h wr n (by omega) (by have:=HHH.out;omega) HCw.out);have bh:(h:Int)<N:=by have:=HHH.out;omega
      have ba:(m:Int)<N:=by omega
      obtain⟨y,hy⟩:∃ y,y=d.getD h 0:=⟨_,rfl⟩
      obtain⟨x,hx⟩:∃ x,x=d.getD m 0:=⟨_,rfl⟩
      rw [<- hy] at e1 hcl;rw [<- hx] at e2 hcl;have hcv:=HCV.out m h (by have:=HHH.out;omega) (by have:=HN.out;omega);rw [<- hx,<- hy] at hcv;have HX:=kf hx;have HY:=kf hy;clear hx hy;obtain⟨cv,hcv0⟩:∃ cv,cv=cmpv (key0 x) (key0 y):=⟨_,rfl⟩
      rw [<- hcv0] at hcl hcv;clear hcv0;by_cases hxy:key x<key y
      ·have hd:decide (cv<0)=true:=by rw [hcv];simpa using hxy
       have HXY:=kf hxy;clear hcv hxy;go_upto_region 17 with fail;go_quiet ((go_at_fn g;exact hcl.out _));go_wp2_with fail;go_roundw
       case rel =>
        refine⟨i,h,hi,by have:=HHH.out;omega,by have:=HHH.out;omega,rfl,by go_num,⟨hI.out.1,fun k h1 h2=>?_⟩,?_⟩
        ·have h3:=HS1.out.le (i:=h) (j:=k) (by have:=HHH.out;omega) (by omega) (by omega);have h4:=HXY.out;rw [HX.out,HY.out] at h4;omega
        ·obtain⟨q,hq⟩:=hq.out;exact⟨q+nq,by rw [hq,z11]⟩
       case measure=>simp [intOf];have:=HHH.out;omega
      ·have hd:decide (cv<0)=false:=by rw [hcv];simpa using hxy
       have HXY:=kf hxy;clear hcv hxy;go_upto_region 17 with fail;go_quiet ((go_at_fn g;exact hcl.out _));go_wp2_with fail;go_roundw
       case rel =>
        refine⟨h+1,j,by have:=HHH.out;omega,by have:=HHH.out;omega,hj,by go_num,rfl,⟨fun k h1 h2=>?_,hI.out.2⟩,?_⟩
        ·have h3:=HS1.out.le (i:=k) (j:=h) (by omega) (by omega) (by have:=HHH.out;omega);have h4:=HXY.out;rw [HX.out,HY.out] at h4;omega
        ·obtain⟨q,hq⟩:=hq.out;exact⟨q+nq,by rw [hq,z11]⟩
       case measure=>simp [intOf];have:=HHH.out;omega
     ·obtain rfl:i=j:=by omega
      go_wp2_with fail;go_loopw [17] (fun v wr2=>∃ k:Nat,∃ d1:List Int,i<=k/\k<=m/\v=.int .i64 k/\d1.length=N/\Row wr2 gs cap d1/\Hid (Same d d1 a b)/\Hid ((∀ q,k<q->q<=m->d1.getD q 0=d.getD (q-1) 0)/\d1.getD k 0=d.getD m 0/\(∀ q,a<=q->q<k->d1.getD q 0=d.getD q 0))/\Chg (fun i=>i=gs) w wr2) (fun v _=>(intOf v).toNat)
      case atStart=>exact⟨m,d,by omega,by omega,rfl,HN.out.symm,HRw.out,Same.refl _ _ _,⟨fun q h1 h2=>absurd h1 (by omega),rfl,fun q _ _=>rfl⟩,HCw.out⟩
      case round =>
       obtain⟨k,d1,hk1,hk2,rfl,hl1,hRk,hSm,hQ,hck⟩:=hrel;have HRk:=kf hRk;have HCk:=kf hck;clear hRk hck;by_cases hlt2:i<k
       ·obtain⟨k',rfl⟩:∃ k',k=k'+1:=⟨k-1,by omega⟩
        have k1:=HRk.out.cell (k'+1) (by omega);have k2:=HRk.out.cell k' (by omega);have f1:=HRk.out.frozen (k'+1);have f2:=HRk.out.frozen k';obtain⟨x,hx⟩:∃ x,x=d1.getD (k'+1) 0:=⟨_,rfl⟩
        obtain⟨y,hy⟩:∃ y,y=d1.getD k' 0:=⟨_,rfl⟩
        rw [<- hx] at k1;rw [<- hy] at k2;have HX:=kf hx;have HY:=kf hy;clear hx hy;have HK:=kf (show k'+1=k'+1 from rfl);obtain⟨kk,hkk⟩:∃ kk,kk=k'+1:=⟨_,rfl⟩
        rw [<- hkk] at k1 f1 hlt2 hk2 hk1 ⊢;have HKK:=kf hkk;have e1:((kk:Int)-1)=(k':Int):=by omega
        have b1:(kk:Int)<N:=by omega
        have b2:(k':Int)<N:=by omega
        have hik:(i:Int)<kk:=by omega
        clear hkk;go_upto_region 23 with fail;go_region
        go_wp2_with fail;go_roundw
        case rel =>
         have hkk:=HKK.out;subst hkk;have hsw:=HRk.out.swap (k'+1) k';rw [<- HX.out,<- HY.out] at hsw;refine⟨k',z4d d1 (k'+1) k',by omega,by omega,rfl,by rw [z39];exact hl1,hsw.drew,hSm.out.trans (Same.swap d1 a b (k'+1) k' (by omega) (by omega) (by omega)),⟨fun q h1 h2=>?_,?_,fun q h1 h2=>?_⟩,((HCk.out.setCell (p:=⟨gs,k'+1,none⟩) (fun _=>rfl) _).setCell (p:=⟨gs,k',none⟩) (fun _=>rfl) _).drew⟩
         ·rw [z12 d1 _ _ q (by omega) (by omega),if_neg (by omega)];by_cases e:q=k'+1
          ·subst e;rw [if_pos rfl];exact hQ.out.2.2 _ (by omega) (by omega)
          ·rw [if_neg e];exact hQ.out.1 q (by omega) h2
         ·rw [z12 d1 _ _ _ (by omega) (by omega),if_pos rfl];exact hQ.out.2.1
         ·rw [z12 d1 _ _ q (by omega) (by omega),if_neg (by omega),if_neg (by omega)];exact hQ.out.2.2 q h1 (by omega)
        case measure=>simp [intOf];have:=HKK.out;omega
       ·obtain rfl:i=k:=by omega
        go_wp2_with fail;go_end0;refine⟨rfl,d1,HRk.out,hSm.out,?_,HCk.out⟩;have:=HC2.out;subst this;exact y70 (i:=i) hi hj hQ.out.1 hQ.out.2.1 hQ.out.2.2 hI.out.1 hI.out.2 HS1.out
   ·have c2b:(((b:Int)-m)==1)=false:=by simp;omega
    obtain⟨mid,hmid⟩:∃ mid,mid=(a+b) / 2:=⟨_,rfl⟩
    have emid:((a:Int)+b) / 2=(mid:Int):=by omega
    obtain⟨n,hn⟩:∃ n,n=mid+m:=⟨_,rfl⟩
    have en:((mid:Int)+m)=(n:Int):=by omega
    obtain⟨p,hp⟩:∃ p,p=mid+m-1:=⟨_,rfl⟩
    have ep:((n:Int)-1)=(p:Int):=by omega
    have hmb2:a<mid/\mid<b:=by omega
    have HMID:=kf hmid;have HNN:=kf hn;have HPP:=kf hp;clear hmid hn hp;by_cases cm:mid<m
    ·have em:(mid:Int)<m:=by omega
     have es:((n:Int)-b)=((mid+m-b:Nat):Int):=by omega
     go_enter Tryz.func81,Tryz.ntmps81;go_wp2_with fail;go_loopw [20,21] (fun vi vj wr=>∃ i j:Nat,(mid+m-b)<=i/\i<=j/\j<=mid/\vi=.int .i64 i/\vj=.int .i64 j/\Hid ((i=(mid+m-b)\/key (d.getD (i-1) 0)<=key (d.getD (mid+m-i) 0))/\(j=mid\/key (d.getD (mid+m-1-j) 0)<=key (d.getD j 0)))/\Hid (∃ q,wr=w.drewN q)) (fun vi vj _=>(intOf vj).toNat-(intOf vi).toNat)
     case atStart=>exact⟨(mid+m-b),mid,by omega,by have:=HMID.out;omega,by omega,rfl,rfl,⟨.inl rfl,.inl rfl⟩,⟨0,rfl⟩⟩
     case round =>
      obtain⟨i,j,hi,hij,hj,rfl,rfl,hI,hq⟩:=hrel;have HRw:Hid (Row wr gs cap d):=by obtain⟨q,rfl⟩:=hq.out;exact HR.out.drewN q
      have HCw:Hid (Chg (fun i=>i=gs) w wr):=by obtain⟨q,rfl⟩:=hq.out;exact(Chg.refl _ _).drewN q
      by_cases hlt:i<j
      ·obtain⟨h,hh⟩:∃ h,h=(i+j) / 2:=⟨_,rfl⟩
       have heq:((i:Int)+j) / 2=(h:Int):=by omega
       have hh1:i<=h/\h<j:=by omega
       have hpc1:m<=mid+m-1-h/\mid+m-1-h<b/\h<m:=by have:=HMID.out;omega
       obtain⟨pc,hpc⟩:∃ pc,pc=mid+m-1-h:=⟨_,rfl⟩
       rw [<- hpc] at hpc1;have hpe:((p:Int)-h)=(pc:Int):=by have:=HPP.out;omega
       have HHH:=kf hh1;have HPC:=kf hpc;clear hh hh1 hpc;have e1:=HRw.out.cell h (by have:=HN.out;omega);have e2:=HRw.out.cell pc (by have:=HN.out;omega);have hcl:=kf (fun n=>HCQ.out pc h wr n (by omega) (by omega) HCw.out);have bh:(h:Int)<N:=by omega
       have ba:(pc:Int)<N:=by omega
       obtain⟨y,hy⟩:∃ y,y=d.getD h 0:=⟨_,rfl⟩
       obtain⟨x,hx⟩:∃ x,x=d.getD pc 0:=⟨_,rfl⟩
       rw [<- hy] at e1 hcl;rw [<- hx] at e2 hcl;have hcv:=HCV.out pc h (by omega) (by have:=HN.out;omega);rw [<- hx,<- hy] at hcv;have HX:=kf hx;have HY:=kf hy;clear hx hy hpc1;obtain⟨cv,hcv0⟩:∃ cv,cv=cmpv (key0 x) (key0 y):=⟨_,rfl⟩
       rw [<- hcv0] at hcl hcv;clear hcv0;by_cases hxy:key x<key y
       ·have hd:decide (cv<0)=true:=by rw [hcv];simpa using hxy
        have HXY:=kf hxy;clear hcv hxy;go_upto_region 35 with fail;go_quiet ((go_at_fn g;exact hcl.out _));go_wp2_with fail;go_roundw
        case rel =>
         refine⟨i,h,hi,by have:=HHH.out;omega,by have:=HHH.out;omega,rfl,by go_num,⟨hI.out.1,.inr ?_⟩,?_⟩
         ·have h4:=HXY.out;rw [HX.out,HY.out,HPC.out] at h4;omega
         ·obtain⟨q,hq⟩:=hq.out;exact⟨q+nq,by rw [hq,z11]⟩
        case measure=>simp [intOf];have:=HHH.out;omega
       ·have hd:decide (cv<0)=false:=by rw [hcv];simpa using hxy
        have HXY:=kf hxy;clear hcv hxy;go_upto_region 35 with fail;go_quiet ((go_at_fn g;exact hcl.out _));go_wp2_with fail;go_roundw
        case rel =>
         refine⟨h+1,j,by have:=HHH.out;omega,by have:=HHH.out;omega,hj,by go_num,rfl,⟨.inr ?_,hI.out.2⟩,?_⟩
         ·have h4:=HXY.out;rw [HX.out,HY.out,HPC.out] at h4;rw [Nat.add_sub_cancel,show mid+m-(h+1)=mid+m-1-h from by omega];omega
         ·obtain⟨q,hq⟩:=hq.out;exact⟨q+nq,by rw [hq,z11]⟩
        case measure=>simp [intOf];have:=HHH.out;omega
      ·obtain rfl:i=j:=by omega
       obtain⟨e,he⟩:∃ e,e=mid+m-i:=⟨_,rfl⟩
       have hee:((n:Int)-i)=(e:Int):=by have:=HNN.out;omega
       have HX1:Hid (∀ x y,a<=x->x<i->e<=y->y<b->key (d.getD x 0)<=key (d.getD y 0)):=by
        intro x y h1 h2 h3 h4;have hm0:=HMID.out;rcases hI.out.1 with h5|h5
        ·omega
        ·rw [<- he] at h5;exact Int.le_trans (HS1.out.le h1 (by omega) (by omega)) (Int.le_trans h5 (HS2.out.le (by omega) h3 h4))
       have HX2:Hid (∀ x y,i<=x->x<m->m<=y->y<e->key (d.getD y 0)<=key (d.getD x 0)):=by
        intro x y h1 h2 h3 h4;have hm0:=HMID.out;rcases hI.out.2 with h5|h5
        ·omega
        ·exact Int.le_trans (HS2.out.le h3 (show y<=mid+m-1-i by omega) (by omega)) (Int.le_trans h5 (HS1.out.le (by omega) h1 h2))
       have heb:m<=e/\e<=b/\a<=i/\i<=m/\mid+m=i+e:=by have:=HMID.out;omega
       have HE:=kf he;clear he;by_cases k3:i<m/\m<e
       ·obtain⟨k3a,k3b⟩:=k3;have hrot:=z7u gs cap i m e (.func (.func g) #[] lb) d wr HRw.out k3a k3b (by have:=HN.out;omega) (by have:=HN.out;omega);rw [<- HN.out] at hrot;have HROT:=kf hrot;clear hrot;have z1:(i:Int)<m:=by omega
        have z2:(m:Int)<e:=by omega
        go_upto_region 41 with(go_at_call 108;refine HROT.out.mono ?_;rintro ee w1 ⟨rfl,d1,hr1,hsm1,hf1,hc1⟩;have HR1:=kf hr1;have HSm1:=kf (hsm1.wide (a':=a) (b':=b) (by omega) (by omega));have HO1:=kf hsm1.out;have HF0:=kf hf1;have HCh1:=kf (HCw.out.trans hc1 (fun _ _ h=>h));clear hr1 hsm1 hf1 hc1)
        have HF1:Hid (∀ k,i<=k->k<e->d1.getD k 0=if k<mid then d.getD (m+(k-i)) 0 else d.getD (k-(e-m)) 0):=by
         intro k h1 h2;have:=HF0.out k h1 h2;rw [show i+(e-m)=mid from by omega] at this;exact this
        have hmain:=z3m (key:=key) (d:=d) (d1:=d1) (a:=a) (m:=m) (b:=b) (s:=i) (e:=e) (mid:=mid) (by omega) (by omega) (by omega) (by omega) (by omega) HS1.out HS2.out HX1.out HX2.out HF1.out HO1.out;have HP1:=kf hmain.1;have HP2:=kf hmain.2.1;have HP3:=kf hmain.2.2.1;have HP4:=kf hmain.2.2.2.1;have HX:=kf hmain.2.2.2.2;have HST1:=kf (z7q (m:=m) (s:=i) (e:=e) (mid:=mid) HKK.out (by omega) (by omega) (by omega) (by omega) (by omega) (by have:=HN.out;omega) HST.out HSm1.out (HG.out.same HSm1.out).get hmain HF1.out HO1.out);clear hmain;have hl1:d1.length=N:=by rw [HSm1.out.len];exact HN.out.symm
        by_cases k4:a<i/\i<mid
        ·obtain⟨k4a,k4b⟩:=k4;have hcall:=ih a i mid d1 w1 (by omega) k4a k4b (by rw [hl1];omega) (by rw [hl1];exact hL) HR1.out (HG.out.same HSm1.out) HP1.out HP2.out HST1.out (HCH.out.trans HCh1.out (fun _ _ h=>h));rw [hl1] at hcall;have HCL:=kf hcall;clear hcall;have z3:(a:Int)<i:=by omega
         have z4:(i:Int)<mid:=by omega
         go_upto_region 43 with(go_at_call 81;refine HCL.out.mono ?_;rintro ee w2 ⟨rfl,d2,hr2,hsm2,hso2,hc2⟩;have HR2:=kf hr2;have HSm2:=kf hsm2;have HSo2:=kf hso2;have HCh2:=kf (HCh1.out.trans hc2 (fun _ _ h=>h));clear hr2 hsm2 hso2 hc2);have hl2:d2.length=N:=by rw [HSm2.out.len];exact hl1
         have HST2:Hid (InTurn key0 d2):=HST1.out.same HKK.out HSm2.out (by rw [hl1];omega) ((HG.out.same HSm1.out).same HSm2.out).get HSo2.out;by_cases k5:mid<e/\e<b
         ·obtain⟨k5a,k5b⟩:=k5;have hcall:=ih mid e b d2 w2 (by omega) k5a k5b (by rw [hl2];exact hb) (by rw [hl2];exact hL) HR2.out (HG.out.same (HSm1.out.trans (HSm2.out.wide (by omega) (by omega)))) (HP3.out.congr (fun i h1 h2=>HSm2.out.out i (by omega))) (HP4.out.congr (fun i h1 h2=>HSm2.out.out i (by omega))) HST2.out (HCH.out.trans HCh2.out (fun _ _ h=>h));rw [hl2] at hcall;have HCL:=kf hcall;clear hcall;have z5:(mid:Int)<e:=by omega
          have z6:(e:Int)<b:=by omega
          go_wp2_with (go_at_call 81;refine HCL.out.mono ?_;rintro ee w3 ⟨rfl,d3,hr3,hsm3,hso3,hc3⟩;have HR3:=kf hr3;have HSm3:=kf hsm3;have HSo3:=kf hso3;have HCh3:=kf (HCh2.out.trans hc3 (fun _ _ h=>h));clear hr3 hsm3 hso3 hc3);go_end0;exact⟨rfl,d3,HR3.out,(HSm1.out.trans (HSm2.out.wide (by omega) (by omega))).trans (HSm3.out.wide (by omega) (by omega)),z03 HSm2.out HSm3.out HSo2.out HSo3.out HX.out,HCh3.out⟩
         ·have HSm3:=kf (Same.refl d2 mid b)
          have HSo3:Hid (Sorted key d2 mid b):=by
           by_cases h1:mid<e
           ·obtain rfl:e=b:=by omega
            exact HP3.out.congr (fun i h1 h2=>HSm2.out.out i (by omega))
           ·obtain rfl:e=mid:=by omega
            exact HP4.out.congr (fun i h1 h2=>HSm2.out.out i (by omega))
          by_cases h1:mid<e
          ·have z5:(mid:Int)<e:=by omega
           have z6:decide ((e:Int)<b)=false:=by simp;omega
           go_wp2_with fail
           all_goals
            go_end0;exact⟨rfl,d2,HR2.out,HSm1.out.trans (HSm2.out.wide (by omega) (by omega)),z03 HSm2.out HSm3.out HSo2.out HSo3.out HX.out,HCh2.out⟩
          ·have z5:decide ((mid:Int)<e)=false:=by simp;omega
           go_wp2_with fail
           all_goals
            go_end0;exact⟨rfl,d2,HR2.out,HSm1.out.trans (HSm2.out.wide (by omega) (by omega)),z03 HSm2.out HSm3.out HSo2.out HSo3.out HX.out,HCh2.out⟩
        ·obtain⟨d2,hd2⟩:∃ d2,d2=d1:=⟨_,rfl⟩
         obtain⟨w2,hw2⟩:∃ w2,w2=w1:=⟨_,rfl⟩
         have HR2:Hid (Row w2 gs cap d2):=by rw [hd2,hw2];exact HR1.out
         have HSm2:Hid (Same d1 d2 a mid):=by rw [hd2];exact Same.refl _ _ _
         have HCh2:Hid (Chg (fun i=>i=gs) w w2):=by rw [hw2];exact HCh1.out
         have hl2:d2.length=N:=by rw [hd2];exact hl1
         have HST2:Hid (InTurn key0 d2):=by rw [hd2];exact HST1.out
         have HSo2:Hid (Sorted key d2 a mid):=by
          rw [hd2];by_cases h1:a<i
          ·obtain rfl:i=mid:=by omega
           exact HP1.out
          ·obtain rfl:a=i:=by omega
           exact HP2.out
         by_cases h1:a<i
         ·have z3:(a:Int)<i:=by omega
          have z4:decide ((i:Int)<mid)=false:=by simp;omega
          go_upto_region 43 with fail
          all_goals
           rw [<- hw2];clear hw2 hd2;by_cases k5:mid<e/\e<b
           ·obtain⟨k5a,k5b⟩:=k5;have hcall:=ih mid e b d2 w2 (by omega) k5a k5b (by rw [hl2];exact hb) (by rw [hl2];exact hL) HR2.out (HG.out.same (HSm1.out.trans (HSm2.out.wide (by omega) (by omega)))) (HP3.out.congr (fun i h1 h2=>HSm2.out.out i (by omega))) (HP4.out.congr (fun i h1 h2=>HSm2.out.out i (by omega))) HST2.out (HCH.out.trans HCh2.out (fun _ _ h=>h));rw [hl2] at hcall;have HCL:=kf hcall;clear hcall;have z5:(mid:Int)<e:=by omega
            have z6:(e:Int)<b:=by omega
            go_wp2_with (go_at_call 81;refine HCL.out.mono ?_;rintro ee w3 ⟨rfl,d3,hr3,hsm3,hso3,hc3⟩;have HR3:=kf hr3;have HSm3:=kf hsm3;have HSo3:=kf hso3;have HCh3:=kf (HCh2.out.trans hc3 (fun _ _ h=>h));clear hr3 hsm3 hso3 hc3);go_end0;exact⟨rfl,d3,HR3.out,(HSm1.out.trans (HSm2.out.wide (by omega) (by omega))).trans (HSm3.out.wide (by omega) (by omega)),z03 HSm2.out HSm3.out HSo2.out HSo3.out HX.out,HCh3.out⟩
           ·have HSm3:=kf (Same.refl d2 mid b)
            have HSo3:Hid (Sorted key d2 mid b):=by
             by_cases h1:mid<e
             ·obtain rfl:e=b:=by omega
              exact HP3.out.congr (fun i h1 h2=>HSm2.out.out i (by omega))
             ·obtain rfl:e=mid:=by omega
              exact HP4.out.congr (fun i h1 h2=>HSm2.out.out i (by omega))
            by_cases h1:mid<e
            ·have z5:(mid:Int)<e:=by omega
             have z6:decide ((e:Int)<b)=false:=by simp;omega
             go_wp2_with fail
             all_goals
              go_end0;exact⟨rfl,d2,HR2.out,HSm1.out.trans (HSm2.out.wide (by omega) (by omega)),z03 HSm2.out HSm3.out HSo2.out HSo3.out HX.out,HCh2.out⟩
            ·have z5:decide ((mid:Int)<e)=false:=by simp;omega
             go_wp2_with fail
             all_goals
              go_end0;exact⟨rfl,d2,HR2.out,HSm1.out.trans (HSm2.out.wide (by omega) (by omega)),z03 HSm2.out HSm3.out HSo2.out HSo3.out HX.out,HCh2.out⟩
         ·have z3:decide ((a:Int)<i)=false:=by simp;omega
          go_upto_region 43 with fail
          all_goals
           rw [<- hw2];clear hw2 hd2;by_cases k5:mid<e/\e<b
           ·obtain⟨k5a,k5b⟩:=k5;have hcall:=ih mid e b d2 w2 (by omega) k5a k5b (by rw [hl2];exact hb) (by rw [hl2];exact hL) HR2.out (HG.out.same (HSm1.out.trans (HSm2.out.wide (by omega) (by omega)))) (HP3.out.congr (fun i h1 h2=>HSm2.out.out i (by omega))) (HP4.out.congr (fun i h1 h2=>HSm2.out.out i (by omega))) HST2.out (HCH.out.trans HCh2.out (fun _ _ h=>h));rw [hl2] at hcall;have HCL:=kf hcall;clear hcall;have z5:(mid:Int)<e:=by omega
            have z6:(e:Int)<b:=by omega
            go_wp2_with (go_at_call 81;refine HCL.out.mono ?_;rintro ee w3 ⟨rfl,d3,hr3,hsm3,hso3,hc3⟩;have HR3:=kf hr3;have HSm3:=kf hsm3;have HSo3:=kf hso3;have HCh3:=kf (HCh2.out.trans hc3 (fun _ _ h=>h));clear hr3 hsm3 hso3 hc3);go_end0;exact⟨rfl,d3,HR3.out,(HSm1.out.trans (HSm2.out.wide (by omega) (by omega))).trans (HSm3.out.wide (by omega) (by omega)),z03 HSm2.out HSm3.out HSo2.out HSo3.out HX.out,HCh3.out⟩
           ·have HSm3:=kf (Same.refl d2 mid b)
            have HSo3:Hid (Sorted key d2 mid b):=by
             by_cases h1:mid<e
             ·obtain rfl:e=b:=by omega
              exact HP3.out.congr (fun i h1 h2=>HSm2.out.out i (by omega))
             ·obtain rfl:e=mid:=by omega
              exact HP4.out.congr (fun i h1 h2=>HSm2.out.out i (by omega))
            by_cases h1:mid<e
            ·have z5:(mid:Int)<e:=by omega
             have z6:decide ((e:Int)<b)=false:=by simp;omega
             go_wp2_with fail
             all_goals
              go_end0;exact⟨rfl,d2,HR2.out,HSm1.out.trans (HSm2.out.wide (by omega) (by omega)),z03 HSm2.out HSm3.out HSo2.out HSo3.out HX.out,HCh2.out⟩
            ·have z5:decide ((mid:Int)<e)=false:=by simp;omega
             go_wp2_with fail
             all_goals
              go_end0;exact⟨rfl,d2,HR2.out,HSm1.out.trans (HSm2.out.wide (by omega) (by omega)),z03 HSm2.out HSm3.out HSo2.out HSo3.out HX.out,HCh2.out⟩
       ·obtain⟨d1,hd1⟩:∃ d1,d1=d:=⟨_,rfl⟩
        obtain⟨w1,hw1⟩:∃ w1,w1=wr:=⟨_,rfl⟩
        have HR1:Hid (Row w1 gs cap d1):=by rw [hd1,hw1];exact HRw.out
        have HSm1:Hid (Same d d1 a b):=by rw [hd1];exact Same.refl _ _ _
        have HCh1:Hid (Chg (fun i=>i=gs) w w1):=by rw [hw1];exact HCw.out
        have HO1:Hid (∀ k,¬(i<=k/\k<e)->d1.getD k 0=d.getD k 0):=by intro k _;rw [hd1]
        have HF1:Hid (∀ k,i<=k->k<e->d1.getD k 0=if k<mid then d.getD (m+(k-i)) 0 else d.getD (k-(e-m)) 0):=by
         intro k h1 h2;rw [hd1];by_cases h3:i<m
         ·rw [if_neg (by omega)];congr 1;omega
         ·rw [if_pos (by omega)];congr 1;omega
        by_cases h1:i<m
        ·have z1:(i:Int)<m:=by omega
         have z2:decide ((m:Int)<e)=false:=by simp;omega
         go_upto_region 41 with fail
         all_goals
          rw [<- hw1];clear hw1 hd1;have hmain:=z3m (key:=key) (d:=d) (d1:=d1) (a:=a) (m:=m) (b:=b) (s:=i) (e:=e) (mid:=mid) (by omega) (by omega) (by omega) (by omega) (by omega) HS1.out HS2.out HX1.out HX2.out HF1.out HO1.out;have HP1:=kf hmain.1;have HP2:=kf hmain.2.1;have HP3:=kf hmain.2.2.1;have HP4:=kf hmain.2.2.2.1;have HX:=kf hmain.2.2.2.2;have HST1:=kf (z7q (m:=m) (s:=i) (e:=e) (mid:=mid) HKK.out (by omega) (by omega) (by omega) (by omega) (by omega) (by have:=HN.out;omega) HST.out HSm1.out (HG.out.same HSm1.out).get hmain HF1.out HO1.out);clear hmain;have hl1:d1.length=N:=by rw [HSm1.out.len];exact HN.out.symm
          by_cases k4:a<i/\i<mid
          ·obtain⟨k4a,k4b⟩:=k4;have hcall:=ih a i mid d1 w1 (by omega) k4a k4b (by rw [hl1];omega) (by rw [hl1];exact hL) HR1.out (HG.out.same HSm1.out) HP1.out HP2.out HST1.out (HCH.out.trans HCh1.out (fun _ _ h=>h));rw [hl1] at hcall;have HCL:=kf hcall;clear hcall;have z3:(a:Int)<i:=by omega
           have z4:(i:Int)<mid:=by omega
           go_upto_region 43 with(go_at_call 81;refine HCL.out.mono ?_;rintro ee w2 ⟨rfl,d2,hr2,hsm2,hso2,hc2⟩;have HR2:=kf hr2;have HSm2:=kf hsm2;have HSo2:=kf hso2;have HCh2:=kf (HCh1.out.trans hc2 (fun _ _ h=>h));clear hr2 hsm2 hso2 hc2);have hl2:d2.length=N:=by rw [HSm2.out.len];exact hl1
           have HST2:Hid (InTurn key0 d2):=HST1.out.same HKK.out HSm2.out (by rw [hl1];omega) ((HG.out.same HSm1.out).same HSm2.out).get HSo2.out;by_cases k5:mid<e/\e<b
           ·obtain⟨k5a,k5b⟩:=k5;have hcall:=ih mid e b d2 w2 (by omega) k5a k5b (by rw [hl2];exact hb) (by rw [hl2];exact hL) HR2.out (HG.out.same (HSm1.out.trans (HSm2.out.wide (by omega) (by omega)))) (HP3.out.congr (fun i h1 h2=>HSm2.out.out i (by omega))) (HP4.out.congr (fun i h1 h2=>HSm2.out.out i (by omega))) HST2.out (HCH.out.trans HCh2.out (fun _ _ h=>h));rw [hl2] at hcall;have HCL:=kf hcall;clear hcall;have z5:(mid:Int)<e:=by omega
            have z6:(e:Int)<b:=by omega
            go_wp2_with (go_at_call 81;refine HCL.out.mono ?_;rintro ee w3 ⟨rfl,d3,hr3,hsm3,hso3,hc3⟩;have HR3:=kf hr3;have HSm3:=kf hsm3;have HSo3:=kf hso3;have HCh3:=kf (HCh2.out.trans hc3 (fun _ _ h=>h));clear hr3 hsm3 hso3 hc3);go_end0;exact⟨rfl,d3,HR3.out,(HSm1.out.trans (HSm2.out.wide (by omega) (by omega))).trans (HSm3.out.wide (by omega) (by omega)),z03 HSm2.out HSm3.out HSo2.out HSo3.out HX.out,HCh3.out⟩
           ·have HSm3:=kf (Same.refl d2 mid b)
            have HSo3:Hid (Sorted key d2 mid b):=by
             by_cases h1:mid<e
             ·obtain rfl:e=b:=by omega
              exact HP3.out.congr (fun i h1 h2=>HSm2.out.out i (by omega))
             ·obtain rfl:e=mid:=by omega
              exact HP4.out.congr (fun i h1 h2=>HSm2.out.out i (by omega))
            by_cases h1:mid<e
            ·have z5:(mid:Int)<e:=by omega
             have z6:decide ((e:Int)<b)=false:=by simp;omega
             go_wp2_with fail
             all_goals
              go_end0;exact⟨rfl,d2,HR2.out,HSm1.out.trans (HSm2.out.wide (by omega) (by omega)),z03 HSm2.out HSm3.out HSo2.out HSo3.out HX.out,HCh2.out⟩
            ·have z5:decide ((mid:Int)<e)=false:=by simp;omega
             go_wp2_with fail
             all_goals
              go_end0;exact⟨rfl,d2,HR2.out,HSm1.out.trans (HSm2.out.wide (by omega) (by omega)),z03 HSm2.out HSm3.out HSo2.out HSo3.out HX.out,HCh2.out⟩
          ·obtain⟨d2,hd2⟩:∃ d2,d2=d1:=⟨_,rfl⟩
           obtain⟨w2,hw2⟩:∃ w2,w2=w1:=⟨_,rfl⟩
           have HR2:Hid (Row w2 gs cap d2):=by rw [hd2,hw2];exact HR1.out
           have HSm2:Hid (Same d1 d2 a mid):=by rw [hd2];exact Same.refl _ _ _
           have HCh2:Hid (Chg (fun i=>i=gs) w w2):=by rw [hw2];exact HCh1.out
           have hl2:d2.length=N:=by rw [hd2];exact hl1
           have HST2:Hid (InTurn key0 d2):=by rw [hd2];exact HST1.out
           have HSo2:Hid (Sorted key d2 a mid):=by
            rw [hd2];by_cases h1:a<i
            ·obtain rfl:i=mid:=by omega
             exact HP1.out
            ·obtain rfl:a=i:=by omega
             exact HP2.out
           by_cases h1:a<i
           ·have z3:(a:Int)<i:=by omega
            have z4:decide ((i:Int)<mid)=false:=by simp;omega
            go_upto_region 43 with fail
            all_goals
             rw [<- hw2];clear hw2 hd2;by_cases k5:mid<e/\e<b
             ·obtain⟨k5a,k5b⟩:=k5;have hcall:=ih mid e b d2 w2 (by omega) k5a k5b (by rw [hl2];exact hb) (by rw [hl2];exact hL) HR2.out (HG.out.same (HSm1.out.trans (HSm2.out.wide (by omega) (by omega)))) (HP3.out.congr (fun i h1 h2=>HSm2.out.out i (by omega))) (HP4.out.congr (fun i h1 h2=>HSm2.out.out i (by omega))) HST2.out (HCH.out.trans HCh2.out (fun _ _ h=>h));rw [hl2] at hcall;have HCL:=kf hcall;clear hcall;have z5:(mid:Int)<e:=by omega
              have z6:(e:Int)<b:=by omega
              go_wp2_with (go_at_call 81;refine HCL.out.mono ?_;rintro ee w3 ⟨rfl,d3,hr3,hsm3,hso3,hc3⟩;have HR3:=kf hr3;have HSm3:=kf hsm3;have HSo3:=kf hso3;have HCh3:=kf (HCh2.out.trans hc3 (fun _ _ h=>h));clear hr3 hsm3 hso3 hc3);go_end0;exact⟨rfl,d3,HR3.out,(HSm1.out.trans (HSm2.out.wide (by omega) (by omega))).trans (HSm3.out.wide (by omega) (by omega)),z03 HSm2.out HSm3.out HSo2.out HSo3.out HX.out,HCh3.out⟩
             ·have HSm3:=kf (Same.refl d2 mid b)
              have HSo3:Hid (Sorted key d2 mid b):=by
               by_cases h1:mid<e
               ·obtain rfl:e=b:=by omega
                exact HP3.out.congr (fun i h1 h2=>HSm2.out.out i (by omega))
               ·obtain rfl:e=mid:=by omega
                exact HP4.out.congr (fun i h1 h2=>HSm2.out.out i (by omega))
              by_cases h1:mid<e
              ·have z5:(mid:Int)<e:=by omega
               have z6:decide ((e:Int)<b)=false:=by simp;omega
               go_wp2_with fail
               all_goals
                go_end0;exact⟨rfl,d2,HR2.out,HSm1.out.trans (HSm2.out.wide (by omega) (by omega)),z03 HSm2.out HSm3.out HSo2.out HSo3.out HX.out,HCh2.out⟩
              ·have z5:decide ((mid:Int)<e)=false:=by simp;omega
               go_wp2_with fail
               all_goals
                go_end0;exact⟨rfl,d2,HR2.out,HSm1.out.trans (HSm2.out.wide (by omega) (by omega)),z03 HSm2.out HSm3.out HSo2.out HSo3.out HX.out,HCh2.out⟩
           ·have z3:decide ((a:Int)<i)=false:=by simp;omega
            go_upto_region 43 with fail
            all_goals
             rw [<- hw2];clear hw2 hd2;by_cases k5:mid<e/\e<b
             ·obtain⟨k5a,k5b⟩:=k5;have hcall:=ih mid e b d2 w2 (by omega) k5a k5b (by rw [hl2];exact hb) (by rw [hl2];exact hL) HR2.out (HG.out.same (HSm1.out.trans (HSm2.out.wide (by omega) (by omega)))) (HP3.out.congr (fun i h1 h2=>HSm2.out.out i (by omega))) (HP4.out.congr (fun i h1 h2=>HSm2.out.out i (by omega))) HST2.out (HCH.out.trans HCh2.out (fun _ _ h=>h));rw [hl2] at hcall;have HCL:=kf hcall;clear hcall;have z5:(mid:Int)<e:=by omega
              have z6:(e:Int)<b:=by omega
              go_wp2_with (go_at_call 81;refine HCL.out.mono ?_;rintro ee w3 ⟨rfl,d3,hr3,hsm3,hso3,hc3⟩;have HR3:=kf hr3;have HSm3:=kf hsm3;have HSo3:=kf hso3;have HCh3:=kf (HCh2.out.trans hc3 (fun _ _ h=>h));clear hr3 hsm3 hso3 hc3);go_end0;exact⟨rfl,d3,HR3.out,(HSm1.out.trans (HSm2.out.wide (by omega) (by omega))).trans (HSm3.out.wide (by omega) (by omega)),z03 HSm2.out HSm3.out HSo2.out HSo3.out HX.out,HCh3.out⟩
             ·have HSm3:=kf (Same.refl d2 mid b)
              have HSo3:Hid (Sorted key d2 mid b):=by
               by_cases h1:mid<e
               ·obtain rfl:e=b:=by omega
                exact HP3.out.congr (fun i h1 h2=>HSm2.out.out i (by omega))
               ·obtain rfl:e=mid:=by omega
                exact HP4.out.congr (fun i h1 h2=>HSm2.out.out i (by omega))
              by_cases h1:mid<e
              ·have z5:(mid:Int)<e:=by omega
               have z6:decide ((e:Int)<b)=false:=by simp;omega
               go_wp2_with fail
               all_goals
                go_end0;exact⟨rfl,d2,HR2.out,HSm1.out.trans (HSm2.out.wide (by omega) (by omega)),z03 HSm2.out HSm3.out HSo2.out HSo3.out HX.out,HCh2.out⟩
              ·have z5:decide ((mid:Int)<e)=false:=by simp;omega
               go_wp2_with fail
               all_goals
                go_end0;exact⟨rfl,d2,HR2.out,HSm1.out.trans (HSm2.out.wide (by omega) (by omega)),z03 HSm2.out HSm3.out HSo2.out HSo3.out HX.out,HCh2.out⟩
        ·have z1:decide ((i:Int)<m)=false:=by simp;omega
         go_upto_region 41 with fail
         all_goals
          rw [<- hw1];clear hw1 hd1;have hmain:=z3m (key:=key) (d:=d) (d1:=d1) (a:=a) (m:=m) (b:=b) (s:=i) (e:=e) (mid:=mid) (by omega) (by omega) (by omega) (by omega) (by omega) HS1.out HS2.out HX1.out HX2.out HF1.out HO1.out;have HP1:=kf hmain.1;have HP2:=kf hmain.2.1;have HP3:=kf hmain.2.2.1;have HP4:=kf hmain.2.2.2.1;have HX:=kf hmain.2.2.2.2;have HST1:=kf (z7q (m:=m) (s:=i) (e:=e) (mid:=mid) HKK.out (by omega) (by omega) (by omega) (by omega) (by omega) (by have:=HN.out;omega) HST.out HSm1.out (HG.out.same HSm1.out).get hmain HF1.out HO1.out);clear hmain;have hl1:d1.length=N:=by rw [HSm1.out.len];exact HN.out.symm
          by_cases k4:a<i/\i<mid
          ·obtain⟨k4a,k4b⟩:=k4;have hcall:=ih a i mid d1 w1 (by omega) k4a k4b (by rw [hl1];omega) (by rw [hl1];exact hL) HR1.out (HG.out.same HSm1.out) HP1.out HP2.out HST1.out (HCH.out.trans HCh1.out (fun _ _ h=>h));rw [hl1] at hcall;have HCL:=kf hcall;clear hcall;have z3:(a:Int)<i:=by omega
           have z4:(i:Int)<mid:=by omega
           go_upto_region 43 with(go_at_call 81;refine HCL.out.mono ?_;rintro ee w2 ⟨rfl,d2,hr2,hsm2,hso2,hc2⟩;have HR2:=kf hr2;have HSm2:=kf hsm2;have HSo2:=kf hso2;have HCh2:=kf (HCh1.out.trans hc2 (fun _ _ h=>h));clear hr2 hsm2 hso2 hc2);have hl2:d2.length=N:=by rw [HSm2.out.len];exact hl1
           have HST2:Hid (InTurn key0 d2):=HST1.out.same HKK.out HSm2.out (by rw [hl1];omega) ((HG.out.same HSm1.out).same HSm2.out).get HSo2.out;by_cases k5:mid<e/\e<b
           ·obtain⟨k5a,k5b⟩:=k5;have hcall:=ih mid e b d2 w2 (by omega) k5a k5b (by rw [hl2];exact hb) (by rw [hl2];exact hL) HR2.out (HG.out.same (HSm1.out.trans (HSm2.out.wide (by omega) (by omega)))) (HP3.out.congr (fun i h1 h2=>HSm2.out.out i (by omega))) (HP4.out.congr (fun i h1 h2=>HSm2.out.out i (by omega))) HST2.out (HCH.out.trans HCh2.out (fun _ _ h=>h));rw [hl2] at hcall;have HCL:=kf hcall;clear hcall;have z5:(mid:Int)<e:=by omega
            have z6:(e:Int)<b:=by omega
            go_wp2_with (go_at_call 81;refine HCL.out.mono ?_;rintro ee w3 ⟨rfl,d3,hr3,hsm3,hso3,hc3⟩;have HR3:=kf hr3;have HSm3:=kf hsm3;have HSo3:=kf hso3;have HCh3:=kf (HCh2.out.trans hc3 (fun _ _ h=>h));clear hr3 hsm3 hso3 hc3);go_end0;exact⟨rfl,d3,HR3.out,(HSm1.out.trans (HSm2.out.wide (by omega) (by omega))).trans (HSm3.out.wide (by omega) (by omega)),z03 HSm2.out HSm3.out HSo2.out HSo3.out HX.out,HCh3.out⟩
           ·have HSm3:=kf (Same.refl d2 mid b)
            have HSo3:Hid (Sorted key d2 mid b):=by
             by_cases h1:mid<e
             ·obtain rfl:e=b:=by omega
              exact HP3.out.congr (fun i h1 h2=>HSm2.out.out i (by omega))
             ·obtain rfl:e=mid:=by omega
              exact HP4.out.congr (fun i h1 h2=>HSm2.out.out i (by omega))
            by_cases h1:mid<e
            ·have z5:(mid:Int)<e:=by omega
             have z6:decide ((e:Int)<b)=false:=by simp;omega
             go_wp2_with fail
             all_goals
              go_end0;exact⟨rfl,d2,HR2.out,HSm1.out.trans (HSm2.out.wide (by omega) (by omega)),z03 HSm2.out HSm3.out HSo2.out HSo3.out HX.out,HCh2.out⟩
            ·have z5:decide ((mid:Int)<e)=false:=by simp;omega
             go_wp2_with fail
             all_goals
              go_end0;exact⟨rfl,d2,HR2.out,HSm1.out.trans (HSm2.out.wide (by omega) (by omega)),z03 HSm2.out HSm3.out HSo2.out HSo3.out HX.out,HCh2.out⟩
          ·obtain⟨d2,hd2⟩:∃ d2,d2=d1:=⟨_,rfl⟩
           obtain⟨w2,hw2⟩:∃ w2,w2=w1:=⟨_,rfl⟩
           have HR2:Hid (Row w2 gs cap d2):=by rw [hd2,hw2];exact HR1.out
           have HSm2:Hid (Same d1 d2 a mid):=by rw [hd2];exact Same.refl _ _ _
           have HCh2:Hid (Chg (fun i=>i=gs) w w2):=by rw [hw2];exact HCh1.out
           have hl2:d2.length=N:=by rw [hd2];exact hl1
           have HST2:Hid (InTurn key0 d2):=by rw [hd2];exact HST1.out
           have HSo2:Hid (Sorted key d2 a mid):=by
            rw [hd2];by_cases h1:a<i
            ·obtain rfl:i=mid:=by omega
             exact HP1.out
            ·obtain rfl:a=i:=by omega
             exact HP2.out
           by_cases h1:a<i
           ·have z3:(a:Int)<i:=by omega
            have z4:decide ((i:Int)<mid)=false:=by simp;omega
            go_upto_region 43 with fail
            all_goals
             rw [<- hw2];clear hw2 hd2;by_cases k5:mid<e/\e<b
             ·obtain⟨k5a,k5b⟩:=k5;have hcall:=ih mid e b d2 w2 (by omega) k5a k5b (by rw [hl2];exact hb) (by rw [hl2];exact hL) HR2.out (HG.out.same (HSm1.out.trans (HSm2.out.wide (by omega) (by omega)))) (HP3.out.congr (fun i h1 h2=>HSm2.out.out i (by omega))) (HP4.out.congr (fun i h1 h2=>HSm2.out.out i (by omega))) HST2.out (HCH.out.trans HCh2.out (fun _ _ h=>h));rw [hl2] at hcall;have HCL:=kf hcall;clear hcall;have z5:(mid:Int)<e:=by omega
              have z6:(e:Int)<b:=by omega
              go_wp2_with (go_at_call 81;refine HCL.out.mono ?_;rintro ee w3 ⟨rfl,d3,hr3,hsm3,hso3,hc3⟩;have HR3:=kf hr3;have HSm3:=kf hsm3;have HSo3:=kf hso3;have HCh3:=kf (HCh2.out.trans hc3 (fun _ _ h=>h));clear hr3 hsm3 hso3 hc3);go_end0;exact⟨rfl,d3,HR3.out,(HSm1.out.trans (HSm2.out.wide (by omega) (by omega))).trans (HSm3.out.wide (by omega) (by omega)),z03 HSm2.out HSm3.out HSo2.out HSo3.out HX.out,HCh3.out⟩
             ·have HSm3:=kf (Same.refl d2 mid b)
              have HSo3:Hid (Sorted key d2 mid b):=by
               by_cases h1:mid<e
               ·obtain rfl:e=b:=by omega
                exact HP3.out.congr (fun i h1 h2=>HSm2.out.out i (by omega))
               ·obtain rfl:e=mid:=by omega
                exact HP4.out.congr (fun i h1 h2=>HSm2.out.out i (by omega))
              by_cases h1:mid<e
              ·have z5:(mid:Int)<e:=by omega
               have z6:decide ((e:Int)<b)=false:=by simp;omega
               go_wp2_with fail
               all_goals
                go_end0;exact⟨rfl,d2,HR2.out,HSm1.out.trans (HSm2.out.wide (by omega) (by omega)),z03 HSm2.out HSm3.out HSo2.out HSo3.out HX.out,HCh2.out⟩
              ·have z5:decide ((mid:Int)<e)=false:=by simp;omega
               go_wp2_with fail
               all_goals
                go_end0;exact⟨rfl,d2,HR2.out,HSm1.out.trans (HSm2.out.wide (by omega) (by omega)),z03 HSm2.out HSm3.out HSo2.out HSo3.out HX.out,HCh2.out⟩
           ·have z3:decide ((a:Int)<i)=false:=by simp;omega
            go_upto_region 43 with fail
            all_goals
             rw [<- hw2];clear hw2 hd2;by_cases k5:mid<e/\e<b
             ·obtain⟨k5a,k5b⟩:=k5;have hcall:=ih mid e b d2 w2 (by omega) k5a k5b (by rw [hl2];exact hb) (by rw [hl2];exact hL) HR2.out (HG.out.same (HSm1.out.trans (HSm2.out.wide (by omega) (by omega)))) (HP3.out.congr (fun i h1 h2=>HSm2.out.out i (by omega))) (HP4.out.congr (fun i h1 h2=>HSm2.out.out i (by omega))) HST2.out (HCH.out.trans HCh2.out (fun _ _ h=>h));rw [hl2] at hcall;have HCL:=kf hcall;clear hcall;have z5:(mid:Int)<e:=by omega
              have z6:(e:Int)<b:=by omega
              go_wp2_with (go_at_call 81;refine HCL.out.mono ?_;rintro ee w3 ⟨rfl,d3,hr3,hsm3,hso3,hc3⟩;have HR3:=kf hr3;have HSm3:=kf hsm3;have HSo3:=kf hso3;have HCh3:=kf (HCh2.out.trans hc3 (fun _ _ h=>h));clear hr3 hsm3 hso3 hc3);go_end0;exact⟨rfl,d3,HR3.out,(HSm1.out.trans (HSm2.out.wide (by omega) (by omega))).trans (HSm3.out.wide (by omega) (by omega)),z03 HSm2.out HSm3.out HSo2.out HSo3.out HX.out,HCh3.out⟩
             ·have HSm3:=kf (Same.refl d2 mid b)
              have HSo3:Hid (Sorted key d2 mid b):=by
               by_cases h1:mid<e
               ·obtain rfl:e=b:=by omega
                exact HP3.out.congr (fun i h1 h2=>HSm2.out.out i (by omega))
               ·obtain rfl:e=mid:=by omega
                exact HP4.out.congr (fun i h1 h2=>HSm2.out.out i (by omega))
              by_cases h1:mid<e
              ·have z5:(mid:Int)<e:=by omega
               have z6:decide ((e:Int)<b)=false:=by simp;omega
               go_wp2_with fail
               all_goals
                go_end0;exact⟨rfl,d2,HR2.out,HSm1.out.trans (HSm2.out.wide (by omega) (by omega)),z03 HSm2.out HSm3.out HSo2.out HSo3.out HX.out,HCh2.out⟩
              ·have z5:decide ((mid:Int)<e)=false:=by simp;omega
               go_wp2_with fail
               all_goals
                go_end0;exact⟨rfl,d2,HR2.out,HSm1.out.trans (HSm2.out.wide (by omega) (by omega)),z03 HSm2.out HSm3.out HSo2.out HSo3.out HX.out,HCh2.out⟩
    ·have em:decide ((mid:Int)<m)=false:=by simp;omega
     go_enter Tryz.func81,Tryz.ntmps81;go_wp2_with fail;go_loopw [20,21] (fun vi vj wr=>∃ i j:Nat,a<=i/\i<=j/\j<=m/\vi=.int .i64 i/\vj=.int .i64 j/\Hid ((i=a\/key (d.getD (i-1) 0)<=key (d.getD (mid+m-i) 0))/\(j=m\/key (d.getD (mid+m-1-j) 0)<=key (d.getD j 0)))/\Hid (∃ q,wr=w.drewN q)) (fun vi vj _=>(intOf vj).toNat-(intOf vi).toNat)
     case atStart=>exact⟨a,m,by omega,by have:=HMID.out;omega,by omega,rfl,rfl,⟨.inl rfl,.inl rfl⟩,⟨0,rfl⟩⟩
     case round =>
      obtain⟨i,j,hi,hij,hj,rfl,rfl,hI,hq⟩:=hrel;have HRw:Hid (Row wr gs cap d):=by obtain⟨q,rfl⟩:=hq.out;exact HR.out.drewN q
      have HCw:Hid (Chg (fun i=>i=gs) w wr):=by obtain⟨q,rfl⟩:=hq.out;exact(Chg.refl _ _).drewN q
      by_cases hlt:i<j
      ·obtain⟨h,hh⟩:∃ h,h=(i+j) / 2:=⟨_,rfl⟩
       have heq:((i:Int)+j) / 2=(h:Int):=by omega
       have hh1:i<=h/\h<j:=by omega
       have hpc1:m<=mid+m-1-h/\mid+m-1-h<b/\h<m:=by have:=HMID.out;omega
       obtain⟨pc,hpc⟩:∃ pc,pc=mid+m-1-h:=⟨_,rfl⟩
       rw [<- hpc] at hpc1;have hpe:((p:Int)-h)=(pc:Int):=by have:=HPP.out;omega
       have HHH:=kf hh1;have HPC:=kf hpc;clear hh hh1 hpc;have e1:=HRw.out.cell h (by have:=HN.out;omega);have e2:=HRw.out.cell pc (by have:=HN.out;omega);have hcl:=kf (fun n=>HCQ.out pc h wr n (by omega) (by omega) HCw.out);have bh:(h:Int)<N:=by omega
       have ba:(pc:Int)<N:=by omega
       obtain⟨y,hy⟩:∃ y,y=d.getD h 0:=⟨_,rfl⟩
       obtain⟨x,hx⟩:∃ x,x=d.getD pc 0:=⟨_,rfl⟩
       rw [<- hy] at e1 hcl;rw [<- hx] at e2 hcl;have hcv:=HCV.out pc h (by omega) (by have:=HN.out;omega);rw [<- hx,<- hy] at hcv;have HX:=kf hx;have HY:=kf hy;clear hx hy hpc1;obtain⟨cv,hcv0⟩:∃ cv,cv=cmpv (key0 x) (key0 y):=⟨_,rfl⟩
       rw [<- hcv0] at hcl hcv;clear hcv0;by_cases hxy:key x<key y
       ·have hd:decide (cv<0)=true:=by rw [hcv];simpa using hxy
        have HXY:=kf hxy;clear hcv hxy;go_upto_region 35 with fail;go_quiet ((go_at_fn g;exact hcl.out _));go_wp2_with fail;go_roundw
        case rel =>
         refine⟨i,h,hi,by have:=HHH.out;omega,by have:=HHH.out;omega,rfl,by go_num,⟨hI.out.1,.inr ?_⟩,?_⟩
         ·have h4:=HXY.out;rw [HX.out,HY.out,HPC.out] at h4;omega
         ·obtain⟨q,hq⟩:=hq.out;exact⟨q+nq,by rw [hq,z11]⟩
        case measure=>simp [intOf];have:=HHH.out;omega
       ·have hd:decide (cv<0)=false:=by rw [hcv];simpa using hxy
        have HXY:=kf hxy;clear hcv hxy;go_upto_region 35 with fail;go_quiet ((go_at_fn g;exact hcl.out _));go_wp2_with fail;go_roundw
        case rel =>
         refine⟨h+1,j,by have:=HHH.out;omega,by have:=HHH.out;omega,hj,by go_num,rfl,⟨.inr ?_,hI.out.2⟩,?_⟩
         ·have h4:=HXY.out;rw [HX.out,HY.out,HPC.out] at h4;rw [Nat.add_sub_cancel,show mid+m-(h+1)=mid+m-1-h from by omega];omega
         ·obtain⟨q,hq⟩:=hq.out;exact⟨q+nq,by rw [hq,z11]⟩
        case measure=>simp [intOf];have:=HHH.out;omega
      ·obtain rfl:i=j:=by omega
       obtain⟨e,he⟩:∃ e,e=mid+m-i:=⟨_,rfl⟩
       have hee:((n:Int)-i)=(e:Int):=by have:=HNN.out;omega
       have HX1:Hid (∀ x y,a<=x->x<i->e<=y->y<b->key (d.getD x 0)<=key (d.getD y 0)):=by
        intro x y h1 h2 h3 h4;have hm0:=HMID.out;rcases hI.out.1 with h5|h5
        ·omega
        ·rw [<- he] at h5;exact Int.le_trans (HS1.out.le h1 (by omega) (by omega)) (Int.le_trans h5 (HS2.out.le (by omega) h3 h4))
       have HX2:Hid (∀ x y,i<=x->x<m->m<=y->y<e->key (d.getD y 0)<=key (d.getD x 0)):=by
        intro x y h1 h2 h3 h4;have hm0:=HMID.out;rcases hI.out.2 with h5|h5
        ·omega
        ·exact Int.le_trans (HS2.out.le h3 (show y<=mid+m-1-i by omega) (by omega)) (Int.le_trans h5 (HS1.out.le (by omega) h1 h2))
       have heb:m<=e/\e<=b/\a<=i/\i<=m/\mid+m=i+e:=by have:=HMID.out;omega
       have HE:=kf he;clear he;by_cases k3:i<m/\m<e
       ·obtain⟨k3a,k3b⟩:=k3;have hrot:=z7u gs cap i m e (.func (.func g) #[] lb) d wr HRw.out k3a k3b (by have:=HN.out;omega) (by have:=HN.out;omega);rw [<- HN.out] at hrot;have HROT:=kf hrot;clear hrot;have z1:(i:Int)<m:=by omega
        have z2:(m:Int)<e:=by omega
        go_upto_region 41 with(go_at_call 108;refine HROT.out.mono ?_;rintro ee w1 ⟨rfl,d1,hr1,hsm1,hf1,hc1⟩;have HR1:=kf hr1;have HSm1:=kf (hsm1.wide (a':=a) (b':=b) (by omega) (by omega));have HO1:=kf hsm1.out;have HF0:=kf hf1;have HCh1:=kf (HCw.out.trans hc1 (fun _ _ h=>h));clear hr1 hsm1 hf1 hc1)
        have HF1:Hid (∀ k,i<=k->k<e->d1.getD k 0=if k<mid then d.getD (m+(k-i)) 0 else d.getD (k-(e-m)) 0):=by
         intro k h1 h2;have:=HF0.out k h1 h2;rw [show i+(e-m)=mid from by omega] at this;exact this
        have hmain:=z3m (key:=key) (d:=d) (d1:=d1) (a:=a) (m:=m) (b:=b) (s:=i) (e:=e) (mid:=mid) (by omega) (by omega) (by omega) (by omega) (by omega) HS1.out HS2.out HX1.out HX2.out HF1.out HO1.out;have HP1:=kf hmain.1;have HP2:=kf hmain.2.1;have HP3:=kf hmain.2.2.1;have HP4:=kf hmain.2.2.2.1;have HX:=kf hmain.2.2.2.2;have HST1:=kf (z7q (m:=m) (s:=i) (e:=e) (mid:=mid) HKK.out (by omega) (by omega) (by omega) (by omega) (by omega) (by have:=HN.out;omega) HST.out HSm1.out (HG.out.same HSm1.out).get hmain HF1.out HO1.out);clear hmain;have hl1:d1.length=N:=by rw [HSm1.out.len];exact HN.out.symm
        by_cases k4:a<i/\i<mid
        ·obtain⟨k4a,k4b⟩:=k4;have hcall:=ih a i mid d1 w1 (by omega) k4a k4b (by rw [hl1];omega) (by rw [hl1];exact hL) HR1.out (HG.out.same HSm1.out) HP1.out HP2.out HST1.out (HCH.out.trans HCh1.out (fun _ _ h=>h));rw [hl1] at hcall;have HCL:=kf hcall;clear hcall;have z3:(a:Int)<i:=by omega
         have z4:(i:Int)<mid:=by omega
         go_upto_region 43 with(go_at_call 81;refine HCL.out.mono ?_;rintro ee w2 ⟨rfl,d2,hr2,hsm2,hso2,hc2⟩;have HR2:=kf hr2;have HSm2:=kf hsm2;have HSo2:=kf hso2;have HCh2:=kf (HCh1.out.trans hc2 (fun _ _ h=>h));clear hr2 hsm2 hso2 hc2);have hl2:d2.length=N:=by rw [HSm2.out.len];exact hl1
         have HST2:Hid (InTurn key0 d2):=HST1.out.same HKK.out HSm2.out (by rw [hl1];omega) ((HG.out.same HSm1.out).same HSm2.out).get HSo2.out;by_cases k5:mid<e/\e<b
         ·obtain⟨k5a,k5b⟩:=k5;have hcall:=ih mid e b d2 w2 (by omega) k5a k5b (by rw [hl2];exact hb) (by rw [hl2];exact hL) HR2.out (HG.out.same (HSm1.out.trans (HSm2.out.wide (by omega) (by omega)))) (HP3.out.congr (fun i h1 h2=>HSm2.out.out i (by omega))) (HP4.out.congr (fun i h1 h2=>HSm2.out.out i (by omega))) HST2.out (HCH.out.trans HCh2.out (fun _ _ h=>h));rw [hl2] at hcall;have HCL:=kf hcall;clear hcall;have z5:(mid:Int)<e:=by omega
          have z6:(e:Int)<b:=by omega
          go_wp2_with (go_at_call 81;refine HCL.out.mono ?_;rintro ee w3 ⟨rfl,d3,hr3,hsm3,hso3,hc3⟩;have HR3:=kf hr3;have HSm3:=kf hsm3;have HSo3:=kf hso3;have HCh3:=kf (HCh2.out.trans hc3 (fun _ _ h=>h));clear hr3 hsm3 hso3 hc3);go_end0;exact⟨rfl,d3,HR3.out,(HSm1.out.trans (HSm2.out.wide (by omega) (by omega))).trans (HSm3.out.wide (by omega) (by omega)),z03 HSm2.out HSm3.out HSo2.out HSo3.out HX.out,HCh3.out⟩
         ·have HSm3:=kf (Same.refl d2 mid b)
          have HSo3:Hid (Sorted key d2 mid b):=by
           by_cases h1:mid<e
           ·obtain rfl:e=b:=by omega
            exact HP3.out.congr (fun i h1 h2=>HSm2.out.out i (by omega))
           ·obtain rfl:e=mid:=by omega
            exact HP4.out.congr (fun i h1 h2=>HSm2.out.out i (by omega))
          by_cases h1:mid<e
          ·have z5:(mid:Int)<e:=by omega
           have z6:decide ((e:Int)<b)=false:=by simp;omega
           go_wp2_with fail
           all_goals
            go_end0;exact⟨rfl,d2,HR2.out,HSm1.out.trans (HSm2.out.wide (by omega) (by omega)),z03 HSm2.out HSm3.out HSo2.out HSo3.out HX.out,HCh2.out⟩
          ·have z5:decide ((mid:Int)<e)=false:=by simp;omega
           go_wp2_with fail
           all_goals
            go_end0;exact⟨rfl,d2,HR2.out,HSm1.out.trans (HSm2.out.wide (by omega) (by omega)),z03 HSm2.out HSm3.out HSo2.out HSo3.out HX.out,HCh2.out⟩
        ·obtain⟨d2,hd2⟩:∃ d2,d2=d1:=⟨_,rfl⟩
         obtain⟨w2,hw2⟩:∃ w2,w2=w1:=⟨_,rfl⟩
         have HR2:Hid (Row w2 gs cap d2):=by rw [hd2,hw2];exact HR1.out
         have HSm2:Hid (Same d1 d2 a mid):=by rw [hd2];exact Same.refl _ _ _
         have HCh2:Hid (Chg (fun i=>i=gs) w w2):=by rw [hw2];exact HCh1.out
         have hl2:d2.length=N:=by rw [hd2];exact hl1
         have HST2:Hid (InTurn key0 d2):=by rw [hd2];exact HST1.out
         have HSo2:Hid (Sorted key d2 a mid):=by
          rw [hd2];by_cases h1:a<i
          ·obtain rfl:i=mid:=by omega
           exact HP1.out
          ·obtain rfl:a=i:=by omega
           exact HP2.out
         by_cases h1:a<i
         ·have z3:(a:Int)<i:=by omega
          have z4:decide ((i:Int)<mid)=false:=by simp;omega
          go_upto_region 43 with fail
          all_goals
           rw [<- hw2];clear hw2 hd2;by_cases k5:mid<e/\e<b
           ·obtain⟨k5a,k5b⟩:=k5;have hcall:=ih mid e b d2 w2 (by omega) k5a k5b (by rw [hl2];exact hb) (by rw [hl2];exact hL) HR2.out (HG.out.same (HSm1.out.trans (HSm2.out.wide (by omega) (by omega)))) (HP3.out.congr (fun i h1 h2=>HSm2.out.out i (by omega))) (HP4.out.congr (fun i h1 h2=>HSm2.out.out i (by omega))) HST2.out (HCH.out.trans HCh2.out (fun _ _ h=>h));rw [hl2] at hcall;have HCL:=kf hcall;clear hcall;have z5:(mid:Int)<e:=by omega
            have z6:(e:Int)<b:=by omega
            go_wp2_with (go_at_call 81;refine HCL.out.mono ?_;rintro ee w3 ⟨rfl,d3,hr3,hsm3,hso3,hc3⟩;have HR3:=kf hr3;have HSm3:=kf hsm3;have HSo3:=kf hso3;have HCh3:=kf (HCh2.out.trans hc3 (fun _ _ h=>h));clear hr3 hsm3 hso3 hc3);go_end0;exact⟨rfl,d3,HR3.out,(HSm1.out.trans (HSm2.out.wide (by omega) (by omega))).trans (HSm3.out.wide (by omega) (by omega)),z03 HSm2.out HSm3.out HSo2.out HSo3.out HX.out,HCh3.out⟩
           ·have HSm3:=kf (Same.refl d2 mid b)
            have HSo3:Hid (Sorted key d2 mid b):=by
             by_cases h1:mid<e
             ·obtain rfl:e=b:=by omega
              exact HP3.out.congr (fun i h1 h2=>HSm2.out.out i (by omega))
             ·obtain rfl:e=mid:=by omega
              exact HP4.out.congr (fun i h1 h2=>HSm2.out.out i (by omega))
            by_cases h1:mid<e
            ·have z5:(mid:Int)<e:=by omega
             have z6:decide ((e:Int)<b)=false:=by simp;omega
             go_wp2_with fail
             all_goals
              go_end0;exact⟨rfl,d2,HR2.out,HSm1.out.trans (HSm2.out.wide (by omega) (by omega)),z03 HSm2.out HSm3.out HSo2.out HSo3.out HX.out,HCh2.out⟩
            ·have z5:decide ((mid:Int)<e)=false:=by simp;omega
             go_wp2_with fail
             all_goals
              go_end0;exact⟨rfl,d2,HR2.out,HSm1.out.trans (HSm2.out.wide (by omega) (by omega)),z03 HSm2.out HSm3.out HSo2.out HSo3.out HX.out,HCh2.out⟩
         ·have z3:decide ((a:Int)<i)=false:=by simp;omega
          go_upto_region 43 with fail
          all_goals
           rw [<- hw2];clear hw2 hd2;by_cases k5:mid<e/\e<b
           ·obtain⟨k5a,k5b⟩:=k5;have hcall:=ih mid e b d2 w2 (by omega) k5a k5b (by rw [hl2];exact hb) (by rw [hl2];exact hL) HR2.out (HG.out.same (HSm1.out.trans (HSm2.out.wide (by omega) (by omega)))) (HP3.out.congr (fun i h1 h2=>HSm2.out.out i (by omega))) (HP4.out.congr (fun i h1 h2=>HSm2.out.out i (by omega))) HST2.out (HCH.out.trans HCh2.out (fun _ _ h=>h));rw [hl2] at hcall;have HCL:=kf hcall;clear hcall;have z5:(mid:Int)<e:=by omega
            have z6:(e:Int)<b:=by omega
            go_wp2_with (go_at_call 81;refine HCL.out.mono ?_;rintro ee w3 ⟨rfl,d3,hr3,hsm3,hso3,hc3⟩;have HR3:=kf hr3;have HSm3:=kf hsm3;have HSo3:=kf hso3;have HCh3:=kf (HCh2.out.trans hc3 (fun _ _ h=>h));clear hr3 hsm3 hso3 hc3);go_end0;exact⟨rfl,d3,HR3.out,(HSm1.out.trans (HSm2.out.wide (by omega) (by omega))).trans (HSm3.out.wide (by omega) (by omega)),z03 HSm2.out HSm3.out HSo2.out HSo3.out HX.out,HCh3.out⟩
           ·have HSm3:=kf (Same.refl d2 mid b)
            have HSo3:Hid (Sorted key d2 mid b):=by
             by_cases h1:mid<e
             ·obtain rfl:e=b:=by omega
              exact HP3.out.congr (fun i h1 h2=>HSm2.out.out i (by omega))
             ·obtain rfl:e=mid:=by omega
              exact HP4.out.congr (fun i h1 h2=>HSm2.out.out i (by omega))
            by_cases h1:mid<e
            ·have z5:(mid:Int)<e:=by omega
             have z6:decide ((e:Int)<b)=false:=by simp;omega
             go_wp2_with fail
             all_goals
              go_end0;exact⟨rfl,d2,HR2.out,HSm1.out.trans (HSm2.out.wide (by omega) (by omega)),z03 HSm2.out HSm3.out HSo2.out HSo3.out HX.out,HCh2.out⟩
            ·have z5:decide ((mid:Int)<e)=false:=by simp;omega
             go_wp2_with fail
             all_goals
              go_end0;exact⟨rfl,d2,HR2.out,HSm1.out.trans (HSm2.out.wide (by omega) (by omega)),z03 HSm2.out HSm3.out HSo2.out HSo3.out HX.out,HCh2.out⟩
       ·obtain⟨d1,hd1⟩:∃ d1,d1=d:=⟨_,rfl⟩
        obtain⟨w1,hw1⟩:∃ w1,w1=wr:=⟨_,rfl⟩
        have HR1:Hid (Row w1 gs cap d1):=by rw [hd1,hw1];exact HRw.out
        have HSm1:Hid (Same d d1 a b):=by rw [hd1];exact Same.refl _ _ _
        have HCh1:Hid (Chg (fun i=>i=gs) w w1):=by rw [hw1];exact HCw.out
        have HO1:Hid (∀ k,¬(i<=k/\k<e)->d1.getD k 0=d.getD k 0):=by intro k _;rw [hd1]
        have HF1:Hid (∀ k,i<=k->k<e->d1.getD k 0=if k<mid then d.getD (m+(k-i)) 0 else d.getD (k-(e-m)) 0):=by
         intro k h1 h2;rw [hd1];by_cases h3:i<m
         ·rw [if_neg (by omega)];congr 1;omega
         ·rw [if_pos (by omega)];congr 1;omega
        by_cases h1:i<m
        ·have z1:(i:Int)<m:=by omega
         have z2:decide ((m:Int)<e)=false:=by simp;omega
         go_upto_region 41 with fail
         all_goals
          rw [<- hw1];clear hw1 hd1;have hmain:=z3m (key:=key) (d:=d) (d1:=d1) (a:=a) (m:=m) (b:=b) (s:=i) (e:=e) (mid:=mid) (by omega) (by omega) (by omega) (by omega) (by omega) HS1.out HS2.out HX1.out HX2.out HF1.out HO1.out;have HP1:=kf hmain.1;have HP2:=kf hmain.2.1;have HP3:=kf hmain.2.2.1;have HP4:=kf hmain.2.2.2.1;have HX:=kf hmain.2.2.2.2;have HST1:=kf (z7q (m:=m) (s:=i) (e:=e) (mid:=mid) HKK.out (by omega) (by omega) (by omega) (by omega) (by omega) (by have:=HN.out;omega) HST.out HSm1.out (HG.out.same HSm1.out).get hmain HF1.out HO1.out);clear hmain;have hl1:d1.length=N:=by rw [HSm1.out.len];exact HN.out.symm
          by_cases k4:a<i/\i<mid
          ·obtain⟨k4a,k4b⟩:=k4;have hcall:=ih a i mid d1 w1 (by omega) k4a k4b (by rw [hl1];omega) (by rw [hl1];exact hL) HR1.out (HG.out.same HSm1.out) HP1.out HP2.out HST1.out (HCH.out.trans HCh1.out (fun _ _ h=>h));rw [hl1] at hcall;have HCL:=kf hcall;clear hcall;have z3:(a:Int)<i:=by omega
           have z4:(i:Int)<mid:=by omega
           go_upto_region 43 with(go_at_call 81;refine HCL.out.mono ?_;rintro ee w2 ⟨rfl,d2,hr2,hsm2,hso2,hc2⟩;have HR2:=kf hr2;have HSm2:=kf hsm2;have HSo2:=kf hso2;have HCh2:=kf (HCh1.out.trans hc2 (fun _ _ h=>h));clear hr2 hsm2 hso2 hc2);have hl2:d2.length=N:=by rw [HSm2.out.len];exact hl1
           have HST2:Hid (InTurn key0 d2):=HST1.out.same HKK.out HSm2.out (by rw [hl1];omega) ((HG.out.same HSm1.out).same HSm2.out).get HSo2.out;by_cases k5:mid<e/\e<b
           ·obtain⟨k5a,k5b⟩:=k5;have hcall:=ih mid e b d2 w2 (by omega) k5a k5b (by rw [hl2];exact hb) (by rw [hl2];exact hL) HR2.out (HG.out.same (HSm1.out.trans (HSm2.out.wide (by omega) (by omega)))) (HP3.out.congr (fun i h1 h2=>HSm2.out.out i (by omega))) (HP4.out.congr (fun i h1 h2=>HSm2.out.out i (by omega))) HST2.out (HCH.out.trans HCh2.out (fun _ _ h=>h));rw [hl2] at hcall;have HCL:=kf hcall;clear hcall;have z5:(mid:Int)<e:=by omega
            have z6:(e:Int)<b:=by omega
            go_wp2_with (go_at_call 81;refine HCL.out.mono ?_;rintro ee w3 ⟨rfl,d3,hr3,hsm3,hso3,hc3⟩;have HR3:=kf hr3;have HSm3:=kf hsm3;have HSo3:=kf hso3;have HCh3:=kf (HCh2.out.trans hc3 (fun _ _ h=>h));clear hr3 hsm3 hso3 hc3);go_end0;exact⟨rfl,d3,HR3.out,(HSm1.out.trans (HSm2.out.wide (by omega) (by omega))).trans (HSm3.out.wide (by omega) (by omega)),z03 HSm2.out HSm3.out HSo2.out HSo3.out HX.out,HCh3.out⟩
           ·have HSm3:=kf (Same.refl d2 mid b)
            have HSo3:Hid (Sorted key d2 mid b):=by
             by_cases h1:mid<e
             ·obtain rfl:e=b:=by omega
              exact HP3.out.congr (fun i h1 h2=>HSm2.out.out i (by omega))
             ·obtain rfl:e=mid:=by omega
              exact HP4.out.congr (fun i h1 h2=>HSm2.out.out i (by omega))
            by_cases h1:mid<e
            ·have z5:(mid:Int)<e:=by omega
             have z6:decide ((e:Int)<b)=false:=by simp;omega
             go_wp2_with fail
             all_goals
              go_end0;exact⟨rfl,d2,HR2.out,HSm1.out.trans (HSm2.out.wide (by omega) (by omega)),z03 HSm2.out HSm3.out HSo2.out HSo3.out HX.out,HCh2.out⟩
            ·have z5:decide ((mid:Int)<e)=false:=by simp;omega
             go_wp2_with fail
             all_goals
              go_end0;exact⟨rfl,d2,HR2.out,HSm1.out.trans (HSm2.out.wide (by omega) (by omega)),z03 HSm2.out HSm3.out HSo2.out HSo3.out HX.out,HCh2.out⟩
          ·obtain⟨d2,hd2⟩:∃ d2,d2=d1:=⟨_,rfl⟩
           obtain⟨w2,hw2⟩:∃ w2,w2=w1:=⟨_,rfl⟩
           have HR2:Hid (Row w2 gs cap d2):=by rw [hd2,hw2];exact HR1.out
           have HSm2:Hid (Same d1 d2 a mid):=by rw [hd2];exact Same.refl _ _ _
           have HCh2:Hid (Chg (fun i=>i=gs) w w2):=by rw [hw2];exact HCh1.out
           have hl2:d2.length=N:=by rw [hd2];exact hl1
           have HST2:Hid (InTurn key0 d2):=by rw [hd2];exact HST1.out
           have HSo2:Hid (Sorted key d2 a mid):=by
            rw [hd2];by_cases h1:a<i
            ·obtain rfl:i=mid:=by omega
             exact HP1.out
            ·obtain rfl:a=i:=by omega
             exact HP2.out
           by_cases h1:a<i
           ·have z3:(a:Int)<i:=by omega
            have z4:decide ((i:Int)<mid)=false:=by simp;omega
            go_upto_region 43 with fail
            all_goals
             rw [<- hw2];clear hw2 hd2;by_cases k5:mid<e/\e<b
             ·obtain⟨k5a,k5b⟩:=k5;have hcall:=ih mid e b d2 w2 (by omega) k5a k5b (by rw [hl2];exact hb) (by rw [hl2];exact hL) HR2.out (HG.out.same (HSm1.out.trans (HSm2.out.wide (by omega) (by omega)))) (HP3.out.congr (fun i h1 h2=>HSm2.out.out i (by omega))) (HP4.out.congr (fun i h1 h2=>HSm2.out.out i (by omega))) HST2.out (HCH.out.trans HCh2.out (fun _ _ h=>h));rw [hl2] at hcall;have HCL:=kf hcall;clear hcall;have z5:(mid:Int)<e:=by omega
              have z6:(e:Int)<b:=by omega
              go_wp2_with (go_at_call 81;refine HCL.out.mono ?_;rintro ee w3 ⟨rfl,d3,hr3,hsm3,hso3,hc3⟩;have HR3:=kf hr3;have HSm3:=kf hsm3;have HSo3:=kf hso3;have HCh3:=kf (HCh2.out.trans hc3 (fun _ _ h=>h));clear hr3 hsm3 hso3 hc3);go_end0;exact⟨rfl,d3,HR3.out,(HSm1.out.trans (HSm2.out.wide (by omega) (by omega))).trans (HSm3.out.wide (by omega) (by omega)),z03 HSm2.out HSm3.out HSo2.out HSo3.out HX.out,HCh3.out⟩
             ·have HSm3:=kf (Same.refl d2 mid b)
              have HSo3:Hid (Sorted key d2 mid b):=by
               by_cases h1:mid<e
               ·obtain rfl:e=b:=by omega
                exact HP3.out.congr (fun i h1 h2=>HSm2.out.out i (by omega))
               ·obtain rfl:e=mid:=by omega
                exact HP4.out.congr (fun i h1 h2=>HSm2.out.out i (by omega))
              by_cases h1:mid<e
              ·have z5:(mid:Int)<e:=by omega
               have z6:decide ((e:Int)<b)=false:=by simp;omega
               go_wp2_with fail
               all_goals
                go_end0;exact⟨rfl,d2,HR2.out,HSm1.out.trans (HSm2.out.wide (by omega) (by omega)),z03 HSm2.out HSm3.out HSo2.out HSo3.out HX.out,HCh2.out⟩
              ·have z5:decide ((mid:Int)<e)=false:=by simp;omega
               go_wp2_with fail
               all_goals
                go_end0;exact⟨rfl,d2,HR2.out,HSm1.out.trans (HSm2.out.wide (by omega) (by omega)),z03 HSm2.out HSm3.out HSo2.out HSo3.out HX.out,HCh2.out⟩
           ·have z3:decide ((a:Int)<i)=false:=by simp;omega
            go_upto_region 43 with fail
            all_goals
             rw [<- hw2];clear hw2 hd2;by_cases k5:mid<e/\e<b
             ·obtain⟨k5a,k5b⟩:=k5;have hcall:=ih mid e b d2 w2 (by omega) k5a k5b (by rw [hl2];exact hb) (by rw [hl2];exact hL) HR2.out (HG.out.same (HSm1.out.trans (HSm2.out.wide (by omega) (by omega)))) (HP3.out.congr (fun i h1 h2=>HSm2.out.out i (by omega))) (HP4.out.congr (fun i h1 h2=>HSm2.out.out i (by omega))) HST2.out (HCH.out.trans HCh2.out (fun _ _ h=>h));rw [hl2] at hcall;have HCL:=kf hcall;clear hcall;have z5:(mid:Int)<e:=by omega
              have z6:(e:Int)<b:=by omega
              go_wp2_with (go_at_call 81;refine HCL.out.mono ?_;rintro ee w3 ⟨rfl,d3,hr3,hsm3,hso3,hc3⟩;have HR3:=kf hr3;have HSm3:=kf hsm3;have HSo3:=kf hso3;have HCh3:=kf (HCh2.out.trans hc3 (fun _ _ h=>h));clear hr3 hsm3 hso3 hc3);go_end0;exact⟨rfl,d3,HR3.out,(HSm1.out.trans (HSm2.out.wide (by omega) (by omega))).trans (HSm3.out.wide (by omega) (by omega)),z03 HSm2.out HSm3.out HSo2.out HSo3.out HX.out,HCh3.out⟩
             ·have HSm3:=kf (Same.refl d2 mid b)
              have HSo3:Hid (Sorted key d2 mid b):=by
               by_cases h1:mid<e
               ·obtain rfl:e=b:=by omega
                exact HP3.out.congr (fun i h1 h2=>HSm2.out.out i (by omega))
               ·obtain rfl:e=mid:=by omega
                exact HP4.out.congr (fun i h1 h2=>HSm2.out.out i (by omega))
              by_cases h1:mid<e
              ·have z5:(mid:Int)<e:=by omega
               have z6:decide ((e:Int)<b)=false:=by simp;omega
               go_wp2_with fail
               all_goals
                go_end0;exact⟨rfl,d2,HR2.out,HSm1.out.trans (HSm2.out.wide (by omega) (by omega)),z03 HSm2.out HSm3.out HSo2.out HSo3.out HX.out,HCh2.out⟩
              ·have z5:decide ((mid:Int)<e)=false:=by simp;omega
               go_wp2_with fail
               all_goals
                go_end0;exact⟨rfl,d2,HR2.out,HSm1.out.trans (HSm2.out.wide (by omega) (by omega)),z03 HSm2.out HSm3.out HSo2.out HSo3.out HX.out,HCh2.out⟩
        ·have z1:decide ((i:Int)<m)=false:=by simp;omega
         go_upto_region 41 with fail
         all_goals
          rw [<- hw1];clear hw1 hd1;have hmain:=z3m (key:=key) (d:=d) (d1:=d1) (a:=a) (m:=m) (b:=b) (s:=i) (e:=e) (mid:=mid) (by omega) (by omega) (by omega) (by omega) (by omega) HS1.out HS2.out HX1.out HX2.out HF1.out HO1.out;have HP1:=kf hmain.1;have HP2:=kf hmain.2.1;have HP3:=kf hmain.2.2.1;have HP4:=kf hmain.2.2.2.1;have HX:=kf hmain.2.2.2.2;have HST1:=kf (z7q (m:=m) (s:=i) (e:=e) (mid:=mid) HKK.out (by omega) (by omega) (by omega) (by omega) (by omega) (by have:=HN.out;omega) HST.out HSm1.out (HG.out.same HSm1.out).get hmain HF1.out HO1.out);clear hmain;have hl1:d1.length=N:=by rw [HSm1.out.len];exact HN.out.symm
          by_cases k4:a<i/\i<mid
          ·obtain⟨k4a,k4b⟩:=k4;have hcall:=ih a i mid d1 w1 (by omega) k4a k4b (by rw [hl1];omega) (by rw [hl1];exact hL) HR1.out (HG.out.same HSm1.out) HP1.out HP2.out HST1.out (HCH.out.trans HCh1.out (fun _ _ h=>h));rw [hl1] at hcall;have HCL:=kf hcall;clear hcall;have z3:(a:Int)<i:=by omega
           have z4:(i:Int)<mid:=by omega
           go_upto_region 43 with(go_at_call 81;refine HCL.out.mono ?_;rintro ee w2 ⟨rfl,d2,hr2,hsm2,hso2,hc2⟩;have HR2:=kf hr2;have HSm2:=kf hsm2;have HSo2:=kf hso2;have HCh2:=kf (HCh1.out.trans hc2 (fun _ _ h=>h));clear hr2 hsm2 hso2 hc2);have hl2:d2.length=N:=by rw [HSm2.out.len];exact hl1
           have HST2:Hid (InTurn key0 d2):=HST1.out.same HKK.out HSm2.out (by rw [hl1];omega) ((HG.out.same HSm1.out).same HSm2.out).get HSo2.out;by_cases k5:mid<e/\e<b
           ·obtain⟨k5a,k5b⟩:=k5;have hcall:=ih mid e b d2 w2 (by omega) k5a k5b (by rw [hl2];exact hb) (by rw [hl2];exact hL) HR2.out (HG.out.same (HSm1.out.trans (HSm2.out.wide (by omega) (by omega)))) (HP3.out.congr (fun i h1 h2=>HSm2.out.out i (by omega))) (HP4.out.congr (fun i h1 h2=>HSm2.out.out i (by omega))) HST2.out (HCH.out.trans HCh2.out (fun _ _ h=>h));rw [hl2] at hcall;have HCL:=kf hcall;clear hcall;have z5:(mid:Int)<e:=by omega
            have z6:(e:Int)<b:=by omega
            go_wp2_with (go_at_call 81;refine HCL.out.mono ?_;rintro ee w3 ⟨rfl,d3,hr3,hsm3,hso3,hc3⟩;have HR3:=kf hr3;have HSm3:=kf hsm3;have HSo3:=kf hso3;have HCh3:=kf (HCh2.out.trans hc3 (fun _ _ h=>h));clear hr3 hsm3 hso3 hc3);go_end0;exact⟨rfl,d3,HR3.out,(HSm1.out.trans (HSm2.out.wide (by omega) (by omega))).trans (HSm3.out.wide (by omega) (by omega)),z03 HSm2.out HSm3.out HSo2.out HSo3.out HX.out,HCh3.out⟩
           ·have HSm3:=kf (Same.refl d2 mid b)
            have HSo3:Hid (Sorted key d2 mid b):=by
             by_cases h1:mid<e
             ·obtain rfl:e=b:=by omega
              exact HP3.out.congr (fun i h1 h2=>HSm2.out.out i (by omega))
             ·obtain rfl:e=mid:=by omega
              exact HP4.out.congr (fun i h1 h2=>HSm2.out.out i (by omega))
            by_cases h1:mid<e
            ·have z5:(mid:Int)<e:=by omega
             have z6:decide ((e:Int)<b)=false:=by simp;omega
             go_wp2_with fail
             all_goals
              go_end0;exact⟨rfl,d2,HR2.out,HSm1.out.trans (HSm2.out.wide (by omega) (by omega)),z03 HSm2.out HSm3.out HSo2.out HSo3.out HX.out,HCh2.out⟩
            ·have z5:decide ((mid:Int)<e)=false:=by simp;omega
             go_wp2_with fail
             all_goals
              go_end0;exact⟨rfl,d2,HR2.out,HSm1.out.trans (HSm2.out.wide (by omega) (by omega)),z03 HSm2.out HSm3.out HSo2.out HSo3.out HX.out,HCh2.out⟩
          ·obtain⟨d2,hd2⟩:∃ d2,d2=d1:=⟨_,rfl⟩
           obtain⟨w2,hw2⟩:∃ w2,w2=w1:=⟨_,rfl⟩
           have HR2:Hid (Row w2 gs cap d2):=by rw [hd2,hw2];exact HR1.out
           have HSm2:Hid (Same d1 d2 a mid):=by rw [hd2];exact Same.refl _ _ _
           have HCh2:Hid (Chg (fun i=>i=gs) w w2):=by rw [hw2];exact HCh1.out
           have hl2:d2.length=N:=by rw [hd2];exact hl1
           have HST2:Hid (InTurn key0 d2):=by rw [hd2];exact HST1.out
           have HSo2:Hid (Sorted key d2 a mid):=by
            rw [hd2];by_cases h1:a<i
            ·obtain rfl:i=mid:=by omega
             exact HP1.out
            ·obtain rfl:a=i:=by omega
             exact HP2.out
           by_cases h1:a<i
           ·have z3:(a:Int)<i:=by omega
            have z4:decide ((i:Int)<mid)=false:=by simp;omega
            go_upto_region 43 with fail
            all_goals
             rw [<- hw2];clear hw2 hd2;by_cases k5:mid<e/\e<b
             ·obtain⟨k5a,k5b⟩:=k5;have hcall:=ih mid e b d2 w2 (by omega) k5a k5b (by rw [hl2];exact hb) (by rw [hl2];exact hL) HR2.out (HG.out.same (HSm1.out.trans (HSm2.out.wide (by omega) (by omega)))) (HP3.out.congr (fun i h1 h2=>HSm2.out.out i (by omega))) (HP4.out.congr (fun i h1 h2=>HSm2.out.out i (by omega))) HST2.out (HCH.out.trans HCh2.out (fun _ _ h=>h));rw [hl2] at hcall;have HCL:=kf hcall;clear hcall;have z5:(mid:Int)<e:=by omega
              have z6:(e:Int)<b:=by omega
              go_wp2_with (go_at_call 81;refine HCL.out.mono ?_;rintro ee w3 ⟨rfl,d3,hr3,hsm3,hso3,hc3⟩;have HR3:=kf hr3;have HSm3:=kf hsm3;have HSo3:=kf hso3;have HCh3:=kf (HCh2.out.trans hc3 (fun _ _ h=>h));clear hr3 hsm3 hso3 hc3);go_end0;exact⟨rfl,d3,HR3.out,(HSm1.out.trans (HSm2.out.wide (by omega) (by omega))).trans (HSm3.out.wide (by omega) (by omega)),z03 HSm2.out HSm3.out HSo2.out HSo3.out HX.out,HCh3.out⟩
             ·have HSm3:=kf (Same.refl d2 mid b)
              have HSo3:Hid (Sorted key d2 mid b):=by
               by_cases h1:mid<e
               ·obtain rfl:e=b:=by omega
                exact HP3.out.congr (fun i h1 h2=>HSm2.out.out i (by omega))
               ·obtain rfl:e=mid:=by omega
                exact HP4.out.congr (fun i h1 h2=>HSm2.out.out i (by omega))
              by_cases h1:mid<e
              ·have z5:(mid:Int)<e:=by omega
               have z6:decide ((e:Int)<b)=false:=by simp;omega
               go_wp2_with fail
               all_goals
                go_end0;exact⟨rfl,d2,HR2.out,HSm1.out.trans (HSm2.out.wide (by omega) (by omega)),z03 HSm2.out HSm3.out HSo2.out HSo3.out HX.out,HCh2.out⟩
              ·have z5:decide ((mid:Int)<e)=false:=by simp;omega
               go_wp2_with fail
               all_goals
                go_end0;exact⟨rfl,d2,HR2.out,HSm1.out.trans (HSm2.out.wide (by omega) (by omega)),z03 HSm2.out HSm3.out HSo2.out HSo3.out HX.out,HCh2.out⟩
           ·have z3:decide ((a:Int)<i)=false:=by simp;omega
            go_upto_region 43 with fail
            all_goals
             rw [<- hw2];clear hw2 hd2;by_cases k5:mid<e/\e<b
             ·obtain⟨k5a,k5b⟩:=k5;have hcall:=ih mid e b d2 w2 (by omega) k5a k5b (by rw [hl2];exact hb) (by rw [hl2];exact hL) HR2.out (HG.out.same (HSm1.out.trans (HSm2.out.wide (by omega) (by omega)))) (HP3.out.congr (fun i h1 h2=>HSm2.out.out i (by omega))) (HP4.out.congr (fun i h1 h2=>HSm2.out.out i (by omega))) HST2.out (HCH.out.trans HCh2.out (fun _ _ h=>h));rw [hl2] at hcall;have HCL:=kf hcall;clear hcall;have z5:(mid:Int)<e:=by omega
              have z6:(e:Int)<b:=by omega
              go_wp2_with (go_at_call 81;refine HCL.out.mono ?_;rintro ee w3 ⟨rfl,d3,hr3,hsm3,hso3,hc3⟩;have HR3:=kf hr3;have HSm3:=kf hsm3;have HSo3:=kf hso3;have HCh3:=kf (HCh2.out.trans hc3 (fun _ _ h=>h));clear hr3 hsm3 hso3 hc3);go_end0;exact⟨rfl,d3,HR3.out,(HSm1.out.trans (HSm2.out.wide (by omega) (by omega))).trans (HSm3.out.wide (by omega) (by omega)),z03 HSm2.out HSm3.out HSo2.out HSo3.out HX.out,HCh3.out⟩
             ·have HSm3:=kf (Same.refl d2 mid b)
              have HSo3:Hid (Sorted key d2 mid b):=by
               by_cases h1:mid<e
               ·obtain rfl:e=b:=by omega
                exact HP3.out.congr (fun i h1 h2=>HSm2.out.out i (by omega))
               ·obtain rfl:e=mid:=by omega
                exact HP4.out.congr (fun i h1 h2=>HSm2.out.out i (by omega))
              by_cases h1:mid<e
              ·have z5:(mid:Int)<e:=by omega
               have z6:decide ((e:Int)<b)=false:=by simp;omega
               go_wp2_with fail
               all_goals
                go_end0;exact⟨rfl,d2,HR2.out,HSm1.out.trans (HSm2.out.wide (by omega) (by omega)),z03 HSm2.out HSm3.out HSo2.out HSo3.out HX.out,HCh2.out⟩
              ·have z5:decide ((mid:Int)<e)=false:=by simp;omega
               go_wp2_with fail
               all_goals
                go_end0;exact⟨rfl,d2,HR2.out,HSm1.out.trans (HSm2.out.wide (by omega) (by omega)),z03 HSm2.out HSm3.out HSo2.out HSo3.out HX.out,HCh2.out⟩
end Go.Proofs.YtmibnkddappgiaaGreatDoor.PS
