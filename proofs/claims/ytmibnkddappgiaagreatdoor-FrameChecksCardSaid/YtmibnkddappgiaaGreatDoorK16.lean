import Derived.Test.YtmibnkddappgiaaGreatDoorK07
import Derived.Test.YtmibnkddappgiaaGreatDoorK09
import Derived.Test.YtmibnkddappgiaaGreatDoorRows
import Derived.MakeChecks
set_option linter.unusedVariables false
set_option maxHeartbeats 64000000
set_option maxRecDepth 100000
set_option linter.unusedSimpArgs false
namespace Go.Proofs.YtmibnkddappgiaaGreatDoor.PS
open Go.RowKit
def v8n (key:Int->Int) (d:List Int) (a i j:Nat):Prop :=
 (∀ p q,a<=p->p<q->q<i+1->p≠j->q≠j->key (d.getD p 0)<=key (d.getD q 0))/\(∀ q,j<q->q<i+1->key (d.getD j 0)<=key (d.getD q 0))
theorem y4h {key:Int->Int} {d:List Int} {a i:Nat} (h:Sorted key d a i):v8n key d a i i :=
 ⟨fun p q hp hpq hq h1 h2=>h p q hp hpq (by omega),fun q h1 h2=>absurd h1 (by omega)⟩
theorem y0l {key:Int->Int} {d:List Int} {a i j:Nat} (h:v8n key d a i j) (haj:a<=j) (hji:j<=i) (hl:j=a\/key (d.getD (j-1) 0)<=key (d.getD j 0)):Sorted key d a (i+1):=by
 intro p q hp hpq hq;by_cases h1:p=j
 ·subst h1;exact h.2 q hpq hq
 ·by_cases h2:q=j
  ·subst h2;rcases hl with h3|h3
   ·omega
   ·by_cases h4:p=q-1
    ·subst h4;exact h3
    ·exact Int.le_trans (h.1 p (q-1) hp (by omega) (by omega) h1 (by omega)) h3
  ·exact h.1 p q hp hpq hq h1 h2
theorem y73 {key:Int->Int} {d:List Int} {a i j:Nat} (h:v8n key d a i (j+1)) (haj:a<=j) (hji:j+1<=i) (hi:i<d.length) (hlt:key (d.getD (j+1) 0)<key (d.getD j 0)):v8n key (z4d d (j+1) j) a i j:=by
 have g:=fun k=>z12 d (j+1) j k (by omega) (by omega);refine⟨fun p q hp hpq hq h1 h2=>?_,fun q h1 h2=>?_⟩
 ·rw [g p,g q,if_neg h1,if_neg h2];by_cases h3:p=j+1
  ·subst h3;rw [if_pos rfl,if_neg (by omega)];exact h.1 j q haj (by omega) hq (by omega) (by omega)
  ·rw [if_neg h3];by_cases h4:q=j+1
   ·subst h4;rw [if_pos rfl];exact h.1 p j hp (by omega) (by omega) h3 (by omega)
   ·rw [if_neg h4];exact h.1 p q hp hpq hq h3 h4
 ·rw [g j,g q,if_pos rfl,if_neg (by omega)];by_cases h4:q=j+1
  ·subst h4;rw [if_pos rfl];omega
  ·rw [if_neg h4];exact h.2 q (by omega) h2
theorem v4x [PAd] (g:Nat) (lb:Array Value) (eg:∀ args w,(callFunc g args).run Tryz.prog w=.ok (.enter g args) w) (key0 key:Int->Int) (NN:Int) (hkk:key=kk key0 NN) (gs cap:Nat) (w0:World) (hcmp:CmpOf g lb key0 NN gs w0)
  (a b:Nat) (d:List Int) (w:World) (hab:a<=b) (hb:b<=d.length) (hL:d.length<=1000000) (hR:Row w gs cap d) (hG:Good NN d) (hst:InTurn key0 d) (hch:Chg (fun i=>i=gs) w0 w) :
  Calls Tryz.prog 80 #[.slice (some ⟨gs,0,none⟩) d.length cap,.int .i64 a,.int .i64 b,.func (.func g) #[] lb] w (z4z w gs cap d a b (fun d'=>Sorted key d' a b)):=by
 have HR:=kf hR;have HG:=kf hG;have HCH:=kf hch;have HST:=kf hst;have HKK:=kf hkk;clear hR hG hch hst;obtain⟨N,hN⟩:∃ N,N=d.length:=⟨_,rfl⟩
 have HN:=kf hN;rw [<- hN] at hb hL ⊢;clear hN;go_enter Tryz.func80,Tryz.ntmps80;go_wp2_with fail;go_loopw [8] (fun v wr=>∃ i:Nat,∃ d1:List Int,a+1<=i/\i<=b+1/\v=.int .i64 i/\d1.length=N/\Row wr gs cap d1/\Hid (Same d d1 a b)/\Hid ((∀ e,e<=i->e<=b->Sorted key d1 a e)/\InTurn key0 d1)/\Chg (fun i=>i=gs) w wr) (fun v _=>b+1-(intOf v).toNat)
 case atStart=>exact⟨a+1,d,by omega,by omega,by go_num,HN.out.symm,HR.out,Same.refl _ _ _,⟨fun e h1 h2 p q h3 h4 h5=>absurd h4 (by omega),HST.out⟩,Chg.refl _ _⟩
 case round =>
  obtain⟨i,d1,hi1,hi2,rfl,hl1,hRw,hSm,hSo,hc⟩:=hrel;have HRw:=kf hRw;have HCw:=kf hc;clear hRw hc;by_cases hlt:i<b
  ·go_wp2_with fail;go_loopw [9] (fun v wr2=>∃ j:Nat,∃ d2:List Int,a<=j/\j<=i/\v=.int .i64 j/\d2.length=N/\Row wr2 gs cap d2/\Hid (Same d d2 a b)/\Hid (v8n key d2 a i j/\Same d1 d2 a (i+1)/\d2.getD j 0=d1.getD i 0/\∀ p,p<j->d2.getD p 0=d1.getD p 0)/\Chg (fun i=>i=gs) w wr2) (fun v _=>(intOf v).toNat)
   case atStart=>exact⟨i,d1,by omega,by omega,rfl,hl1,HRw.out,hSm.out,⟨y4h (hSo.out.1 i (Nat.le_refl _) (by omega)),Same.refl _ _ _,rfl,fun _ _=>rfl⟩,HCw.out⟩
   case round =>
    obtain⟨j,d2,hj1,hj2,rfl,hl2,hR2,hS2,hH,hc2⟩:=hrel;have HR2:=kf hR2;have HC2:=kf hc2;clear hR2 hc2;by_cases hja:a<j
    ·obtain⟨j',hj'⟩:∃ j',j=j'+1:=⟨j-1,by omega⟩
     have e1:((j:Int)-1)=(j':Int):=by omega
     have k1:=HR2.out.cell j (by omega);have k2:=HR2.out.cell j' (by omega);have f1:=HR2.out.frozen j;have f2:=HR2.out.frozen j';have g2:=HG.out.same hS2.out;have hcl:=kf (fun n=>z7x (n:=n) (hcmp (d2.getD j 0) (d2.getD j' 0) (wr.drewN n) (g2.get j (by omega)).1 (g2.get j (by omega)).2 (g2.get j' (by omega)).1 (g2.get j' (by omega)).2 ((HCH.out.trans HC2.out (fun _ _ h=>h)).drewN n)));have hja':(a:Int)<j:=by omega
     have b1:(j:Int)<N:=by omega
     have b2:(j':Int)<N:=by omega
     obtain⟨x,hx⟩:∃ x,x=d2.getD j 0:=⟨_,rfl⟩
     obtain⟨y,hy⟩:∃ y,y=d2.getD j' 0:=⟨_,rfl⟩
     rw [<- hx] at k1 hcl;rw [<- hy] at k2 hcl;have hcv:=y0w HKK.out hSo.out.2 (HG.out.same hSm.out) (show j'<i by omega) (by omega);rw [<- hH.out.2.2.1,<- hH.out.2.2.2 j' (by omega),<- hx,<- hy] at hcv;have HX:=kf hx;have HY:=kf hy;have HJ:=kf hj';clear hx hy hj' g2;obtain⟨cv,hcv0⟩:∃ cv,cv=cmpv (key0 x) (key0 y):=⟨_,rfl⟩
     rw [<- hcv0] at hcl hcv;clear hcv0;by_cases hxy:key x<key y
     ·have hd:decide (cv<0)=true:=by rw [hcv];simpa using hxy
      have HXY:=kf hxy;clear hcv hxy;go_upto_region 4 with fail;go_quiet ((go_at_fn g;exact hcl.out _));go_upto_region 6 with fail;have hR3:=HR2.out.drewN nq;have hC3:=HC2.out.drewN nq;have k1':=hR3.cell j (by omega);have k2':=hR3.cell j' (by omega);have f1':=hR3.frozen j;have f2':=hR3.frozen j';rw [<- HX.out] at k1';rw [<- HY.out] at k2';clear k1 k2 f1 f2;generalize wr.drewN nq=wq at *;have HR3:=kf hR3;have HC3:=kf hC3;clear hR3 hC3;go_region
      go_wp2_with fail;go_roundw
      case rel =>
       have hkk:=HJ.out;subst hkk;have hsw:=HR3.out.swap (j'+1) j';rw [<- HX.out,<- HY.out] at hsw;refine⟨j',z4d d2 (j'+1) j',by omega,by omega,by go_num,by rw [z39];exact hl2,hsw.drew,hS2.out.trans (Same.swap d2 a b (j'+1) j' (by omega) (by omega) (by omega)),⟨y73 hH.out.1 (by omega) hj2 (by omega) (by have:=HXY.out;rw [HX.out,HY.out] at this;exact this),hH.out.2.1.trans (Same.swap d2 a (i+1) (j'+1) j' (by omega) (by omega) (by omega)),by rw [z12 d2 _ _ _ (by omega) (by omega),if_pos rfl];exact hH.out.2.2.1,fun p hp=>by rw [z12 d2 _ _ p (by omega) (by omega),if_neg (by omega),if_neg (by omega)];exact hH.out.2.2.2 p (by omega)⟩,((HC3.out.setCell (p:=⟨gs,j'+1,none⟩) (fun _=>rfl) _).setCell (p:=⟨gs,j',none⟩) (fun _=>rfl) _).drew⟩
      case measure=>simp [intOf];have:=HJ.out;omega
     ·have hd:decide (cv<0)=false:=by rw [hcv];simpa using hxy
      have HXY:=kf hxy;clear hcv hxy;go_upto_region 4 with fail;go_quiet ((go_at_fn g;exact hcl.out _));go_wp2_with fail;go_roundw
      case rel =>
       have hso:=y0l hH.out.1 hj1 hj2 (.inr (by have h4:=HXY.out;rw [HX.out,HY.out] at h4;rw [show j-1=j' from by have:=HJ.out;omega];omega));exact⟨i+1,d2,by omega,by omega,by go_num,hl2,HR2.out.drewN nq,hS2.out,⟨fun e h1 h2=>hso.part (Nat.le_refl _) h1,hSo.out.2.same HKK.out hH.out.2.1 (by omega) (HG.out.same hS2.out).get hso⟩,HC2.out.drewN nq⟩
      case measure=>simp [intOf];omega
    ·have hja':decide ((a:Int)<j)=false:=by simp;omega
     have HAJ:=kf (show j=a by omega);go_upto_region 4 with fail;go_quiet (fail);go_wp2_with fail;go_roundw
     case rel =>
      have hso:=y0l hH.out.1 hj1 hj2 (.inl HAJ.out);exact⟨i+1,d2,by omega,by omega,by go_num,hl2,HR2.out.drewN nq,hS2.out,⟨fun e h1 h2=>hso.part (Nat.le_refl _) h1,hSo.out.2.same HKK.out hH.out.2.1 (by omega) (HG.out.same hS2.out).get hso⟩,HC2.out.drewN nq⟩
     case measure=>simp [intOf];omega
  ·go_wp2_with fail;go_end0;exact⟨rfl,d1,HRw.out,hSm.out,hSo.out.1 b (by omega) (Nat.le_refl _),HCw.out⟩
end Go.Proofs.YtmibnkddappgiaaGreatDoor.PS
namespace Go.Proofs.YtmibnkddappgiaaGreatDoor
open Go.RowKit Go.Lib
theorem z9m {P:Program} {W:World} {name:String} {k:IntKind} {zs:List Int} {g:Nat} {t e:TypeId} {n:Nat}
  (hg:P.globalNamed name=some g) (hty:(P.globals[g]?).map (·.type)=some t) (ht:P.underlying t=some (.array n e)) (he:P.underlying e=some (.int k)) (hce:P.cellsOf e=1) (hct:P.cellsOf t=n)
  (h:∃ g' t' cs fuel p,P.globalNamed name=some g'/\(P.globals[g']?).map (·.type)=some t'/\W.var? P name=some cs/\DataW.trod (fun _=>()) P W 0 (fun _=>true) false fuel t' cs.toList=some (tabData k zs,p)):TabIs P W name k zs:=by
 obtain⟨g',t',cs,fuel,p,hg',ht',hvar,hd⟩:=h;obtain rfl:=Option.some.inj (hg.symm.trans hg');obtain rfl:=Option.some.inj (hty.symm.trans ht');unfold TabIs;rw [hvar,<- cells_of_tab ht he hce hct hd]
theorem v7g {W:World} (hL:laidMetH Tryz.prog Rows.frameChecksRow.laid W) (hsh:W.ShapedOpen Tryz.prog):LibOk W:=by
 rw [MakeChecks.laidMetH_plain _ _ _ (by kernel_rfl)] at hL;obtain⟨ps,hv,_⟩:=hL;obtain⟨_,_,_,_,_,_,_,_,_,_,hv,_⟩:=hv;obtain⟨_,_,_,_,_,_,_,_,_,_,hv,_⟩:=hv;obtain⟨g,t,cs,fuel,p,q,h1,h2,h3,h4,_⟩:=hv;have hr:∃ g' t' cs fuel p,Tryz.prog.globalNamed "internal/strconv.uint64pow10" = some g'/\(Tryz.prog.globals[g']?).map (·.type)=some t'/\W.var? Tryz.prog "internal/strconv.uint64pow10" = some cs/\DataW.trod (fun _=>()) Tryz.prog W 0 (fun _=>true) false fuel t' cs.toList=some (tabData .u64 pow10Tab,p):=⟨g,t,cs,fuel,p,h1,h2,h3,h4⟩
 exact⟨z9m (g:=2) (t:=347) (e:=187) (n:=20) (by kernel_rfl) (by kernel_rfl) Tryz.underlying347 Tryz.underlying187 (by kernel_rfl) (by kernel_rfl) hr,Go.Proofs.Tryz.laysM145.s1_3 W hsh⟩
end Go.Proofs.YtmibnkddappgiaaGreatDoor
