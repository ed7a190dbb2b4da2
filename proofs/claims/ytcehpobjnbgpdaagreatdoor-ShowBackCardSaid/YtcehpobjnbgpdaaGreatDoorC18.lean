/- Merged by program. -/
import Derived.Test.YtcehpobjnbgpdaaGreatDoorC07
import Derived.Test.YtcehpobjnbgpdaaGreatDoorC17
set_option linter.unusedVariables false
set_option linter.unusedSimpArgs false
namespace Go.Proofs.YtcehpobjnbgpdaaGreatDoor.PS
open Go.RowKit
def Hole (key:Int->Int) (d:List Int) (a i j:Nat):Prop :=
 (∀ p q,a<=p->p<q->q<i+1->p≠j->q≠j->key (d.getD p 0)<=key (d.getD q 0))/\(∀ q,j<q->q<i+1->key (d.getD j 0)<=key (d.getD q 0))
theorem hole_start {key:Int->Int} {d:List Int} {a i:Nat} (h:Sorted key d a i):Hole key d a i i :=
 ⟨fun p q hp hpq hq h1 h2=>h p q hp hpq (by omega),fun q h1 h2=>absurd h1 (by omega)⟩
theorem hole_done {key:Int->Int} {d:List Int} {a i j:Nat} (h:Hole key d a i j) (haj:a<=j) (hji:j<=i) (hl:j=a\/key (d.getD (j-1) 0)<=key (d.getD j 0)):Sorted key d a (i+1):=by
 intro p q hp hpq hq
 by_cases h1:p=j
 ·subst h1;exact h.2 q hpq hq
 ·by_cases h2:q=j
  ·subst h2
   rcases hl with h3|h3
   ·omega
   ·by_cases h4:p=q-1
    ·subst h4;exact h3
    ·exact Int.le_trans (h.1 p (q-1) hp (by omega) (by omega) h1 (by omega)) h3
  ·exact h.1 p q hp hpq hq h1 h2
theorem hole_step {key:Int->Int} {d:List Int} {a i j:Nat} (h:Hole key d a i (j+1)) (haj:a<=j) (hji:j+1<=i) (hi:i<d.length) (hlt:key (d.getD (j+1) 0)<key (d.getD j 0)):Hole key (swapD d (j+1) j) a i j:=by
 have g:=fun k=>swapD_get d (j+1) j k (by omega) (by omega)
 refine⟨fun p q hp hpq hq h1 h2=>?_,fun q h1 h2=>?_⟩
 ·rw [g p,g q,if_neg h1,if_neg h2]
  by_cases h3:p=j+1
  ·subst h3
   rw [if_pos rfl,if_neg (by omega)]
   exact h.1 j q haj (by omega) hq (by omega) (by omega)
  ·rw [if_neg h3]
   by_cases h4:q=j+1
   ·subst h4
    rw [if_pos rfl]
    exact h.1 p j hp (by omega) (by omega) h3 (by omega)
   ·rw [if_neg h4]
    exact h.1 p q hp hpq hq h3 h4
 ·rw [g j,g q,if_pos rfl,if_neg (by omega)]
  by_cases h4:q=j+1
  ·subst h4;rw [if_pos rfl];omega
  ·rw [if_neg h4]
   exact h.2 q (by omega) h2
set_option maxHeartbeats 4000000 in
set_option maxRecDepth 100000 in
theorem ins_any [PAd] (g:Nat) (lb:Array Value) (eg:∀ args w,(callFunc g args).run Tryz.prog w=.ok (.enter g args) w) (key0 key:Int->Int) (NN:Int) (hkk:key=kk key0 NN) (gs cap:Nat) (w0:World) (hcmp:CmpOf g lb key0 NN gs w0)
  (a b:Nat) (d:List Int) (w:World) (hab:a<=b) (hb:b<=d.length) (hL:d.length<=1000000) (hR:Row w gs cap d) (hG:Good NN d) (hst:InTurn key0 d) (hch:Chg (fun i=>i=gs) w0 w) :
  Calls Tryz.prog 114 #[.slice (some ⟨gs,0,none⟩) d.length cap,.int .i64 a,.int .i64 b,.func (.func g) #[] lb] w (SortTo w gs cap d a b (fun d'=>Sorted key d' a b)):=by
 have HR:=kf hR
 have HG:=kf hG
 have HCH:=kf hch
 have HST:=kf hst
 have HKK:=kf hkk
 clear hR hG hch hst
 obtain⟨N,hN⟩:∃ N,N=d.length:=⟨_,rfl⟩
 have HN:=kf hN
 rw [<- hN] at hb hL ⊢
 clear hN
 go_enter Tryz.func114,Tryz.ntmps114
 go_wp2_with fail
 go_loopw [8] (fun v wr=>∃ i:Nat,∃ d1:List Int,a+1<=i/\i<=b+1/\v=.int .i64 i/\d1.length=N/\Row wr gs cap d1/\Hid (Same d d1 a b)/\Hid ((∀ e,e<=i->e<=b->Sorted key d1 a e)/\InTurn key0 d1)/\Chg (fun i=>i=gs) w wr) (fun v _=>b+1-(intOf v).toNat)
 case atStart=>exact⟨a+1,d,by omega,by omega,by go_num,HN.out.symm,HR.out,Same.refl _ _ _,⟨fun e h1 h2 p q h3 h4 h5=>absurd h4 (by omega),HST.out⟩,Chg.refl _ _⟩
 case round =>
  obtain⟨i,d1,hi1,hi2,rfl,hl1,hRw,hSm,hSo,hc⟩:=hrel
  have HRw:=kf hRw
  have HCw:=kf hc
  clear hRw hc
  by_cases hlt:i<b
  ·go_wp2_with fail
   go_loopw [9] (fun v wr2=>∃ j:Nat,∃ d2:List Int,a<=j/\j<=i/\v=.int .i64 j/\d2.length=N/\Row wr2 gs cap d2/\Hid (Same d d2 a b)/\Hid (Hole key d2 a i j/\Same d1 d2 a (i+1)/\d2.getD j 0=d1.getD i 0/\∀ p,p<j->d2.getD p 0=d1.getD p 0)/\Chg (fun i=>i=gs) w wr2) (fun v _=>(intOf v).toNat)
   case atStart=>exact⟨i,d1,by omega,by omega,rfl,hl1,HRw.out,hSm.out,⟨hole_start (hSo.out.1 i (Nat.le_refl _) (by omega)),Same.refl _ _ _,rfl,fun _ _=>rfl⟩,HCw.out⟩
   case round =>
    obtain⟨j,d2,hj1,hj2,rfl,hl2,hR2,hS2,hH,hc2⟩:=hrel
    have HR2:=kf hR2
    have HC2:=kf hc2
    clear hR2 hc2
    by_cases hja:a<j
    ·obtain⟨j',hj'⟩:∃ j',j=j'+1:=⟨j-1,by omega⟩
     have e1:((j:Int)-1)=(j':Int):=by omega
     have k1:=HR2.out.cell j (by omega)
     have k2:=HR2.out.cell j' (by omega)
     have f1:=HR2.out.frozen j
     have f2:=HR2.out.frozen j'
     have g2:=HG.out.same hS2.out
     have hcl:=kf (fun n=>quiet_draw (n:=n) (hcmp (d2.getD j 0) (d2.getD j' 0) (wr.drewN n) (g2.get j (by omega)).1 (g2.get j (by omega)).2 (g2.get j' (by omega)).1 (g2.get j' (by omega)).2 ((HCH.out.trans HC2.out (fun _ _ h=>h)).drewN n)))
     have hja':(a:Int)<j:=by omega
     have b1:(j:Int)<N:=by omega
     have b2:(j':Int)<N:=by omega
     obtain⟨x,hx⟩:∃ x,x=d2.getD j 0:=⟨_,rfl⟩
     obtain⟨y,hy⟩:∃ y,y=d2.getD j' 0:=⟨_,rfl⟩
     rw [<- hx] at k1 hcl
     rw [<- hy] at k2 hcl
     have hcv:=cmp_cross HKK.out hSo.out.2 (HG.out.same hSm.out) (show j'<i by omega) (by omega)
     rw [<- hH.out.2.2.1,<- hH.out.2.2.2 j' (by omega),<- hx,<- hy] at hcv
     have HX:=kf hx
     have HY:=kf hy
     have HJ:=kf hj'
     clear hx hy hj' g2
     obtain⟨cv,hcv0⟩:∃ cv,cv=cmpv (key0 x) (key0 y):=⟨_,rfl⟩
     rw [<- hcv0] at hcl hcv
     clear hcv0
     by_cases hxy:key x<key y
     ·have hd:decide (cv<0)=true:=by rw [hcv];simpa using hxy
      have HXY:=kf hxy
      clear hcv hxy
      go_upto_region 4 with fail
      go_quiet ((go_at_fn g;exact hcl.out _))
      go_upto_region 6 with fail
      have hR3:=HR2.out.drewN nq
      have hC3:=HC2.out.drewN nq
      have k1':=hR3.cell j (by omega)
      have k2':=hR3.cell j' (by omega)
      have f1':=hR3.frozen j
      have f2':=hR3.frozen j'
      rw [<- HX.out] at k1'
      rw [<- HY.out] at k2'
      clear k1 k2 f1 f2
      generalize wr.drewN nq=wq at *
      have HR3:=kf hR3
      have HC3:=kf hC3
      clear hR3 hC3
      go_region
      go_wp2_with fail
      go_roundw
      case rel =>
       have hkk:=HJ.out
       subst hkk
       have hsw:=HR3.out.swap (j'+1) j'
       rw [<- HX.out,<- HY.out] at hsw
       refine⟨j',swapD d2 (j'+1) j',by omega,by omega,by go_num,by rw [swapD_len];exact hl2,hsw.drew,hS2.out.trans (Same.swap d2 a b (j'+1) j' (by omega) (by omega) (by omega)),⟨hole_step hH.out.1 (by omega) hj2 (by omega) (by have:=HXY.out;rw [HX.out,HY.out] at this;exact this),hH.out.2.1.trans (Same.swap d2 a (i+1) (j'+1) j' (by omega) (by omega) (by omega)),by rw [swapD_get d2 _ _ _ (by omega) (by omega),if_pos rfl];exact hH.out.2.2.1,fun p hp=>by rw [swapD_get d2 _ _ p (by omega) (by omega),if_neg (by omega),if_neg (by omega)];exact hH.out.2.2.2 p (by omega)⟩,((HC3.out.setCell (p:=⟨gs,j'+1,none⟩) (fun _=>rfl) _).setCell (p:=⟨gs,j',none⟩) (fun _=>rfl) _).drew⟩
      case measure=>simp [intOf];have:=HJ.out;omega
     ·have hd:decide (cv<0)=false:=by rw [hcv];simpa using hxy
      have HXY:=kf hxy
      clear hcv hxy
      go_upto_region 4 with fail
      go_quiet ((go_at_fn g;exact hcl.out _))
      go_wp2_with fail
      go_roundw
      case rel =>
       have hso:=hole_done hH.out.1 hj1 hj2 (.inr (by have h4:=HXY.out;rw [HX.out,HY.out] at h4;rw [show j-1=j' from by have:=HJ.out;omega];omega))
       exact⟨i+1,d2,by omega,by omega,by go_num,hl2,HR2.out.drewN nq,hS2.out,⟨fun e h1 h2=>hso.part (Nat.le_refl _) h1,hSo.out.2.same HKK.out hH.out.2.1 (by omega) (HG.out.same hS2.out).get hso⟩,HC2.out.drewN nq⟩
      case measure=>simp [intOf];omega
    ·have hja':decide ((a:Int)<j)=false:=by simp;omega
     have HAJ:=kf (show j=a by omega)
     go_upto_region 4 with fail
     go_quiet (fail)
     go_wp2_with fail
     go_roundw
     case rel =>
      have hso:=hole_done hH.out.1 hj1 hj2 (.inl HAJ.out)
      exact⟨i+1,d2,by omega,by omega,by go_num,hl2,HR2.out.drewN nq,hS2.out,⟨fun e h1 h2=>hso.part (Nat.le_refl _) h1,hSo.out.2.same HKK.out hH.out.2.1 (by omega) (HG.out.same hS2.out).get hso⟩,HC2.out.drewN nq⟩
     case measure=>simp [intOf];omega
  ·go_wp2_with fail
   go_end0
   exact⟨rfl,d1,HRw.out,hSm.out,hSo.out.1 b (by omega) (Nat.le_refl _),HCw.out⟩
end Go.Proofs.YtcehpobjnbgpdaaGreatDoor.PS
namespace Go.Proofs.YtcehpobjnbgpdaaGreatDoor
open Go.RowKit
theorem PTo.open_ {V w:World} {R kind:Nat} {r:Int × List Nat × Nat} {e:Ending} {W:World} (h:PTo V w R kind r e W) :
  ∃ (K:Nat) (vs:List Nat) (S:ByteArray) (p:Nat),Hid (S=sb vs)/\e=.returned (.tuple #[.agg #[.int .i64 (K:Nat),.int .i64 0,.string S,.slice none 0 0],.int .i64 r.1])/\Hid (r.1=0->K=kind/\vs=r.2.1/\p=r.2.2)/\RE V w W R p:=by
 obtain⟨he,p,hp,hR⟩:=h
 by_cases h0:r.1=0
 ·refine⟨kind,r.2.1,sb r.2.1,p,rfl,?_,fun _=>⟨rfl,rfl,hp h0⟩,hR⟩
  rw [he]
  unfold TkV
  rw [if_pos h0]
 ·refine⟨0,[],⟨#[]⟩,p,rfl,?_,fun h9=>absurd h9 h0,hR⟩
  rw [he]
  unfold TkV
  rw [if_neg h0]
  rfl
theorem PTk.value {V w:World} {R f kind K p:Nat} {r:Int × List Nat × Nat} {q:Int × Tkn} {vs:List Nat} {S:ByteArray} {W:World} (h:q=if r.1≠0 then(r.1,noT f) else(0,⟨1,f,r.2.2,kind,0,r.2.1,[]⟩)) (hS:Hid (S=sb vs)) (hk:Hid (r.1=0->K=kind/\vs=r.2.1/\p=r.2.2)) (hR:RE V w W R p) :
  PTk V w R q (.returned (.tuple #[.agg #[.int .i64 1,.int .i64 0,.int .i64 0,.int .i64 (K:Nat),.int .i64 0,.string S,.slice none 0 0,.string ⟨#[]⟩],.int .i64 r.1])) W:=by
 by_cases h0:r.1=0
 ·obtain⟨rfl,rfl,rfl⟩:=hk.out h0
  rw [if_neg (fun e=>e h0)] at h
  subst h
  exact⟨⟨1,0,0,K,0,r.2.1,[]⟩,r.2.2,by rw [h0,hS.out];rfl,fun _=>⟨rfl,rfl⟩,hR⟩
 ·rw [if_pos h0] at h
  subst h
  exact⟨⟨1,0,0,K,0,vs,[]⟩,p,by rw [hS.out];rfl,fun e=>absurd e h0,hR⟩
def tkR (last:Bool) (p:Nat):List Nat->Int × Tkn
 |[]=>(if last then 0 else 6,noT p)
 |x::l=>tokO last p x l
theorem tok_60 {last:Bool} {p:Nat} {l:List Nat} (h:¬l.head?=some 60):tokO last p 60 l=if (hexO last [] (p+1) l).1≠0 then((hexO last [] (p+1) l).1,noT p) else(0,⟨1,p,(hexO last [] (p+1) l).2.2,4,0,(hexO last [] (p+1) l).2.1,[]⟩):=tokO_60 last p l h
theorem tok_62d (last:Bool) (p:Nat) (l:List Nat):tokO last p 62 l=dictR last p (p+1) l:=by
 unfold dictR
 by_cases h:l.head?=some 62
 ·rw [tok_6262 h,if_pos h]
 ·rw [if_neg h]
  by_cases h2:l=[]/\last=false
  ·rw [if_pos h2,tok_62m h2.1 h2.2]
  ·rw [if_neg h2,tok_62f h h2]
theorem tok_47n (last:Bool) (p:Nat) (l:List Nat):tokO last p 47 l=if (nmTo last (p+1) l).1≠0 then((nmTo last (p+1) l).1,noT p) else(0,⟨1,p,(nmTo last (p+1) l).2.2,5,0,(nmTo last (p+1) l).2.1,[]⟩):=by
 rw [tok_47]
 unfold nmTo runE
 by_cases h:rgs l=l.length/\last=false
 ·rw [if_pos h,if_pos h,if_pos (show(6:Int)≠0 by decide),if_pos (show(6:Int)≠0 by decide)]
 ·rw [if_neg h,if_neg h,if_neg (show ¬(0:Int)≠0 by decide)]
theorem tok_bare {last:Bool} {p x:Nat} {l:List Nat} (hr:isRg x=true):tokO last p x l=bareR last p p x (x::l):=by
 have hd:isDl x=false:=by
  unfold isRg at hr
  cases h:isDl x with
  |false=>rfl
  |true=>rw [h] at hr;cases h2:isSp x<;>rw [h2] at hr<;>cases hr
 have hne:∀ k,isDl k=true->x≠k:=fun k hk e=>by rw [e,hk] at hd;cases hd
 rw [tok_rest (hne 91 rfl) (hne 93 rfl) (hne 60 rfl) (hne 62 rfl) (hne 40 rfl) (hne 47 rfl),hd]
 rw [if_neg (show ¬(false=true) by decide)]
 by_cases h:rgs l=l.length/\last=false
 ·have hE:runE last (x::l)=6:=by unfold runE;rw [rgs_go hr];exact if_pos ⟨by simp only [List.length_cons];omega,h.2⟩
  rw [if_pos h]
  exact(if_pos (show runE last (x::l)≠0 from by rw [hE];decide)).symm
 ·have hE:runE last (x::l)=0:=by unfold runE;rw [rgs_go hr];exact if_neg (fun e=>h ⟨by have:=e.1;simp only [List.length_cons] at this;omega,e.2⟩)
  rw [if_neg h]
  refine Eq.trans ?_ (if_neg (show ¬runE last (x::l)≠0 from fun e=>e hE)).symm
  rw [rgs_go hr,show p+(rgs l+1)=p+1+rgs l by omega]
set_option maxHeartbeats 8000000 in
set_option maxRecDepth 100000 in
theorem ptoken_any {V w W:World} {A:Option Addr} {bs:List Nat} {c R p:Nat} {last:Bool} (h:RD V w W A bs.length c last R p []) (hS:Src w 1 A bs.length c (lcells bs)) (hl:bs.length<=500000) (hc:bs.length<=c) (hp:p<=bs.length) (hb:∀ d∈bs,d<256) (hns:∀ x,bs[p]?=some x->isSp x=false/\x≠37) :
  Calls Tryz.prog 67 #[.pointer (some ⟨R,0,none⟩)] W (PTk V w R (tkR last p (bs.drop p))):=by
 have hl6:bs.length<=1000000:=by omega
 have hp9:p<=500000:=by omega
 have HTE:=kf (fun X (hX:RD X w X A bs.length c last R bs.length [])=>ptake_end hX)
 have HTA:=kf (fun X k x (hX:RD X w X A bs.length c last R k []) (hx:bs[k]?=some x)=>ptake_at hX hS hl6 hc hx)
 have HPE:=kf (fun X (hX:RD X w X A bs.length c last R bs.length [])=>ppass_end hX 60)
 have HPN:=kf (fun X k x (hX:RD X w X A bs.length c last R k []) (hx:bs[k]?=some x) (hy:x≠60)=>ppass_no hX hS hl6 hc hx 60 hy)
 have HPA:=kf (fun X k (hX:RD X w X A bs.length c last R k []) (hx:bs[k]?=some 60)=>ppass_at hX hS hl6 hc hx)
 have HCU:=kf (fun X k (hX:RD X w X A bs.length c last R k [])=>pcut_any hX 0)
 have HTX:=kf (fun X k (hX:RD X w X A bs.length c last R k []) (hk:k<=bs.length)=>ptext_any hX hS hl hc hk hb)
 have HHX:=kf (fun X k (hX:RD X w X A bs.length c last R k []) (hk:k<=bs.length)=>phex_any hX hS hl hc hk hb)
 have HNM:=kf (fun X k (hX:RD X w X A bs.length c last R k []) (hk:k<=bs.length) (h0:0<bs.length)=>pname_any hX hS hl hc hk hb h0)
 have HCD:=kf (fun X k f (hX:RD X w X A bs.length c last R k []) (hk:k<=bs.length)=>pclosed_any hX hS hl6 hc hk f)
 have HBA:=kf (fun X k x f (hX:RD X w X A bs.length c last R k []) (hx:bs[k]?=some x) (hr:isRg x=true)=>pbare_any hX hS hl hc hb hx hr f)
 have HVA:=kf (fun k n er s X=>pvalued_any k n er s X)
 have HKB:=kf h.kb
 have HR0:=kf h.here
 have hRW:=h.lt
 have hwW:=h.chg.size
 obtain⟨g,hg⟩:∃ g,g=W.heap.size:=⟨_,rfl⟩
 have HG:=kf hg
 have hgR:g≠R:=by omega
 have hgW:W.heap.size<=g:=by omega
 have hgw:w.heap.size<=g:=by omega
 have HBW:=kf (show Blk (W.alloc (.cells #[.int .i64 0,.int .i64 0,.int .i64 0,.int .i64 0,.int .i64 0,.string ⟨#[]⟩,.slice none 0 0,.string ⟨#[]⟩] 62)) g 62 #[.int .i64 0,.int .i64 0,.int .i64 0,.int .i64 0,.int .i64 0,.string ⟨#[]⟩,.slice none 0 0,.string ⟨#[]⟩] from by rw [hg];exact Blk.new _ _ _)
 have HW1:=kf (HR0.out.alloc (.cells #[.int .i64 0,.int .i64 0,.int .i64 0,.int .i64 0,.int .i64 0,.string ⟨#[]⟩,.slice none 0 0,.string ⟨#[]⟩] 62))
 obtain⟨W1,hW1⟩:∃ W1,W1=W.alloc (.cells #[.int .i64 0,.int .i64 0,.int .i64 0,.int .i64 0,.int .i64 0,.string ⟨#[]⟩,.slice none 0 0,.string ⟨#[]⟩] 62):=⟨_,rfl⟩
 rw [<- hW1] at HW1 HBW
 have HWW:=kf hW1
 clear h hS hg hwW hRW hW1 hb hl hc hl6
 by_cases hpn:p=bs.length
 ·have HD:=kf (show tkR last p (bs.drop p)=(if last then 0 else 6,noT p) from by rw [hpn,List.drop_of_length_le (Nat.le_refl _)];rfl)
  have HTE1:=kf (show ∀ X,RD X w X A bs.length c last R p []->Calls Tryz.prog 97 #[.pointer (some ⟨R,0,none⟩)] X fun e W'=>e=.returned (.tuple #[.int .u8 0,.bool false])/\RD X w W' A bs.length c last R p [] from fun X hX=>by rw [hpn] at hX ⊢;exact HTE.out X hX)
  have HCU1:=kf (fun X hX=>HCU.out X p hX)
  obtain⟨er,her⟩:∃ er,er=(if last then(0:Int) else 6):=⟨_,rfl⟩
  rw [<- her] at HD HCU1
  clear hpn her hns
  go_enter Tryz.func67,Tryz.ntmps67
  go_upto_region 1 with fail
  rw [<- HWW.out,<- HG.out]
  go_wp2_with first
   |(go_at_call 97;refine(HTE1.out _ HW1.out.here).mono ?_;rintro e w3 ⟨rfl,h3⟩;have HB3:=kf (h3.kb _ _ _ hgR (by decide) HBW.out);have HR3:=kf (h3.base (HW1.out.kb.trans h3.kb));clear h3;obtain⟨r0,r1,r2,r3,r4,r5,r6,r7,z0,z1,z2,z3,z4,z5,z6,z7⟩:=HB3.out.cl8)
   |(go_at_call 98;refine(HCU1.out _ HR3.out.here).mono ?_;rintro e w4 ⟨rfl,rfl⟩)
  refine bodyPost_ret (v:=.tuple #[.agg #[.int .i64 0,.int .i64 0,.int .i64 0,.int .i64 0,.int .i64 0,.string ⟨#[]⟩,.slice none 0 0,.string ⟨#[]⟩],.int .i64 er]) (by simp [results,Tryz.results67,go_sem,r0,r1,r2,r3,r4,r5,r6,r7]) rfl ?_
  exact⟨noK,p,by rw [HD.out];rfl,fun _=>by rw [HD.out];exact⟨rfl,rfl⟩,(HR3.out.re.set8 hgR hgW hgw _ _ _ _ _ _ _ _).back HKB.out⟩
 obtain⟨x,hx,hd⟩:=drop_at (bs:=bs) (k:=p) (by omega)
 have hk1:p+1<=bs.length:=by omega
 have h0:0<bs.length:=by omega
 have HX:=kf hx
 obtain⟨hsp,h37⟩:=hns x hx
 have HT:=kf (show tkR last p (bs.drop p)=tokO last p x (bs.drop (p+1)) from by rw [hd];rfl)
 clear hx hd hns hpn
 by_cases h91:x=91
 ·subst h91
  have HD:=kf (HT.out.trans tok_91)
  go_enter Tryz.func67,Tryz.ntmps67
  go_upto_region 1 with fail
  rw [<- HWW.out,<- HG.out]
  go_wp2_with (go_at_call 97;refine(HTA.out _ _ _ HW1.out.here HX.out).mono ?_;rintro e w3 ⟨rfl,h3⟩;have HB3:=kf (h3.kb _ _ _ hgR (by decide) HBW.out);have HR3:=kf (h3.base (HW1.out.kb.trans h3.kb));clear h3;obtain⟨r0,r1,r2,r3,r4,r5,r6,r7,z0,z1,z2,z3,z4,z5,z6,z7⟩:=HB3.out.cl8)
  refine bodyPost_ret (v:=.tuple #[.agg #[.int .i64 2,.int .i64 0,.int .i64 0,.int .i64 0,.int .i64 0,.string ⟨#[]⟩,.slice none 0 0,.string ⟨#[]⟩],.int .i64 0]) (by simp [results,Tryz.results67,go_sem,r0,r1,r2,r3,r4,r5,r6,r7]) rfl ?_
  exact⟨⟨2,0,0,0,0,[],[]⟩,p+1,by rw [HD.out];rfl,fun _=>by rw [HD.out];exact⟨rfl,rfl⟩,(HR3.out.re.set8 hgR hgW hgw _ _ _ _ _ _ _ _).back HKB.out⟩
 have e91:((x:Int)==91)=false:=by simp;omega
 by_cases h93:x=93
 ·subst h93
  have HD:=kf (HT.out.trans tok_93)
  go_enter Tryz.func67,Tryz.ntmps67
  go_upto_region 1 with fail
  rw [<- HWW.out,<- HG.out]
  go_wp2_with (go_at_call 97;refine(HTA.out _ _ _ HW1.out.here HX.out).mono ?_;rintro e w3 ⟨rfl,h3⟩;have HB3:=kf (h3.kb _ _ _ hgR (by decide) HBW.out);have HR3:=kf (h3.base (HW1.out.kb.trans h3.kb));clear h3;obtain⟨r0,r1,r2,r3,r4,r5,r6,r7,z0,z1,z2,z3,z4,z5,z6,z7⟩:=HB3.out.cl8)
  refine bodyPost_ret (v:=.tuple #[.agg #[.int .i64 3,.int .i64 0,.int .i64 0,.int .i64 0,.int .i64 0,.string ⟨#[]⟩,.slice none 0 0,.string ⟨#[]⟩],.int .i64 0]) (by simp [results,Tryz.results67,go_sem,r0,r1,r2,r3,r4,r5,r6,r7]) rfl ?_
  exact⟨⟨3,0,0,0,0,[],[]⟩,p+1,by rw [HD.out];rfl,fun _=>by rw [HD.out];exact⟨rfl,rfl⟩,(HR3.out.re.set8 hgR hgW hgw _ _ _ _ _ _ _ _).back HKB.out⟩
 have e93:((x:Int)==93)=false:=by simp;omega
 by_cases h40:x=40
 ·subst h40
  have HD:=kf (HT.out.trans tok_40)
  obtain⟨r,hr⟩:∃ r,r=txtO last 1 [] (p+1) (bs.drop (p+1)):=⟨_,rfl⟩
  have HTX1:=kf (fun X hX=>HTX.out X (p+1) hX hk1)
  rw [<- hr] at HD HTX1
  clear hr
  go_enter Tryz.func67,Tryz.ntmps67
  go_upto_region 1 with fail
  rw [<- HWW.out,<- HG.out]
  go_wp2_with first
   |(go_at_call 97;refine(HTA.out _ _ _ HW1.out.here HX.out).mono ?_;rintro e w3 ⟨rfl,h3⟩;have HB3:=kf (h3.kb _ _ _ hgR (by decide) HBW.out);have HR3:=kf (h3.base (HW1.out.kb.trans h3.kb));clear h3)
   |(go_at_call 100;refine(HTX1.out _ HR3.out.here).mono ?_;rintro e w4 h4;obtain⟨K,vs,S,p4,hS4,rfl,hk4,hre⟩:=h4.open_;have HB4:=kf (hre.kb _ _ _ hgR (by decide) HB3.out);have HR4:=kf (hre.back HR3.out.kb);clear hre h4)
   |(go_at_call 99;refine(HVA.out _ _ _ _ _).mono ?_;rintro e w6 ⟨rfl,hc6⟩;have HR6:=kf (HR4.out.call hc6);have HB6:=kf (HB4.out.chg hc6 (fun h=>h));clear hc6;obtain⟨r0,r1,r2,r3,r4,r5,r6,r7,z0,z1,z2,z3,z4,z5,z6,z7⟩:=HB6.out.cl8)
  refine bodyPost_ret (v:=.tuple #[.agg #[.int .i64 1,.int .i64 0,.int .i64 0,.int .i64 (K:Nat),.int .i64 0,.string S,.slice none 0 0,.string ⟨#[]⟩],.int .i64 r.1]) (by simp [results,Tryz.results67,go_sem,r0,r1,r2,r3,r4,r5,r6,r7]) rfl ?_
  have HRF:=kf ((HR6.out.set8 hgR hgW hgw (.int .i64 1) (.int .i64 0) (.int .i64 0) (.int .i64 (K:Nat)) (.int .i64 0) (.string S) (.slice none 0 0) (.string ⟨#[]⟩)).back HKB.out)
  exact PTk.value HD.out hS4 hk4 HRF.out
 have e40:((x:Int)==40)=false:=by simp;omega
 by_cases h60:x=60
 ·subst h60
  clear e91 e93 h91 h93 h40 e40
  by_cases hz:p+1=bs.length
  ·have HZ:=kf (show bs.drop (p+1)=[] from List.drop_of_length_le (by omega))
   have HPE1:=kf (show ∀ X,RD X w X A bs.length c last R (p+1) []->Calls Tryz.prog 101 #[.pointer (some ⟨R,0,none⟩),.int .u8 (60:Nat)] X fun e W'=>e=.returned (.bool false)/\RD X w W' A bs.length c last R (p+1) [] from fun X hX=>by rw [hz] at hX ⊢;exact HPE.out X hX)
   have HD:=kf (HT.out.trans (tok_60 (by rw [HZ.out];simp)))
   obtain⟨r,hr⟩:∃ r,r=hexO last [] (p+1) (bs.drop (p+1)):=⟨_,rfl⟩
   have HHX1:=kf (fun X hX=>HHX.out X (p+1) hX hk1)
   rw [<- hr] at HD HHX1
   clear hr hz
   go_enter Tryz.func67,Tryz.ntmps67
   go_upto_region 1 with fail
   rw [<- HWW.out,<- HG.out]
   go_wp2_with first
   |(go_at_call 97;refine(HTA.out _ _ _ HW1.out.here HX.out).mono ?_;rintro e w3 ⟨rfl,h3⟩;have HB3:=kf (h3.kb _ _ _ hgR (by decide) HBW.out);have HR3:=kf (h3.base (HW1.out.kb.trans h3.kb));clear h3)
   |(go_at_call 101;refine(HPE1.out _ HR3.out.here).mono ?_;rintro e w5 ⟨rfl,h5⟩;have HB5:=kf (h5.kb _ _ _ hgR (by decide) HB3.out);have HR5:=kf (h5.base (HR3.out.kb.trans h5.kb));clear h5)
   |(go_at_call 102;refine(HHX1.out _ HR5.out.here).mono ?_;rintro e w4 h4;obtain⟨K,vs,S,p4,hS4,rfl,hk4,hre⟩:=h4.open_;have HB4:=kf (hre.kb _ _ _ hgR (by decide) HB5.out);have HR4:=kf (hre.back HR5.out.kb);clear hre h4)
   |(go_at_call 99;refine(HVA.out _ _ _ _ _).mono ?_;rintro e w6 ⟨rfl,hc6⟩;have HR6:=kf (HR4.out.call hc6);have HB6:=kf (HB4.out.chg hc6 (fun h=>h));clear hc6;obtain⟨r0,r1,r2,r3,r4,r5,r6,r7,z0,z1,z2,z3,z4,z5,z6,z7⟩:=HB6.out.cl8)
   refine bodyPost_ret (v:=.tuple #[.agg #[.int .i64 1,.int .i64 0,.int .i64 0,.int .i64 (K:Nat),.int .i64 0,.string S,.slice none 0 0,.string ⟨#[]⟩],.int .i64 r.1]) (by simp [results,Tryz.results67,go_sem,r0,r1,r2,r3,r4,r5,r6,r7]) rfl ?_
   have HRF:=kf ((HR6.out.set8 hgR hgW hgw (.int .i64 1) (.int .i64 0) (.int .i64 0) (.int .i64 (K:Nat)) (.int .i64 0) (.string S) (.slice none 0 0) (.string ⟨#[]⟩)).back HKB.out)
   exact PTk.value HD.out hS4 hk4 HRF.out
  obtain⟨y,hy,hdy⟩:=drop_at (bs:=bs) (k:=p+1) (by omega)
  by_cases hy60:y=60
  ·subst hy60
   have HPA1:=kf (fun X hX=>HPA.out X (p+1) hX hy)
   have HD:=kf (HT.out.trans (tok_6060 (by rw [hdy];rfl)))
   clear hy hdy hz
   go_enter Tryz.func67,Tryz.ntmps67
   go_upto_region 1 with fail
   rw [<- HWW.out,<- HG.out]
   go_wp2_with first
   |(go_at_call 97;refine(HTA.out _ _ _ HW1.out.here HX.out).mono ?_;rintro e w3 ⟨rfl,h3⟩;have HB3:=kf (h3.kb _ _ _ hgR (by decide) HBW.out);have HR3:=kf (h3.base (HW1.out.kb.trans h3.kb));clear h3)
   |(go_at_call 101;refine(HPA1.out _ HR3.out.here).mono ?_;rintro e w5 ⟨rfl,h5⟩;have HB5:=kf (h5.kb _ _ _ hgR (by decide) HB3.out);have HR5:=kf (h5.base (HR3.out.kb.trans h5.kb));clear h5;obtain⟨r0,r1,r2,r3,r4,r5,r6,r7,z0,z1,z2,z3,z4,z5,z6,z7⟩:=HB5.out.cl8)
   refine bodyPost_ret (v:=.tuple #[.agg #[.int .i64 4,.int .i64 0,.int .i64 0,.int .i64 0,.int .i64 0,.string ⟨#[]⟩,.slice none 0 0,.string ⟨#[]⟩],.int .i64 0]) (by simp [results,Tryz.results67,go_sem,r0,r1,r2,r3,r4,r5,r6,r7]) rfl ?_
   exact⟨⟨4,0,0,0,0,[],[]⟩,p+1+1,by rw [HD.out];rfl,fun _=>by rw [HD.out];exact⟨rfl,rfl⟩,(HR5.out.re.set8 hgR hgW hgw _ _ _ _ _ _ _ _).back HKB.out⟩
  ·have HPN1:=kf (fun X hX=>HPN.out X (p+1) y hX hy hy60)
   have HD:=kf (HT.out.trans (tok_60 (by rw [hdy];simpa using hy60)))
   obtain⟨r,hr⟩:∃ r,r=hexO last [] (p+1) (bs.drop (p+1)):=⟨_,rfl⟩
   have HHX1:=kf (fun X hX=>HHX.out X (p+1) hX hk1)
   rw [<- hr] at HD HHX1
   clear hr hz hy hdy
   go_enter Tryz.func67,Tryz.ntmps67
   go_upto_region 1 with fail
   rw [<- HWW.out,<- HG.out]
   go_wp2_with first
   |(go_at_call 97;refine(HTA.out _ _ _ HW1.out.here HX.out).mono ?_;rintro e w3 ⟨rfl,h3⟩;have HB3:=kf (h3.kb _ _ _ hgR (by decide) HBW.out);have HR3:=kf (h3.base (HW1.out.kb.trans h3.kb));clear h3)
   |(go_at_call 101;refine(HPN1.out _ HR3.out.here).mono ?_;rintro e w5 ⟨rfl,h5⟩;have HB5:=kf (h5.kb _ _ _ hgR (by decide) HB3.out);have HR5:=kf (h5.base (HR3.out.kb.trans h5.kb));clear h5)
   |(go_at_call 102;refine(HHX1.out _ HR5.out.here).mono ?_;rintro e w4 h4;obtain⟨K,vs,S,p4,hS4,rfl,hk4,hre⟩:=h4.open_;have HB4:=kf (hre.kb _ _ _ hgR (by decide) HB5.out);have HR4:=kf (hre.back HR5.out.kb);clear hre h4)
   |(go_at_call 99;refine(HVA.out _ _ _ _ _).mono ?_;rintro e w6 ⟨rfl,hc6⟩;have HR6:=kf (HR4.out.call hc6);have HB6:=kf (HB4.out.chg hc6 (fun h=>h));clear hc6;obtain⟨r0,r1,r2,r3,r4,r5,r6,r7,z0,z1,z2,z3,z4,z5,z6,z7⟩:=HB6.out.cl8)
   refine bodyPost_ret (v:=.tuple #[.agg #[.int .i64 1,.int .i64 0,.int .i64 0,.int .i64 (K:Nat),.int .i64 0,.string S,.slice none 0 0,.string ⟨#[]⟩],.int .i64 r.1]) (by simp [results,Tryz.results67,go_sem,r0,r1,r2,r3,r4,r5,r6,r7]) rfl ?_
   have HRF:=kf ((HR6.out.set8 hgR hgW hgw (.int .i64 1) (.int .i64 0) (.int .i64 0) (.int .i64 (K:Nat)) (.int .i64 0) (.string S) (.slice none 0 0) (.string ⟨#[]⟩)).back HKB.out)
   exact PTk.value HD.out hS4 hk4 HRF.out
 have e60:((x:Int)==60)=false:=by simp;omega
 by_cases h62:x=62
 ·subst h62
  have HD:=kf (HT.out.trans (tok_62d last p _))
  have HCD1:=kf (fun X hX=>HCD.out X (p+1) p hX hk1)
  go_enter Tryz.func67,Tryz.ntmps67
  go_upto_region 1 with fail
  rw [<- HWW.out,<- HG.out]
  go_wp2_with first
   |(go_at_call 97;refine(HTA.out _ _ _ HW1.out.here HX.out).mono ?_;rintro e w3 ⟨rfl,h3⟩;have HB3:=kf (h3.kb _ _ _ hgR (by decide) HBW.out);have HR3:=kf (h3.base (HW1.out.kb.trans h3.kb));clear h3)
   |(go_at_call 103;refine(HCD1.out _ HR3.out.here).mono ?_;rintro e w4 ⟨t4,p4,rfl,ht4,hre⟩;have HT4:=kf ht4;have HB4:=kf (hre.kb _ _ _ hgR (by decide) HB3.out);have HR4:=kf (hre.back HR3.out.kb);clear hre ht4;obtain⟨r0,r1,r2,r3,r4,r5,r6,r7,z0,z1,z2,z3,z4,z5,z6,z7⟩:=HB4.out.cl8;obtain⟨k1,k2,k3,k4,k5,k6,k7⟩:=t4;unfold tknV;obtain⟨S6,hS6⟩:∃ S6,S6=sb k6:=⟨_,rfl⟩;obtain⟨S7,hS7⟩:∃ S7,S7=sb k7:=⟨_,rfl⟩;simp only [];rw [<- hS6,<- hS7];have HS6:=kf hS6;have HS7:=kf hS7;clear hS6 hS7)
  refine bodyPost_ret (v:=.tuple #[.agg #[.int .i64 (k1:Nat),.int .i64 (k2:Nat),.int .i64 (k3:Nat),.int .i64 (k4:Nat),.int .i64 k5,.string S6,.slice none 0 0,.string S7],.int .i64 (dictR last p (p+1) (bs.drop (p+1))).1]) (by simp [results,Tryz.results67,go_sem,r0,r1,r2,r3,r4,r5,r6,r7]) rfl ?_
  exact⟨⟨k1,k2,k3,k4,k5,k6,k7⟩,p4,by rw [HD.out,HS6.out,HS7.out];rfl,fun h9=>by rw [HD.out] at h9 ⊢;exact HT4.out h9,(HR4.out.set8 hgR hgW hgw _ _ _ _ _ _ _ _).back HKB.out⟩
 have e62:((x:Int)==62)=false:=by simp;omega
 by_cases h47:x=47
 ·subst h47
  have HD:=kf (HT.out.trans (tok_47n last p _))
  obtain⟨r,hr⟩:∃ r,r=nmTo last (p+1) (bs.drop (p+1)):=⟨_,rfl⟩
  have HNM1:=kf (fun X hX=>HNM.out X (p+1) hX hk1 h0)
  rw [<- hr] at HD HNM1
  clear hr
  go_enter Tryz.func67,Tryz.ntmps67
  go_upto_region 1 with fail
  rw [<- HWW.out,<- HG.out]
  go_wp2_with first
   |(go_at_call 97;refine(HTA.out _ _ _ HW1.out.here HX.out).mono ?_;rintro e w3 ⟨rfl,h3⟩;have HB3:=kf (h3.kb _ _ _ hgR (by decide) HBW.out);have HR3:=kf (h3.base (HW1.out.kb.trans h3.kb));clear h3)
   |(go_at_call 104;refine(HNM1.out _ HR3.out.here).mono ?_;rintro e w4 h4;obtain⟨K,vs,S,p4,hS4,rfl,hk4,hre⟩:=h4.open_;have HB4:=kf (hre.kb _ _ _ hgR (by decide) HB3.out);have HR4:=kf (hre.back HR3.out.kb);clear hre h4)
   |(go_at_call 99;refine(HVA.out _ _ _ _ _).mono ?_;rintro e w6 ⟨rfl,hc6⟩;have HR6:=kf (HR4.out.call hc6);have HB6:=kf (HB4.out.chg hc6 (fun h=>h));clear hc6;obtain⟨r0,r1,r2,r3,r4,r5,r6,r7,z0,z1,z2,z3,z4,z5,z6,z7⟩:=HB6.out.cl8)
  refine bodyPost_ret (v:=.tuple #[.agg #[.int .i64 1,.int .i64 0,.int .i64 0,.int .i64 (K:Nat),.int .i64 0,.string S,.slice none 0 0,.string ⟨#[]⟩],.int .i64 r.1]) (by simp [results,Tryz.results67,go_sem,r0,r1,r2,r3,r4,r5,r6,r7]) rfl ?_
  have HRF:=kf ((HR6.out.set8 hgR hgW hgw (.int .i64 1) (.int .i64 0) (.int .i64 0) (.int .i64 (K:Nat)) (.int .i64 0) (.string S) (.slice none 0 0) (.string ⟨#[]⟩)).back HKB.out)
  exact PTk.value HD.out hS4 hk4 HRF.out
 have e47:((x:Int)==47)=false:=by simp;omega
 by_cases hD:isDl x=true
 ·have HD:=kf (show(tkR last p (bs.drop p)).1=11 from by rw [HT.out,tok_rest h91 h93 h60 h62 h40 h47,if_pos hD])
  have hx3:x=41\/x=123\/x=125:=by
   simp only [isDl,Bool.or_eq_true,beq_iff_eq] at hD
   omega
  clear h91 h93 h60 h62 h40 h47 e91 e93 e60 e62 e40 e47 hD h37
  rcases hx3 with rfl|rfl|rfl
  all_goals
   go_enter Tryz.func67,Tryz.ntmps67
   go_upto_region 1 with fail
   rw [<- HWW.out,<- HG.out]
   go_wp2_with (go_at_call 97;refine(HTA.out _ _ _ HW1.out.here HX.out).mono ?_;rintro e w3 ⟨rfl,h3⟩;have HB3:=kf (h3.kb _ _ _ hgR (by decide) HBW.out);have HR3:=kf (h3.base (HW1.out.kb.trans h3.kb));clear h3;obtain⟨r0,r1,r2,r3,r4,r5,r6,r7,z0,z1,z2,z3,z4,z5,z6,z7⟩:=HB3.out.cl8)
   refine bodyPost_ret (v:=.tuple #[.agg #[.int .i64 0,.int .i64 0,.int .i64 0,.int .i64 0,.int .i64 0,.string ⟨#[]⟩,.slice none 0 0,.string ⟨#[]⟩],.int .i64 11]) (by simp [results,Tryz.results67,go_sem,r0,r1,r2,r3,r4,r5,r6,r7]) rfl ?_
   exact PTk.err HD.out (by decide) ((HR3.out.re.set8 hgR hgW hgw _ _ _ _ _ _ _ _).back HKB.out)
 have hD0:isDl x=false:=by simpa using hD
 have hr:isRg x=true:=by unfold isRg;rw [hsp,hD0];rfl
 have hne:∀ k,isDl k=true->x≠k:=fun k hk e=>hD (by rw [e];exact hk)
 have h41:=hne 41 rfl
 have h123:=hne 123 rfl
 have h125:=hne 125 rfl
 have e41:((x:Int)==41)=false:=by simp;omega
 have e123:((x:Int)==123)=false:=by simp;omega
 have e125:((x:Int)==125)=false:=by simp;omega
 have HD:=kf (show tkR last p (bs.drop p)=bareR last p p x (bs.drop p) from by
  obtain⟨y,hy,hd⟩:=drop_at (bs:=bs) (k:=p) (by omega)
  rw [HX.out] at hy
  injection hy with hy
  subst hy
  rw [HT.out,tok_bare hr,hd])
 have HBA1:=kf (fun X hX=>HBA.out X p x p hX HX.out hr)
 clear h91 h93 h60 h62 h40 h47 hD hD0 hr hne h41 h123 h125 h37 hsp
 have i1:((p:Int)+1-1)=(p:Int):=by omega
 go_enter Tryz.func67,Tryz.ntmps67
 go_upto_region 1 with fail
 rw [<- HWW.out,<- HG.out]
 go_upto_region 24 with(go_at_call 97;refine(HTA.out _ _ _ HW1.out.here HX.out).mono ?_;rintro e w3 ⟨rfl,h3⟩;have HB3:=kf (h3.kb _ _ _ hgR (by decide) HBW.out);have HR3:=kf (h3.base (HW1.out.kb.trans h3.kb));clear h3;obtain⟨c2,c3,c4,f3⟩:=HR3.out.cells)
 go_wp2_with (go_at_call 105;refine(HBA1.out _ (HR3.out.at_ p).here).mono ?_;rintro e w4 ⟨t4,p4,rfl,ht4,hre⟩;have HT4:=kf ht4;have HB4:=kf (hre.kb _ _ _ hgR (by decide) (HB3.out.far (p:=⟨R,3,none⟩) hgR _));have HR4:=kf (hre.back (HR3.out.at_ p).kb);clear hre ht4;obtain⟨r0,r1,r2,r3,r4,r5,r6,r7,z0,z1,z2,z3,z4,z5,z6,z7⟩:=HB4.out.cl8;obtain⟨k1,k2,k3,k4,k5,k6,k7⟩:=t4;unfold tknV;obtain⟨S6,hS6⟩:∃ S6,S6=sb k6:=⟨_,rfl⟩;obtain⟨S7,hS7⟩:∃ S7,S7=sb k7:=⟨_,rfl⟩;simp only [];rw [<- hS6,<- hS7];have HS6:=kf hS6;have HS7:=kf hS7;clear hS6 hS7)
 refine bodyPost_ret (v:=.tuple #[.agg #[.int .i64 (k1:Nat),.int .i64 (k2:Nat),.int .i64 (k3:Nat),.int .i64 (k4:Nat),.int .i64 k5,.string S6,.slice none 0 0,.string S7],.int .i64 (bareR last p p x (bs.drop p)).1]) (by simp [results,Tryz.results67,go_sem,r0,r1,r2,r3,r4,r5,r6,r7]) rfl ?_
 exact⟨⟨k1,k2,k3,k4,k5,k6,k7⟩,p4,by rw [HD.out,HS6.out,HS7.out];rfl,fun h9=>by rw [HD.out] at h9 ⊢;exact HT4.out h9,(HR4.out.set8 hgR hgW hgw _ _ _ _ _ _ _ _).back HKB.out⟩
set_option maxHeartbeats 1000000 in
theorem pnext_bad (n:Nat) (A:Option Addr) (c:Nat) (p:Int) (last:Bool) (w:World) (h:p<0\/(n:Int)<p) :
  Calls Tryz.prog 35 #[.slice A n c,.int .i64 p,.bool last] w (NxTo w (2,noT 0)):=by
 by_cases h1:p<0
 ·clear h
  go_enter Tryz.func35,Tryz.ntmps35
  go_wp2_with fail
  refine bodyPost_ret (v:=.tuple #[.agg #[.int .i64 0,.int .i64 0,.int .i64 0,.int .i64 0,.int .i64 0,.string ⟨#[]⟩,.slice none 0 0,.string ⟨#[]⟩],.int .i64 2]) (by simp [results,Tryz.results35,go_sem]) rfl ?_
  exact⟨rfl,(Chg.refl NoS w).alloc _⟩
 ·have h2:(n:Int)<p:=by omega
  clear h
  go_enter Tryz.func35,Tryz.ntmps35
  go_wp2_with fail
  refine bodyPost_ret (v:=.tuple #[.agg #[.int .i64 0,.int .i64 0,.int .i64 0,.int .i64 0,.int .i64 0,.string ⟨#[]⟩,.slice none 0 0,.string ⟨#[]⟩],.int .i64 2]) (by simp [results,Tryz.results35,go_sem]) rfl ?_
  exact⟨rfl,(Chg.refl NoS w).alloc _⟩
theorem Chg.newc {w X:World} {g i:Nat} {u:Value} (hg:w.heap.size<=g) (h:Chg NoS w X):Chg NoS w (X.setCell ⟨g,i,none⟩ u) :=
 h.setCell (p:=⟨g,i,none⟩) (fun e=>absurd e (Nat.not_lt.2 hg)) u
theorem nextO_tk (bs:List Nat) (p:Nat) (last:Bool):nextO bs p last=tkR last (p+skp false (bs.drop p)) (bs.drop (p+skp false (bs.drop p))):=by
 unfold nextO tkR
 cases bs.drop (p+skp false (bs.drop p))<;>rfl
theorem tkR_err {last:Bool} {p:Nat} {l:List Nat} (h:(tkR last p l).1≠0):(tkR last p l).2=noT p:=by
 cases l with
 |nil=>rfl
 |cons x l =>
  rcases tokO_to last p x l with⟨_,h2⟩|⟨h1,_⟩
  ·exact h2
  ·exact absurd h1 h
theorem tkR_from {last:Bool} {p:Nat} {l:List Nat} (h:(tkR last p l).1=0):(tkR last p l).2.from_=p:=by
 cases l with
 |nil=>rfl
 |cons x l =>
  rcases tokO_to last p x l with⟨h1,_⟩|⟨_,_,h3,_⟩
  ·exact absurd h h1
  ·exact h3
set_option maxHeartbeats 4000000 in
set_option maxRecDepth 100000 in
theorem pnext_in (bs:List Nat) (A:Option Addr) (c p:Nat) (last:Bool) (w:World) (hS:Src w 1 A bs.length c (lcells bs)) (hl:bs.length<=400000) (hc:bs.length<=c) (hp:p<=bs.length) (hb:∀ x∈bs,x<256) :
  Calls Tryz.prog 35 #[.slice A bs.length c,.int .i64 (p:Nat),.bool last] w (NxTo w (nextO bs p last)):=by
 have hsk:=skp_le (bs.drop p) false
 rw [List.length_drop] at hsk
 obtain⟨f,hf⟩:∃ f,f=p+skp false (bs.drop p):=⟨_,rfl⟩
 have hfl:f<=bs.length:=by omega
 have hns:∀ x,bs[f]?=some x->isSp x=false/\x≠37:=fun x hx=>by
  have hlt:f<bs.length:=(List.getElem?_eq_some_iff.1 hx).1
  obtain⟨y,m,hd,h1,h2⟩:=skp_stop (bs.drop p) false (by rw [List.length_drop];omega)
  rw [List.drop_drop,<- hf] at hd
  obtain⟨z,hz,hd2⟩:=drop_at (bs:=bs) (k:=f) hlt
  rw [hx] at hz
  injection hz with hz
  rw [hd2] at hd
  injection hd with hd _
  rw [hz,hd]
  exact⟨h1,h2⟩
 have HSK:=kf (fun W (hW:Chg NoS w W)=>(show Calls Tryz.prog 66 #[.slice A bs.length c,.int .i64 (p:Nat)] W fun e w'=>e=.returned (.int .i64 (f:Nat))/\W=w' from by
  have h:=pskip_any bs A c (p:Int) W (Src.below (w0:=w) hS hW) (by omega) hc
  rw [show skipO bs (p:Int)=f from by rw [skipO,if_neg (by omega),if_pos (by omega),hf];rfl] at h
  exact h))
 have HTK:=kf (fun X (hX:RD X w X A bs.length c last (w.heap.size+1) f [])=>ptoken_any hX hS (by omega) hc hfl hb hns)
 obtain⟨r,hr⟩:∃ r,r=tkR last f (bs.drop f):=⟨_,rfl⟩
 have HRN:=kf (show nextO bs p last=r from by rw [nextO_tk,<- hf,hr])
 rw [<- hr] at HTK
 have HERR:=kf (fun h:r.1≠0=>(show r.2=noT f from by rw [hr] at h ⊢;exact tkR_err h))
 have HFR:=kf (fun h:r.1=0=>(show r.2.from_=f from by rw [hr] at h ⊢;exact tkR_from h))
 have HB0:=kf (Blk.new w 62 #[.int .i64 0,.int .i64 0,.int .i64 0,.int .i64 0,.int .i64 0,.string ⟨#[]⟩,.slice none 0 0,.string ⟨#[]⟩])
 have HC0:=kf ((Chg.refl NoS w).alloc (.cells #[.int .i64 0,.int .i64 0,.int .i64 0,.int .i64 0,.int .i64 0,.string ⟨#[]⟩,.slice none 0 0,.string ⟨#[]⟩] 62))
 have HRD:=kf (show RD ((w.alloc (.cells #[.int .i64 0,.int .i64 0,.int .i64 0,.int .i64 0,.int .i64 0,.string ⟨#[]⟩,.slice none 0 0,.string ⟨#[]⟩] 62)).alloc (.cells #[.pointer none,.slice none 0 0,.slice A bs.length c,.int .i64 (f:Nat),.bool last] 99)) w ((w.alloc (.cells #[.int .i64 0,.int .i64 0,.int .i64 0,.int .i64 0,.int .i64 0,.string ⟨#[]⟩,.slice none 0 0,.string ⟨#[]⟩] 62)).alloc (.cells #[.pointer none,.slice none 0 0,.slice A bs.length c,.int .i64 (f:Nat),.bool last] 99)) A bs.length c last (w.heap.size+1) f [] from
  ⟨.pointer none,none,0,by have:=Blk.new (w.alloc (.cells #[.int .i64 0,.int .i64 0,.int .i64 0,.int .i64 0,.int .i64 0,.string ⟨#[]⟩,.slice none 0 0,.string ⟨#[]⟩] 62)) 99 #[.pointer none,.slice none 0 0,.slice A bs.length c,.int .i64 (f:Nat),.bool last];rw [show(w.alloc (.cells #[.int .i64 0,.int .i64 0,.int .i64 0,.int .i64 0,.int .i64 0,.string ⟨#[]⟩,.slice none 0 0,.string ⟨#[]⟩] 62)).heap.size=w.heap.size+1 from by simp] at this;exact this,.inl rfl,own_nil _ _ _ _,((Chg.refl NoS w).alloc _).alloc _,by omega,KB.refl _ _⟩)
 obtain⟨N,hN⟩:∃ N,bs.length=N:=⟨_,rfl⟩
 rw [hN] at HSK HTK HRD hp hl hc hfl ⊢
 clear hS hb hns hsk hf hr hN
 rw [HRN.out]
 obtain⟨er,tt⟩:=r
 simp only at HERR HFR HTK
 have HCH2:=kf (HRD.out.chg)
 have HB1:=kf (HB0.out.alloc (.cells #[.pointer none,.slice none 0 0,.slice A N c,.int .i64 (f:Nat),.bool last] 99))
 have hgR:w.heap.size≠w.heap.size+1:=by omega
 by_cases he:er=0
 ·subst he
  obtain⟨tk,tf,tt_,tvk,tvn,tvs,ts⟩:=tt
  obtain rfl:tf=f:=HFR.out rfl
  have HTK0:=kf (fun X hX=>(HTK.out X hX))
  clear HTK HERR HFR
  go_enter Tryz.func35,Tryz.ntmps35
  go_upto_region 5 with(go_at_call 66;refine(HSK.out _ HC0.out).mono ?_;rintro e w2 ⟨rfl,hw2⟩;subst hw2)
  go_upto_region 8 with(go_at_call 67;refine(HTK0.out _ HRD.out).mono ?_;rintro e w3 ⟨t,q,rfl,ht,hre⟩;obtain⟨rfl,rfl⟩:=ht rfl;unfold tknV;obtain⟨S6,hS6⟩:∃ S6,S6=sb tvs:=⟨_,rfl⟩;obtain⟨S7,hS7⟩:∃ S7,S7=sb ts:=⟨_,rfl⟩;simp only [];rw [<- hS6,<- hS7];have HS6:=kf hS6;have HS7:=kf hS7;have HB6:=kf (hre.kb _ _ _ hgR (by decide) HB1.out);have HRE:=kf hre;have cR:=hre.cell;clear hS6 hS7 ht hre)
  have HB64:=kf (HB6.out.alloc (.cells #[.int .i64 (tk:Nat),.int .i64 0,.int .i64 0,.int .i64 (tvk:Nat),.int .i64 tvn,.string S6,.slice none 0 0,.string S7] 62))
  have HB104:=kf (Blk.new w3 62 #[.int .i64 (tk:Nat),.int .i64 0,.int .i64 0,.int .i64 (tvk:Nat),.int .i64 tvn,.string S6,.slice none 0 0,.string S7])
  have cR4:=(((Chg.refl NoS w3).alloc (.cells #[.int .i64 (tk:Nat),.int .i64 0,.int .i64 0,.int .i64 (tvk:Nat),.int .i64 tvn,.string S6,.slice none 0 0,.string S7] 62)).cell (p:=⟨w.heap.size+1,3,none⟩) (cell_lt cR) (fun h=>h)).trans cR
  have HC4:=kf (HRE.out.chg.alloc (.cells #[.int .i64 (tk:Nat),.int .i64 0,.int .i64 0,.int .i64 (tvk:Nat),.int .i64 tvn,.string S6,.slice none 0 0,.string S7] 62))
  have hlt6:=HB6.out.lt
  have hltR:=cell_lt cR
  simp only at hltR
  have hw3:=HRE.out.chg.size
  obtain⟨W4,hW4⟩:∃ W4,W4=w3.alloc (.cells #[.int .i64 (tk:Nat),.int .i64 0,.int .i64 0,.int .i64 (tvk:Nat),.int .i64 tvn,.string S6,.slice none 0 0,.string S7] 62):=⟨_,rfl⟩
  rw [<- hW4] at HB64 HB104 cR4 HC4 ⊢
  obtain⟨g6,hg6⟩:∃ g6,g6=w.heap.size:=⟨_,rfl⟩
  obtain⟨g10,hg10⟩:∃ g10,g10=w3.heap.size:=⟨_,rfl⟩
  obtain⟨R,hR⟩:∃ R,R=w.heap.size+1:=⟨_,rfl⟩
  rw [<- hR] at cR4 ⊢
  rw [<- hg6] at HB64 ⊢
  rw [<- hg10] at HB104 ⊢
  have hne1:g6≠g10:=by omega
  have hne2:R≠g10:=by omega
  have hne3:R≠g6:=by omega
  have hne1':g10≠g6:=by omega
  have hge6:w.heap.size<=g6:=by omega
  have hge10:w.heap.size<=g10:=by omega
  obtain⟨q0,q1,q2,q3,q4,q5,q6,q7,y0,y1,y2,y3,y4,y5,y6,y7⟩:=HB104.out.cl8
  obtain⟨r0,r1,r2,r3,r4,r5,r6,r7,z0,z1,z2,z3,z4,z5,z6,z7⟩:=HB64.out.cl8
  clear hW4 hg6 hg10 hR hlt6 hltR hw3 cR HRE HB6 HRD HB0 HB1 HC0 HCH2 HTK0 HSK
  go_region
  go_wp2_with fail
  refine bodyPost_ret (v:=.tuple #[.agg #[.int .i64 (tk:Nat),.int .i64 (tf:Nat),.int .i64 (q:Nat),.int .i64 (tvk:Nat),.int .i64 tvn,.string S6,.slice none 0 0,.string S7],.int .i64 0]) (by simp [results,Tryz.results35,go_sem,r0,r1,r2,r3,r4,r5,r6,r7,q0,q1,q2,q3,q4,q5,q6,q7,hne1,hne1']) rfl ?_
  refine⟨by rw [HS6.out,HS7.out];rfl,?_⟩
  exact Chg.drew (Chg.newc hge6 (Chg.newc hge6 (Chg.newc hge6 (Chg.newc hge6 (Chg.newc hge6 (Chg.newc hge6 (Chg.newc hge6 (Chg.newc hge6 (Chg.newc hge10 (Chg.newc hge10 HC4.out))))))))))
 ·have HNT:=kf (HERR.out he)
  have e1:(er != 0)=true:=by simpa using he
  have e2:(er==0)=false:=by simpa using he
  clear HERR HFR he
  go_enter Tryz.func35,Tryz.ntmps35
  go_upto_region 5 with(go_at_call 66;refine(HSK.out _ HC0.out).mono ?_;rintro e w2 ⟨rfl,hw2⟩;subst hw2)
  go_upto_region 7 with(go_at_call 67;refine(HTK.out _ HRD.out).mono ?_;rintro e w3 ⟨t,q,rfl,ht,hre⟩;obtain⟨tk,tf,tt_,tvk,tvn,tvs,ts⟩:=t;unfold tknV;obtain⟨S6,hS6⟩:∃ S6,S6=sb tvs:=⟨_,rfl⟩;obtain⟨S7,hS7⟩:∃ S7,S7=sb ts:=⟨_,rfl⟩;simp only [];rw [<- hS6,<- hS7];have HB6:=kf (hre.kb _ _ _ hgR (by decide) HB1.out);have HRE:=kf hre;clear hS6 hS7 ht hre)
  have HB64:=kf (HB6.out.alloc (.cells #[.int .i64 (tk:Nat),.int .i64 (tf:Nat),.int .i64 (tt_:Nat),.int .i64 (tvk:Nat),.int .i64 tvn,.string S6,.slice none 0 0,.string S7] 62))
  have HC4:=kf (HRE.out.chg.alloc (.cells #[.int .i64 (tk:Nat),.int .i64 (tf:Nat),.int .i64 (tt_:Nat),.int .i64 (tvk:Nat),.int .i64 tvn,.string S6,.slice none 0 0,.string S7] 62))
  obtain⟨W4,hW4⟩:∃ W4,W4=w3.alloc (.cells #[.int .i64 (tk:Nat),.int .i64 (tf:Nat),.int .i64 (tt_:Nat),.int .i64 (tvk:Nat),.int .i64 tvn,.string S6,.slice none 0 0,.string S7] 62):=⟨_,rfl⟩
  rw [<- hW4] at HB64 HC4 ⊢
  obtain⟨g6,hg6⟩:∃ g6,g6=w.heap.size:=⟨_,rfl⟩
  rw [<- hg6] at HB64 ⊢
  have hge6:w.heap.size<=g6:=by omega
  obtain⟨r0,r1,r2,r3,r4,r5,r6,r7,z0,z1,z2,z3,z4,z5,z6,z7⟩:=HB64.out.cl8
  clear hW4 hg6 HRE HB6 HRD HB0 HB1 HC0 HCH2 HTK HSK
  go_wp2_with fail
  refine bodyPost_ret (v:=.tuple #[.agg #[.int .i64 0,.int .i64 (f:Nat),.int .i64 (f:Nat),.int .i64 0,.int .i64 0,.string ⟨#[]⟩,.slice none 0 0,.string ⟨#[]⟩],.int .i64 er]) (by simp [results,Tryz.results35,go_sem,r0,r1,r2,r3,r4,r5,r6,r7]) rfl ?_
  refine⟨by rw [HNT.out];rfl,?_⟩
  exact Chg.newc hge6 (Chg.newc hge6 (Chg.newc hge6 (Chg.newc hge6 (Chg.newc hge6 (Chg.newc hge6 (Chg.newc hge6 (Chg.newc hge6 HC4.out)))))))
theorem pnext_any (bs:List Nat) (A:Option Addr) (c:Nat) (p:Int) (last:Bool) (w:World) (hS:Src w 1 A bs.length c (lcells bs)) (hl:bs.length<=400000) (hc:bs.length<=c) (hb:∀ x∈bs,x<256) :
  Calls Tryz.prog 35 #[.slice A bs.length c,.int .i64 p,.bool last] w (NxTo w (nextA bs p last)):=by
 unfold nextA
 by_cases h:p<0\/(bs.length:Int)<p
 ·rw [if_pos h]
  exact pnext_bad bs.length A c p last w h
 ·rw [if_neg h]
  have h2:=pnext_in bs A c p.toNat last w hS hl hc (by omega) hb
  rwa [show((p.toNat:Nat):Int)=p from by omega] at h2
end Go.Proofs.YtcehpobjnbgpdaaGreatDoor
