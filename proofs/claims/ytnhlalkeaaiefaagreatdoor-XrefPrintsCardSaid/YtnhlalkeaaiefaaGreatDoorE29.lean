import Derived.Test.YtnhlalkeaaiefaaGreatDoorE28
set_option linter.unusedVariables false
set_option maxHeartbeats 64000000
set_option maxRecDepth 100000
set_option linter.unusedSimpArgs false
namespace Go.Proofs.YtnhlalkeaaiefaaGreatDoor
open Go.RowKit
theorem v2p {f f2:Int} {es es2:List XEn} (h:¬(f=f2/\es=es2)):eqB (⟨f,es⟩:XGr) ⟨f2,es2⟩=false:=y53 (fun e=>h (by injection e with a b;exact⟨a,b⟩))
theorem y6b (f f2:Int) (es fs:List XEn) (A:Option Addr) (c:Nat) (A':Option Addr) (c':Nat) (w:World) (hE:Ev NoS w (EnS es A c)) (hF:Ev NoS w (EnS fs A' c')) (hl:es.length<=1000000) (hl':fs.length<=1000000) :
  Calls Tryz.prog 38 #[.agg #[.int .i64 f,.slice A es.length c],.agg #[.int .i64 f2,.slice A' fs.length c']] w fun e w'=>e=.returned (.bool (eqB (⟨f,es⟩:XGr) ⟨f2,fs⟩))/\Chg NoS w w':=by
 have HEQ:=kf (fun W (h:Chg NoS w W)=>y51 es fs A c A' c' W (hE.chg h) (hF.chg h) hl hl');have HX1:=kf (show f≠f2->eqB (⟨f,es⟩:XGr) ⟨f2,fs⟩=false from fun h=>v2p (fun e=>h e.1))
 have HX2:=kf (show f=f2->eqB (⟨f,es⟩:XGr) ⟨f2,fs⟩=eqB es fs from fun h=>by
  subst h;by_cases he:es=fs
  ·rw [y52 he,y52 (by rw [he])]
  ·rw [y53 he,v2p (fun e=>he e.2)])
 obtain⟨R,hR⟩:∃ R,R=eqB (⟨f,es⟩:XGr) ⟨f2,fs⟩:=⟨_,rfl⟩
 rw [<- hR] at HX1 HX2 ⊢;obtain⟨r,hr⟩:∃ r,r=eqB es fs:=⟨_,rfl⟩
 rw [<- hr] at HEQ HX2;obtain⟨m,hm⟩:∃ m,m=es.length:=⟨_,rfl⟩
 obtain⟨n,hn⟩:∃ n,n=fs.length:=⟨_,rfl⟩
 rw [<- hm,<- hn] at HEQ;rw [<- hm,<- hn];have HB:=kf ((Blk.new w 56 #[.int .i64 f,.slice A m c]).alloc (.cells #[.int .i64 f2,.slice A' n c'] 56));have HB2:=kf (z30 w (.cells #[.int .i64 f,.slice A m c] 56) 56 #[.int .i64 f2,.slice A' n c']);have HC:=kf (((Chg.refl NoS w).alloc (.cells #[.int .i64 f,.slice A m c] 56)).alloc (.cells #[.int .i64 f2,.slice A' n c'] 56));obtain⟨g3,hg3⟩:∃ g,g=w.heap.size+1:=⟨_,rfl⟩
 obtain⟨g2,hg2⟩:∃ g,g=w.heap.size:=⟨_,rfl⟩
 rw [<- hg3] at HB2;rw [<- hg2] at HB;clear hE hF hl hl' hR hr hm hn;go_enter Tryz.func38,Tryz.ntmps38;go_upto_region 1 with fail;rw [<- hg2];rw [show g2+1=g3 from by omega];obtain⟨W1,hW1⟩:∃ W1,W1=(w.alloc (.cells #[.int .i64 f,.slice A m c] 56)).alloc (.cells #[.int .i64 f2,.slice A' n c'] 56):=⟨_,rfl⟩
 rw [<- hW1] at HB HB2 HC ⊢;clear hW1 hg2 hg3;have q0:W1.cell? ⟨g2,0,none⟩=some (.int .i64 f):=HB.out.cell 0;have q1:W1.cell? ⟨g2,1,none⟩=some (.slice A m c):=HB.out.cell 1;have p0:W1.cell? ⟨g3,0,none⟩=some (.int .i64 f2):=HB2.out.cell 0;have p1:W1.cell? ⟨g3,1,none⟩=some (.slice A' n c'):=HB2.out.cell 1;by_cases hf:f=f2
 ·have HZ:=kf (HX2.out hf);subst hf;go_wp2_with (go_at_call 72;refine(HEQ.out _ HC.out).mono ?_;rintro e w4 ⟨rfl,hc4⟩;have HC4:=kf (HC.out.trans hc4 (fun _ _ e=>e));clear hc4);go_ret;exact⟨by rw [HZ.out];rfl,HC4.out⟩
 ·have HZ:=kf (HX1.out hf);have d1:(f==f2)=false:=by simpa using hf
  clear hf;go_wp2_with fail;go_ret;exact⟨by rw [HZ.out];rfl,HC.out⟩
theorem y81 {xs ys:List GC} {k:Nat} {x y:GC} (h:(xs.take k).map GC.g=(ys.take k).map GC.g) (hx:xs[k]?=some x) (hy:ys[k]?=some y) (he:x.g=y.g):(xs.take (k+1)).map GC.g=(ys.take (k+1)).map GC.g:=by
 rw [List.take_add_one,List.take_add_one,List.map_append,List.map_append,h,hx,hy];simp [he]
theorem v7q {xs ys:List GC} {k:Nat} {x y:GC} (hx:xs[k]?=some x) (hy:ys[k]?=some y) (he:x.g≠y.g):xs.map GC.g≠ys.map GC.g:=fun h=>by
 have h1:=congrArg (fun l=>l[k]?) h;simp only [List.getElem?_map,hx,hy,Option.map_some] at h1;exact he (Option.some.inj h1)
theorem v5c {α:Type} {a b:α} {r:Bool} (h:eqB a b=r):r=true->a=b:=fun e=>Classical.byContradiction (fun n=>by rw [y53 n] at h;rw [<- h] at e;cases e)
theorem y50 (xs ys:List GC) (B:Option Addr) (d:Nat) (B':Option Addr) (d':Nat) (w:World) (hG:Ev NoS w (z4v xs B d)) (hG':Ev NoS w (z4v ys B' d')) (hl:xs.length<=1000000) (hl':ys.length<=1000000)
  (hes:∀ x∈xs,x.g.es.length<=1000000) (hes':∀ x∈ys,x.g.es.length<=1000000) :
  Calls Tryz.prog 37 #[.slice B xs.length d,.slice B' ys.length d',.func (.func 38) #[] #[]] w fun e w'=>e=.returned (.bool (eqB (xs.map GC.g) (ys.map GC.g)))/\Chg NoS w w':=by
 have eg:∀ args w,(callFunc 38 args).run Tryz.prog w=.ok (.enter 38 args) w:=enters_of Tryz.func38 (by kernel_rfl) rfl;have HG:=kf hG;have HG':=kf hG';have HES:=kf hes;have HES':=kf hes';have HX1:=kf (fun h=>y53 (a:=xs.map GC.g) (b:=ys.map GC.g) h);have HX2:=kf (fun h=>y52 (a:=xs.map GC.g) (b:=ys.map GC.g) h);obtain⟨R,hR⟩:∃ R,R=eqB (xs.map GC.g) (ys.map GC.g):=⟨_,rfl⟩
 rw [<- hR] at HX1 HX2 ⊢;obtain⟨m,hm⟩:∃ m,m=xs.length:=⟨_,rfl⟩
 obtain⟨n,hn⟩:∃ n,n=ys.length:=⟨_,rfl⟩
 rw [<- hm] at hl ⊢;rw [<- hn] at hl' ⊢;have HM:=kf hm;have HN:=kf hn;clear hG hG' hes hes' hR hm hn;go_enter Tryz.func37,Tryz.ntmps37;by_cases hmn:m=n;rotate_left
 ·have HZ:=kf (HX1.out (fun h=>hmn (by have h1:=congrArg List.length h;rw [List.length_map,List.length_map] at h1;rw [HM.out,HN.out,h1])));have d1:decide ((m:Int)=(n:Int))=false:=by simp;omega
  have d2:decide (m=n)=false:=by simpa using hmn
  have d3:((m:Int) != (n:Int))=true:=by simp;omega
  clear hmn;go_wp2_with fail;go_ret;exact⟨by rw [HZ.out];rfl,Chg.refl _ _⟩
 subst hmn;go_wp2_with fail;go_loopw [17] (fun vi wr=>∃ k:Nat,k<=m/\vi=.int .i64 k/\Hid (Chg NoS w wr)/\Hid ((xs.take k).map GC.g=(ys.take k).map GC.g)) (fun vi _=>m-(intOf vi).toNat)
 case atStart=>exact⟨0,Nat.zero_le _,rfl,kf (Chg.refl _ _),rfl⟩
 case round =>
  obtain⟨k,hk,rfl,HCk,HT⟩:=hrel;by_cases hlt:k<m;rotate_left
  ·have hkm:k=m:=by omega
   have HZ:=kf (HX2.out (by have h1:=HT.out;rwa [List.take_of_length_le (by have:=HM.out;omega),List.take_of_length_le (by have:=HN.out;omega)] at h1));have d1:decide ((k:Int)<m)=false:=by simp;omega
   have d2:decide (k<m)=false:=by simp;omega
   clear hlt hkm;go_wp2_with fail;refine bodyPost_ret (v:=.bool true) (by simp [results,Tryz.results37,go_sem]) rfl ?_;exact⟨by rw [HZ.out],HCk.out⟩
  obtain⟨x,hx⟩:∃ x,xs[k]?=some x:=⟨_,List.getElem?_eq_getElem (by have:=HM.out;omega)⟩
  obtain⟨y,hy⟩:∃ y,ys[k]?=some y:=⟨_,List.getElem?_eq_getElem (by have:=HN.out;omega)⟩
  obtain⟨b,off,rfl,hc⟩:=z7e (HG.out wr HCk.out) (by have:=HM.out;omega);obtain⟨b',off',rfl,hc'⟩:=z7e (HG'.out wr HCk.out) (by have:=HN.out;omega);obtain⟨c0,c1⟩:=hc k x hx;obtain⟨e0,e1⟩:=hc' k y hy;have HEx:Hid (∀ W,Chg NoS wr W->Ev NoS W (EnS x.g.es x.A x.c)):=fun W hW V hV=>(HG.out V ((HCk.out.trans hW (fun _ _ e=>e)).trans hV (fun _ _ e=>e))).2 x (List.mem_of_getElem? hx);have HEy:Hid (∀ W,Chg NoS wr W->Ev NoS W (EnS y.g.es y.A y.c)):=fun W hW V hV=>(HG'.out V ((HCk.out.trans hW (fun _ _ e=>e)).trans hV (fun _ _ e=>e))).2 y (List.mem_of_getElem? hy);have HSG:=kf (fun W hW=>y6b x.g.first y.g.first x.g.es y.g.es x.A x.c y.A y.c W (HEx.out W hW) (HEy.out W hW) (HES.out x (List.mem_of_getElem? hx)) (HES'.out y (List.mem_of_getElem? hy)));have HNE:=kf (fun h=>HX1.out (v7q hx hy h));have HNX:=kf (fun h=>y81 HT.out hx hy h);clear hc hc' hx hy HEx HEy;obtain⟨⟨f,es⟩,xA,xc⟩:=x;obtain⟨⟨f2,fs⟩,yA,yc⟩:=y;simp only [] at c0 c1 e0 e1 HSG HNE HNX;have key:∀ V,Chg NoS wr V->∀ g i v,wr.cell? ⟨g,i,none⟩=some v->V.cell? ⟨g,i,none⟩=some v:=fun V hV g i v h=>(hV.cell (p:=⟨g,i,none⟩) (z04 h) (fun e=>e)).trans h;have e0a:=fun o=>key _ ((Chg.refl NoS wr).alloc o) _ _ _ e0;have e1a:=fun o=>key _ ((Chg.refl NoS wr).alloc o) _ _ _ e1;clear key;obtain⟨ln,hln⟩:∃ ln,ln=es.length:=⟨_,rfl⟩
  obtain⟨l2,hl2⟩:∃ l2,l2=fs.length:=⟨_,rfl⟩
  rw [<- hln] at c1;rw [<- hl2] at e1;simp only [<- hl2] at e1a;rw [<- hln,<- hl2] at HSG;obtain⟨r,hr⟩:∃ r,eqB (⟨f,es⟩:XGr) ⟨f2,fs⟩=r:=⟨_,rfl⟩
  rw [hr] at HSG;have HR:=kf hr;clear hln hl2 hr;have HCA:=kf ((HCk.out.alloc (.cells #[.int .i64 f,.slice xA ln xc] 56)).alloc (.cells #[.int .i64 f2,.slice yA l2 yc] 56));have HCB:=kf (((Chg.refl NoS wr).alloc (.cells #[.int .i64 f,.slice xA ln xc] 56)).alloc (.cells #[.int .i64 f2,.slice yA l2 yc] 56));have HB:=kf ((Blk.new wr 56 #[.int .i64 f,.slice xA ln xc]).alloc (.cells #[.int .i64 f2,.slice yA l2 yc] 56));have HB2:=kf (z30 wr (.cells #[.int .i64 f,.slice xA ln xc] 56) 56 #[.int .i64 f2,.slice yA l2 yc]);obtain⟨g3,hg3⟩:∃ g,g=wr.heap.size+1:=⟨_,rfl⟩
  obtain⟨g2,hg2⟩:∃ g,g=wr.heap.size:=⟨_,rfl⟩
  rw [<- hg3] at HB2;rw [<- hg2] at HB;go_upto_region 7 with fail;rw [<- hg2];rw [show g2+1=g3 from by omega];obtain⟨W3,hW3⟩:∃ W3,W3=(wr.alloc (.cells #[.int .i64 f,.slice xA ln xc] 56)).alloc (.cells #[.int .i64 f2,.slice yA l2 yc] 56):=⟨_,rfl⟩
  rw [<- hW3] at HCA HCB HB HB2 ⊢;clear hW3 hg2 hg3 c0 c1 e0 e1 e0a e1a HCk;have q0:W3.cell? ⟨g2,0,none⟩=some (.int .i64 f):=HB.out.cell 0;have q1:W3.cell? ⟨g2,1,none⟩=some (.slice xA ln xc):=HB.out.cell 1;have p0:W3.cell? ⟨g3,0,none⟩=some (.int .i64 f2):=HB2.out.cell 0;have p1:W3.cell? ⟨g3,1,none⟩=some (.slice yA l2 yc):=HB2.out.cell 1;have HSG:=kf (HSG.out W3 HCB.out);cases r with
  |false =>
   have HZ:=kf (HNE.out (fun h=>by have h1:=HR.out;rw [y52 h] at h1;cases h1));go_wp2_with (go_at_fn 38;refine HSG.out.mono ?_;rintro e w4 ⟨rfl,hc4⟩;have HC4:=kf (HCA.out.trans hc4 (fun _ _ e=>e));clear hc4);refine bodyPost_ret (v:=.bool false) (by simp [results,Tryz.results37,go_sem]) rfl ?_;exact⟨by rw [HZ.out],HC4.out⟩
  |true =>
   have HNx:=kf (HNX.out (v5c HR.out rfl));go_wp2_with (go_at_fn 38;refine HSG.out.mono ?_;rintro e w4 ⟨rfl,hc4⟩;have HC4:=kf (HCA.out.trans hc4 (fun _ _ e=>e));clear hc4);go_roundw
   case rel=>exact⟨k+1,by omega,by go_num,HC4,HNx⟩
   case measure=>simp [intOf];omega
noncomputable def z34 (a b:List XGr) (t t':VT):Bool:=eqB a b&&decide (z3o t t'=0)
theorem y5d (xs ys:List GC) (B:Option Addr) (d:Nat) (B':Option Addr) (d':Nat) (t t':VT) (vk vn:Int) (vs:ByteArray) (vA:Option Addr) (vl vc:Nat) (uk un:Int) (us:ByteArray) (uA:Option Addr) (ul uc:Nat) (w:World)
  (hG:Ev NoS w (z4v xs B d)) (hG':Ev NoS w (z4v ys B' d')) (hv:ValIs w t ⟨vk,vn,vs,vA,vl,vc⟩) (hv':ValIs w t' ⟨uk,un,us,uA,ul,uc⟩) (hl:xs.length<=1000000) (hl':ys.length<=1000000) (hes:∀ x∈xs,x.g.es.length<=1000000) (hes':∀ x∈ys,x.g.es.length<=1000000) :
  Calls Tryz.prog 16 #[.agg #[.slice B xs.length d,.int .i64 vk,.int .i64 vn,.string vs,.slice vA vl vc],.agg #[.slice B' ys.length d',.int .i64 uk,.int .i64 un,.string us,.slice uA ul uc]] w fun e w'=>e=.returned (.bool (z34 (xs.map GC.g) (ys.map GC.g) t t'))/\Chg NoS w w':=by
 have HS:=kf (fun W (h:Chg NoS w W)=>(show Calls Tryz.prog 25 #[.agg #[.int .i64 vk,.int .i64 vn,.string vs,.slice vA vl vc],.agg #[.int .i64 uk,.int .i64 un,.string us,.slice uA ul uc]] W fun e w'=>e=.returned (.bool (decide (z3o t t'=0)))/\Chg NoS W w' from y2l t t' ⟨vk,vn,vs,vA,vl,vc⟩ ⟨uk,un,us,uA,ul,uc⟩ W (hv.chg h) (hv'.chg h)));have HE:=kf (fun W (h:Chg NoS w W)=>y50 xs ys B d B' d' W (hG.chg h) (hG'.chg h) hl hl' hes hes');obtain⟨v,hvv⟩:∃ v,v=decide (z3o t t'=0):=⟨_,rfl⟩
 obtain⟨q,hqq⟩:∃ q,q=eqB (xs.map GC.g) (ys.map GC.g):=⟨_,rfl⟩
 have HQ:=kf hqq;rw [<- hvv] at HS;have HX1:=kf (show v=false->z34 (xs.map GC.g) (ys.map GC.g) t t'=false from fun h=>by unfold z34;rw [<- hvv,h,Bool.and_false]);have HX2:=kf (show q=false->z34 (xs.map GC.g) (ys.map GC.g) t t'=false from fun h=>by unfold z34;rw [<- hqq,h,Bool.false_and]);have HX3:=kf (show v=true->q=true->z34 (xs.map GC.g) (ys.map GC.g) t t'=true from fun h h2=>by unfold z34;rw [<- hqq,<- hvv,h,h2];rfl);obtain⟨R,hR⟩:∃ R,R=z34 (xs.map GC.g) (ys.map GC.g) t t':=⟨_,rfl⟩
 rw [<- hR] at HX1 HX2 HX3 ⊢;rw [<- hqq] at HE;obtain⟨m,hm⟩:∃ m,m=xs.length:=⟨_,rfl⟩
 obtain⟨n,hn⟩:∃ n,n=ys.length:=⟨_,rfl⟩
 rw [<- hm,<- hn] at HE;rw [<- hm,<- hn];have HB:=kf ((Blk.new w 36 #[.slice B m d,.int .i64 vk,.int .i64 vn,.string vs,.slice vA vl vc]).alloc (.cells #[.slice B' n d',.int .i64 uk,.int .i64 un,.string us,.slice uA ul uc] 36));have HB2:=kf (z30 w (.cells #[.slice B m d,.int .i64 vk,.int .i64 vn,.string vs,.slice vA vl vc] 36) 36 #[.slice B' n d',.int .i64 uk,.int .i64 un,.string us,.slice uA ul uc]);have HC:=kf (((Chg.refl NoS w).alloc (.cells #[.slice B m d,.int .i64 vk,.int .i64 vn,.string vs,.slice vA vl vc] 36)).alloc (.cells #[.slice B' n d',.int .i64 uk,.int .i64 un,.string us,.slice uA ul uc] 36));obtain⟨g3,hg3⟩:∃ g,g=w.heap.size+1:=⟨_,rfl⟩
 obtain⟨g2,hg2⟩:∃ g,g=w.heap.size:=⟨_,rfl⟩
 rw [<- hg3] at HB2;rw [<- hg2] at HB;clear hG hG' hv hv' hl hl' hes hes' hvv hqq hR hm hn HQ;go_enter Tryz.func16,Tryz.ntmps16;go_upto_region 1 with fail;rw [<- hg2];rw [show g2+1=g3 from by omega];obtain⟨W1,hW1⟩:∃ W1,W1=(w.alloc (.cells #[.slice B m d,.int .i64 vk,.int .i64 vn,.string vs,.slice vA vl vc] 36)).alloc (.cells #[.slice B' n d',.int .i64 uk,.int .i64 un,.string us,.slice uA ul uc] 36):=⟨_,rfl⟩
 rw [<- hW1] at HB HB2 HC ⊢;clear hW1 hg2 hg3;obtain⟨q0,q1,q2,q3,q4,-⟩:=HB.out.cl5;obtain⟨p0,p1,p2,p3,p4,-⟩:=HB2.out.cl5;cases q with
 |false =>
  have HZ:=kf (HX2.out rfl);go_wp2_with (go_at_call 37;refine(HE.out _ HC.out).mono ?_;rintro e w4 ⟨rfl,hc4⟩;have HC4:=kf (HC.out.trans hc4 (fun _ _ e=>e));clear hc4);go_ret;exact⟨by rw [HZ.out];rfl,HC4.out⟩
 |true =>
  have HZ:=kf (show R=v from by
   cases v with
   |false=>exact HX1.out rfl
   |true=>exact HX3.out rfl rfl)
  go_wp2_with (first
   |(go_at_call 37;refine(HE.out _ HC.out).mono ?_;rintro e w4 ⟨rfl,hc4⟩;have HC4:=kf (HC.out.trans hc4 (fun _ _ e=>e));have hb3:=HB.out.chg hc4 (fun e=>e);have hb4:=HB2.out.chg hc4 (fun e=>e);clear q0 q1 q2 q3 q4 p0 p1 p2 p3 p4;obtain⟨q0,q1,q2,q3,q4,-⟩:=hb3.cl5;obtain⟨p0,p1,p2,p3,p4,-⟩:=hb4.cl5;clear hc4 hb3 hb4)
   |(go_at_call 25;refine(HS.out _ HC4.out).mono ?_;rintro e w5 ⟨rfl,hc5⟩;have HC5:=kf (HC4.out.trans hc5 (fun _ _ e=>e));clear hc5))
  go_ret;exact⟨by rw [HZ.out];rfl,HC5.out⟩
end Go.Proofs.YtnhlalkeaaiefaaGreatDoor
