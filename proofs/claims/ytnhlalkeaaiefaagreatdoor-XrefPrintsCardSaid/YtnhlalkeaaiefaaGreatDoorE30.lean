import Derived.Test.YtnhlalkeaaiefaaGreatDoorE29
set_option linter.unusedVariables false
set_option maxHeartbeats 64000000
set_option maxRecDepth 100000
set_option linter.unusedSimpArgs false
namespace Go.Proofs.YtnhlalkeaaiefaaGreatDoor
open Go.RowKit
theorem y1b (xs ys:List GC) (B:Option Addr) (d:Nat) (B':Option Addr) (d':Nat) (t t':VT) (vk vn:Int) (vs:ByteArray) (vA:Option Addr) (vl vc:Nat) (uk un:Int) (us:ByteArray) (uA:Option Addr) (ul uc:Nat) (w:World)
  (hG:Ev NoS w (z4v xs B d)) (hG':Ev NoS w (z4v ys B' d')) (hv:ValIs w t ⟨vk,vn,vs,vA,vl,vc⟩) (hv':ValIs w t' ⟨uk,un,us,uA,ul,uc⟩) (hl:xs.length<=1000000) (hl':ys.length<=1000000) (hes:∀ x∈xs,x.g.es.length<=1000000) (hes':∀ x∈ys,x.g.es.length<=1000000) :
  Calls Tryz.prog 17 #[.agg #[.slice B xs.length d,.int .i64 vk,.int .i64 vn,.string vs,.slice vA vl vc],.agg #[.slice B' ys.length d',.int .i64 uk,.int .i64 un,.string us,.slice uA ul uc]] w fun e w'=>e=.returned (.bool (z34 (xs.map GC.g) (ys.map GC.g) t t'))/\Chg NoS w w':=by
 have HS:=kf (fun W (h:Chg NoS w W)=>(show Calls Tryz.prog 39 #[.agg #[.int .i64 vk,.int .i64 vn,.string vs,.slice vA vl vc],.agg #[.int .i64 uk,.int .i64 un,.string us,.slice uA ul uc]] W fun e w'=>e=.returned (.bool (decide (z3o t t'=0)))/\Chg NoS W w' from y15 t t' ⟨vk,vn,vs,vA,vl,vc⟩ ⟨uk,un,us,uA,ul,uc⟩ W (hv.chg h) (hv'.chg h)));obtain⟨v,hvv⟩:∃ v,v=decide (z3o t t'=0):=⟨_,rfl⟩
 obtain⟨q,hqq⟩:∃ q,q=eqB (xs.map GC.g) (ys.map GC.g):=⟨_,rfl⟩
 have HQ:=kf hqq;rw [<- hvv] at HS;have HX1:=kf (show v=false->z34 (xs.map GC.g) (ys.map GC.g) t t'=false from fun h=>by unfold z34;rw [<- hvv,h,Bool.and_false]);have HX2:=kf (show q=false->z34 (xs.map GC.g) (ys.map GC.g) t t'=false from fun h=>by unfold z34;rw [<- hqq,h,Bool.false_and]);have HX3:=kf (show v=true->q=true->z34 (xs.map GC.g) (ys.map GC.g) t t'=true from fun h h2=>by unfold z34;rw [<- hqq,<- hvv,h,h2];rfl);obtain⟨R,hR⟩:∃ R,R=z34 (xs.map GC.g) (ys.map GC.g) t t':=⟨_,rfl⟩
 rw [<- hR] at HX1 HX2 HX3 ⊢;have HY2:=kf (fun(h:xs.map GC.g≠ys.map GC.g)=>HX2.out (HQ.out.trans (y53 h)));have HY3:=kf (fun(h:v=true) (h2:xs.map GC.g=ys.map GC.g)=>HX3.out h (HQ.out.trans (y52 h2)));have HG:=kf hG;have HG':=kf hG';have HES:=kf hes;have HES':=kf hes';obtain⟨m,hm⟩:∃ m,m=xs.length:=⟨_,rfl⟩
 obtain⟨n,hn⟩:∃ n,n=ys.length:=⟨_,rfl⟩
 have HM:=kf hm;have HN:=kf hn;rw [<- hm] at hl ⊢;rw [<- hn] at hl' ⊢;have HB:=kf ((Blk.new w 27 #[.slice B m d,.int .i64 vk,.int .i64 vn,.string vs,.slice vA vl vc]).alloc (.cells #[.slice B' n d',.int .i64 uk,.int .i64 un,.string us,.slice uA ul uc] 27));have HB2:=kf (z30 w (.cells #[.slice B m d,.int .i64 vk,.int .i64 vn,.string vs,.slice vA vl vc] 27) 27 #[.slice B' n d',.int .i64 uk,.int .i64 un,.string us,.slice uA ul uc]);have HC:=kf (((Chg.refl NoS w).alloc (.cells #[.slice B m d,.int .i64 vk,.int .i64 vn,.string vs,.slice vA vl vc] 27)).alloc (.cells #[.slice B' n d',.int .i64 uk,.int .i64 un,.string us,.slice uA ul uc] 27));obtain⟨g3,hg3⟩:∃ g,g=w.heap.size+1:=⟨_,rfl⟩
 obtain⟨g2,hg2⟩:∃ g,g=w.heap.size:=⟨_,rfl⟩
 rw [<- hg3] at HB2;rw [<- hg2] at HB;clear hG hG' hv hv' hes hes' hvv hqq hR hm hn HQ HX2 HX3;go_enter Tryz.func17,Tryz.ntmps17;go_upto_region 1 with fail;rw [<- hg2];rw [show g2+1=g3 from by omega];obtain⟨W1,hW1⟩:∃ W1,W1=(w.alloc (.cells #[.slice B m d,.int .i64 vk,.int .i64 vn,.string vs,.slice vA vl vc] 27)).alloc (.cells #[.slice B' n d',.int .i64 uk,.int .i64 un,.string us,.slice uA ul uc] 27):=⟨_,rfl⟩
 rw [<- hW1] at HB HB2 HC ⊢;clear hW1 hg2 hg3;obtain⟨q0,q1,q2,q3,q4,-⟩:=HB.out.cl5;obtain⟨p0,p1,p2,p3,p4,-⟩:=HB2.out.cl5;by_cases hmn:m=n;rotate_left
 ·have HZ:=kf (HY2.out (fun h=>hmn (by have h1:=congrArg List.length h;rw [List.length_map,List.length_map] at h1;rw [HM.out,HN.out,h1])));have d1:decide ((m:Int)=(n:Int))=false:=by simp;omega
  have d2:decide (m=n)=false:=by simpa using hmn
  have d3:((m:Int) != (n:Int))=true:=by simp;omega
  clear hmn;go_wp2_with fail;go_ret;exact⟨by rw [HZ.out];rfl,HC.out⟩
 subst hmn;have d0:((m:Int) != (m:Int))=false:=by simp
 cases v with
 |false =>
  have HZ:=kf (HX1.out rfl);go_wp2_with (go_at_call 39;refine(HS.out _ HC.out).mono ?_;rintro e w3 ⟨rfl,h3⟩;have HC3:=kf (HC.out.trans h3 (fun _ _ e=>e));clear h3);go_ret;exact⟨by rw [HZ.out];rfl,HC3.out⟩
 |true =>
 have HYZ:=kf (fun h=>HY3.out rfl h);go_wp2_with (go_at_call 39;refine(HS.out _ HC.out).mono ?_;rintro e w3 ⟨rfl,h3⟩;have HC3:=kf h3;clear h3 q0 q1 q2 q3 q4 p0 p1 p2 p3 p4);clear HX1 d0;go_loopw [5] (fun vi wr=>∃ k:Nat,k<=m/\vi=.int .i64 (k:Nat)/\Hid (Chg NoS W1 wr)/\Hid ((xs.take k).map GC.g=(ys.take k).map GC.g)) (fun vi _=>m-(intOf vi).toNat)
 case atStart=>exact⟨0,Nat.zero_le _,rfl,HC3,rfl⟩
 case round =>
  obtain⟨k,hk,rfl,HCk,HT⟩:=hrel;have q0:wr.cell? ⟨g2,0,none⟩=some (.slice B m d):=(HB.out.chg HCk.out (fun e=>e)).cell 0;have p0:wr.cell? ⟨g3,0,none⟩=some (.slice B' m d'):=(HB2.out.chg HCk.out (fun e=>e)).cell 0;by_cases hlt:k<m;rotate_left
  ·have hkm:k=m:=by omega
   have HZ:=kf (HYZ.out (by have h1:=HT.out;rwa [List.take_of_length_le (by have:=HM.out;omega),List.take_of_length_le (by have:=HN.out;omega)] at h1));have d1:decide ((k:Int)<m)=false:=by simp;omega
   have d2:decide (k<m)=false:=by simp;omega
   clear hlt hkm;go_wp2_with fail;refine bodyPost_ret (v:=.bool true) (by simp [results,Tryz.results17,go_sem]) rfl ?_;exact⟨by first|(rw [HZ.out];done)|(rw [HZ.out];trivial),HC.out.trans HCk.out (fun _ _ e=>e)⟩
  obtain⟨x,hx⟩:∃ x,xs[k]?=some x:=⟨_,List.getElem?_eq_getElem (by have:=HM.out;omega)⟩
  obtain⟨y,hy⟩:∃ y,ys[k]?=some y:=⟨_,List.getElem?_eq_getElem (by have:=HN.out;omega)⟩
  have hcw:=HC.out.trans HCk.out (fun _ _ e=>e);have hGr:=HG.out wr hcw;have hGr':=HG'.out wr hcw;obtain⟨b,off,rfl,hcell⟩:=z7e hGr (by have:=HM.out;omega);obtain⟨b',off',rfl,hcell'⟩:=z7e hGr' (by have:=HN.out;omega);obtain⟨c0,c1⟩:=hcell k x hx;obtain⟨e0,e1⟩:=hcell' k y hy;have HEx:=kf (hGr.2 x (List.mem_of_getElem? hx));have HEy:=kf (hGr'.2 y (List.mem_of_getElem? hy));have hb1:=HES.out x (List.mem_of_getElem? hx);have hb2:=HES'.out y (List.mem_of_getElem? hy);have HNE:=kf (fun h=>HY2.out (v7q hx hy h));have HNX:=kf (fun h=>y81 HT.out hx hy h);obtain⟨⟨first,es⟩,xA,xc⟩:=x;obtain⟨⟨f2,fs⟩,yA,yc⟩:=y;simp only [] at c0 c1 e0 e1 HEx HEy hb1 hb2 HNE HNX;obtain⟨ln,hln⟩:∃ ln,ln=es.length:=⟨_,rfl⟩
  obtain⟨l2,hl2⟩:∃ l2,l2=fs.length:=⟨_,rfl⟩
  have HLN:=kf hln;have HL2:=kf hl2;rw [<- hln] at c1 hb1;rw [<- hl2] at e1 hb2;clear hcell hcell' hGr hGr' hx hy hln hl2 hcw;have d1:decide ((k:Int)<m)=true:=by simp;omega
  have key:∀ V,Chg NoS wr V->∀ g i v,wr.cell? ⟨g,i,none⟩=some v->V.cell? ⟨g,i,none⟩=some v:=fun V hV g i v h=>(hV.cell (p:=⟨g,i,none⟩) (z04 h) (fun e=>e)).trans h;have q0a:=fun o=>key _ ((Chg.refl NoS wr).alloc o) _ _ _ q0;have q0b:=fun o o'=>key _ (((Chg.refl NoS wr).alloc o).alloc o') _ _ _ q0;have p0a:=fun o=>key _ ((Chg.refl NoS wr).alloc o) _ _ _ p0;have p0b:=fun o o'=>key _ (((Chg.refl NoS wr).alloc o).alloc o') _ _ _ p0;have c0a:=fun o=>key _ ((Chg.refl NoS wr).alloc o) _ _ _ c0;have c0b:=fun o o'=>key _ (((Chg.refl NoS wr).alloc o).alloc o') _ _ _ c0;have c1a:=fun o=>key _ ((Chg.refl NoS wr).alloc o) _ _ _ c1;have c1b:=fun o o'=>key _ (((Chg.refl NoS wr).alloc o).alloc o') _ _ _ c1;have e0a:=fun o=>key _ ((Chg.refl NoS wr).alloc o) _ _ _ e0;have e0b:=fun o o'=>key _ (((Chg.refl NoS wr).alloc o).alloc o') _ _ _ e0;have e1a:=fun o=>key _ ((Chg.refl NoS wr).alloc o) _ _ _ e1;have e1b:=fun o o'=>key _ (((Chg.refl NoS wr).alloc o).alloc o') _ _ _ e1;clear key;go_upto_region 6 with fail;go_cut [6,7] from 24 to 104 (fun s6 s7 wx=>∃ g6 g7,s6=.pointer (some ⟨g6,0,none⟩)/\s7=.pointer (some ⟨g7,0,none⟩)/\Hid (Blk wx g6 56 #[.int .i64 first,.slice xA ln xc]/\Blk wx g7 56 #[.int .i64 f2,.slice yA l2 yc]/\Chg NoS wr wx))
  case first =>
   go_region
   all_goals
    go_wp2_with fail;go_meet
    first
     |exact⟨wr.heap.size,wr.heap.size+1,rfl,rfl,kf ⟨((Blk.new wr 56 #[.int .i64 first,.slice xA ln xc]).alloc _).drew,(z30 wr _ 56 #[.int .i64 f2,.slice yA l2 yc]).drew,(((Chg.refl NoS wr).alloc _).alloc _).drew⟩⟩
     |exact⟨wr.heap.size+1,wr.heap.size,rfl,rfl,kf ⟨(z30 wr _ 56 #[.int .i64 first,.slice xA ln xc]).drew,((Blk.new wr 56 #[.int .i64 f2,.slice yA l2 yc]).alloc _).drew,(((Chg.refl NoS wr).alloc _).alloc _).drew⟩⟩
  case rest =>
   obtain⟨g6,g7,rfl,rfl,hcx⟩:=hcut;have HB6:=kf hcx.out.1;have HB7:=kf hcx.out.2.1;have HCx:=kf (HCk.out.trans hcx.out.2.2 (fun _ _ e=>e));have HEX:=kf (fun V (hV:Chg NoS wc V)=>(show EnS es xA xc V from⟨Src.below (w0:=wr) HEx.out.1 (hcx.out.2.2.trans hV (fun _ _ e=>e)),HEx.out.2⟩));have HEY:=kf (fun V (hV:Chg NoS wc V)=>(show EnS fs yA yc V from⟨Src.below (w0:=wr) HEy.out.1 (hcx.out.2.2.trans hV (fun _ _ e=>e)),HEy.out.2⟩));clear hcx q0 p0 c0 c1 e0 e1 q0a q0b p0a p0b c0a c0b c1a c1b e0a e0b e1a e1b HEx HEy;obtain⟨W6,hW6⟩:∃ W6,W6=wc:=⟨_,rfl⟩
   subst hW6;have x0:W6.cell? ⟨g6,0,none⟩=some (.int .i64 first):=HB6.out.cell 0;have x1:W6.cell? ⟨g6,1,none⟩=some (.slice xA ln xc):=HB6.out.cell 1;have y0:W6.cell? ⟨g7,0,none⟩=some (.int .i64 f2):=HB7.out.cell 0;have y1:W6.cell? ⟨g7,1,none⟩=some (.slice yA l2 yc):=HB7.out.cell 1;by_cases hf:first=f2
   rotate_left
   ·have HZ:=kf (HNE.out (fun e=>hf (by injection e)));have d2:(first != f2)=true:=by simpa using hf
    clear hf;go_wp2_with fail;refine bodyPost_ret (v:=.bool false) (by simp [results,Tryz.results17,go_sem]) rfl ?_;exact⟨by rw [HZ.out],HC.out.trans HCx.out (fun _ _ e=>e)⟩
   subst hf;have d2:(first != first)=false:=by simp
   by_cases hll:ln=l2;rotate_left
   ·have HZ:=kf (HNE.out (fun e=>hll (by injection e with _ e2;rw [HLN.out,HL2.out,e2])));have d3:((ln:Int) != (l2:Int))=true:=by simp;omega
    clear hll;go_wp2_with fail;refine bodyPost_ret (v:=.bool false) (by simp [results,Tryz.results17,go_sem]) rfl ?_;exact⟨by rw [HZ.out],HC.out.trans HCx.out (fun _ _ e=>e)⟩
   subst hll;have d3:((ln:Int) != (ln:Int))=false:=by simp
   go_wp2_with fail;clear x0 x1 y0 y1 d2 d3;obtain⟨wo,hwo⟩:∃ wo:World,wo=wr:=⟨_,rfl⟩
   clear hwo;go_loopw [8] (fun vj wr2=>∃ j:Nat,j<=ln/\vj=.int .i64 (j:Nat)/\Hid (Chg NoS W6 wr2)/\Hid (es.take j=fs.take j)) (fun vj _=>ln-(intOf vj).toNat)
   case atStart=>exact⟨0,Nat.zero_le _,rfl,kf (Chg.refl _ _),rfl⟩
   case round =>
    obtain⟨j,hj,rfl,HCj,HTj⟩:=hrel;have x1:=(HB6.out.chg HCj.out (fun e=>e)).cell 1;have y1:=(HB7.out.chg HCj.out (fun e=>e)).cell 1;simp only [List.getElem?_toArray] at x1 y1;by_cases hjl:j<ln;rotate_left
    ·have HZ:=kf (HNX.out (congrArg (XGr.mk first) (y2b HTj.out (by have:=HLN.out;omega) (by have:=HL2.out;omega))));have d2:decide ((j:Int)<ln)=false:=by simp;omega
     have d3:decide (j<ln)=false:=by simp;omega
     go_wp2_with fail;go_roundw
     case rel=>exact⟨k+1,by omega,by go_num,kf (HCx.out.trans HCj.out (fun _ _ e=>e)),HZ⟩
     case measure=>simp [intOf];omega
    obtain⟨e,he⟩:∃ e,es[j]?=some e:=⟨_,List.getElem?_eq_getElem (by have:=HLN.out;omega)⟩
    obtain⟨e',he'⟩:∃ e,fs[j]?=some e:=⟨_,List.getElem?_eq_getElem (by have:=HL2.out;omega)⟩
    obtain⟨b2,off2,rfl,hc2⟩:=z8x (HEX.out _ HCj.out) (by have:=HLN.out;omega);obtain⟨b3,off3,rfl,hc3⟩:=z8x (HEY.out _ HCj.out) (by have:=HL2.out;omega);obtain⟨f0,f1,f2'⟩:=hc2 j e he;obtain⟨h0,h1,h2⟩:=hc3 j e' he';have HH:=kf he;have HH':=kf he';obtain⟨p,g,u⟩:=e;obtain⟨p2,gg2,u2⟩:=e';simp only [] at f0 f1 f2' h0 h1 h2;have d2:decide ((j:Int)<ln)=true:=by simp;omega
    clear hc2 hc3 he he';have HZ:=kf (fun h=>HNE.out (fun e=>v7g HH.out HH'.out (v2q (p:=p) (p2:=p2) (g:=g) (g2:=gg2) (u:=u) (u2:=u2) h) (by injection e)));by_cases hp:p=p2;rotate_left
    ·have HZ:=kf (HZ.out (fun h=>hp h.1));have s1:(p != p2)=true:=by simpa using hp
     clear hp;go_upto_region 12 with fail;go_quiet (fail);go_wp2_with fail;refine bodyPost_ret (v:=.bool false) (by simp [results,Tryz.results17,go_sem]) rfl ?_;exact⟨by rw [HZ.out],(HC.out.trans HCx.out (fun _ _ e=>e)).trans (HCj.out.drewN _) (fun _ _ e=>e)⟩
    by_cases hg:g=gg2;rotate_left
    ·have HZ:=kf (HZ.out (fun h=>hg h.2.1));have s1:(p != p2)=false:=by simpa using hp
     have s2:(g != gg2)=true:=by simpa using hg
     clear hg;go_upto_region 12 with fail;go_quiet (fail);go_wp2_with fail;refine bodyPost_ret (v:=.bool false) (by simp [results,Tryz.results17,go_sem]) rfl ?_;exact⟨by rw [HZ.out],(HC.out.trans HCx.out (fun _ _ e=>e)).trans (HCj.out.drewN _) (fun _ _ e=>e)⟩
    by_cases hu:u=u2;rotate_left
    ·have HZ:=kf (HZ.out (fun h=>hu h.2.2));have s1:(p != p2)=false:=by simpa using hp
     have s2:(g != gg2)=false:=by simpa using hg
     have s3:(u != u2)=true:=by simpa using hu
     have s4:(u==u2)=false:=by simpa using hu
     clear hu;go_upto_region 12 with fail;go_quiet (fail);go_wp2_with fail;refine bodyPost_ret (v:=.bool false) (by simp [results,Tryz.results17,go_sem]) rfl ?_;exact⟨by rw [HZ.out],(HC.out.trans HCx.out (fun _ _ e=>e)).trans (HCj.out.drewN _) (fun _ _ e=>e)⟩
    subst hp hg hu;have s1:(p != p)=false:=by simp
    have s2:(g != g)=false:=by simp
    have s3:(u != u)=false:=by simp
    have HNx:=kf (z9k HTj.out HH.out HH'.out rfl);go_upto_region 12 with fail;go_quiet (fail);go_wp2_with fail;go_roundw
    case rel=>exact⟨j+1,by omega,by go_num,kf (HCj.out.drewN _),HNx⟩
    case measure=>simp [intOf];omega
end Go.Proofs.YtnhlalkeaaiefaaGreatDoor
