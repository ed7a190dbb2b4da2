/- Merged by program. -/
import Derived.Test.YthejpkflcgjdoaaGreatDoorE30
set_option linter.unusedVariables false
set_option linter.unusedSimpArgs false
namespace Go.Proofs.YthejpkflcgjdoaaGreatDoor
open Go.RowKit
def XVTo (w0:World) (bs:List Nat) (A:Option Addr) (c R:Nat) (last:Bool) (w:World) (t:VT) (s:FS) (e:Ending) (w':World):Prop :=
 ∃ v:VC,e=.returned v.val/\Ins (fun i=>i<w.heap.size) w' t v/\XB w0 bs A c R last s w'/\Chg (Only R) w w'
set_option maxHeartbeats 8000000 in
set_option maxRecDepth 100000 in
theorem xdict_any {w0 w:World} {bs:List Nat} {A:Option Addr} {c R:Nat} {last:Bool} {s:FS} (hB:RSrc w0 bs A c) (h:XB w0 bs A c R last s w) :
  Calls Tryz.prog 42 #[.pointer (some ⟨R,0,none⟩)] w (XVTo w0 bs A c R last w (dicX bs last s).1 (dicX bs last s).2):=by
 obtain⟨a,e⟩:=s
 have HR0:=kf h
 have HLT:Hid (R<w.heap.size):=h.lt
 have HW0:Hid (w0.heap.size<=w.heap.size):=h.chg.size
 have HK:=kf (fun W (hW:Chg NoS w0 W)=>qval_ins bs A c a last W (Src.below (w0:=w0) hB.src hW) hB.len hB.cap hB.byt)
 have HN:=kf (show dicX bs last (a,e)=if e≠0 then(nilT,(a,e)) else((runI bs last a []).2.1,((runI bs last a []).2.2:Nat),askX (runI bs last a []).1 (decide ((runI bs last a []).2.1.kind=7))) from rfl)
 obtain⟨P,hP⟩:∃ P,P=runI bs last a []:=⟨_,rfl⟩
 rw [<- hP] at HK HN
 obtain⟨er,t,q⟩:=P
 simp only [] at HN
 unfold ValTI at HK
 simp only [] at HK
 clear hP hB
 have HB2:=kf ((Blk.new w 25 #[.int .i64 0,.int .i64 0,.string ⟨#[]⟩,.slice none 0 0]))
 obtain⟨g2,hg2⟩:∃ g2,g2=w.heap.size:=⟨_,rfl⟩
 rw [<- hg2] at HB2
 have HG2:=kf hg2
 by_cases he:e=0
 ·subst he
  have HZ:=kf (HN.out.trans (if_neg (by simp)))
  clear HN h
  rw [HZ.out]
  simp only []
  have HC1:=kf (((Chg.refl NoS w).alloc (.cells #[.int .i64 0,.int .i64 0,.string ⟨#[]⟩,.slice none 0 0] 25)).alloc (.cells #[.int .i64 0,.int .i64 0,.string ⟨#[]⟩,.slice none 0 0] 25))
  have HB2a:=kf (HB2.out.alloc (.cells #[.int .i64 0,.int .i64 0,.string ⟨#[]⟩,.slice none 0 0] 25))
  have HB3:=kf (Blk.new (w.alloc (.cells #[.int .i64 0,.int .i64 0,.string ⟨#[]⟩,.slice none 0 0] 25)) 25 #[.int .i64 0,.int .i64 0,.string ⟨#[]⟩,.slice none 0 0])
  rw [World.size_alloc] at HB3
  obtain⟨g3,hg3⟩:∃ g3,g3=w.heap.size+1:=⟨_,rfl⟩
  rw [<- hg3] at HB3
  have HG3:=kf hg3
  obtain⟨i0,i1,i2,i3,j1,j3⟩:=(HR0.out.call ((Chg.refl NoS w).alloc (.cells #[.int .i64 0,.int .i64 0,.string ⟨#[]⟩,.slice none 0 0] 25))).cells
  simp only [] at i1 i3
  go_enter Tryz.func42,Tryz.ntmps42
  go_upto_region 4 with fail
  rw [<- hg2]
  rw [show g2+1=g3 from by omega]
  obtain⟨W1,hW1⟩:∃ W1,W1=(w.alloc (.cells #[.int .i64 0,.int .i64 0,.string ⟨#[]⟩,.slice none 0 0] 25)).alloc (.cells #[.int .i64 0,.int .i64 0,.string ⟨#[]⟩,.slice none 0 0] 25):=⟨_,rfl⟩
  rw [<- hW1] at HC1 HB2a HB3 ⊢
  have HS1:Hid (W1.heap.size=w.heap.size+2):=by show _=_;rw [hW1];simp
  clear hW1 hg2 hg3 i0 i1 i2 i3 j1 j3
  have HR1:=kf (HR0.out.call HC1.out)
  have HD:=kf (HR1.out.call ((Chg.refl NoS W1).drew))
  obtain⟨q0,q1,q2,q3,z1,z3⟩:=HR1.out.cells
  simp only [] at q1 q3
  have n1:R≠g3:=by have:=HG3.out;have:=HLT.out;omega
  have n2:g3≠R:=Ne.symm n1
  go_region_with (go_at_call 79;refine(HK.out _ HD.out.chg).mono ?_;rintro e w2 ⟨⟨vk,vn,vs,vA,vl,vc⟩,rfl,hv,hc2⟩;have HV:=kf hv;have HC2:=kf hc2;have HR2:=kf (HD.out.call hc2);obtain⟨x0,x1,x2,x3,y1,y3⟩:=HR2.out.cells;simp only [] at x1 x3;obtain⟨p0,p1,p2,p3,u0,u1,u2,u3⟩:=(HB3.out.drew.chg hc2 (fun e=>e)).cl4;clear hc2 hv;unfold VC.val;simp only [])
  all_goals
   have hge2:w.heap.size<=g2:=by have:=HG2.out;omega
   have hge3:w.heap.size<=g3:=by have:=HG3.out;omega
   have n23:g2≠g3:=by have:=HG2.out;have:=HG3.out;omega
   have n2R:R≠g2:=by have:=HG2.out;have:=HLT.out;omega
   have HO3:Hid (g3<W1.heap.size/\g2<W1.heap.size/\R<W1.heap.size):=by
    show _/\_/\_
    have h1:=HS1.out;have h2:=HG2.out;have h3:=HG3.out;have h4:=HLT.out
    omega
   have HKD:Hid (vk=t.kind):=HV.out.eq.1
   have HS4:=kf (set4_chg w2 g3 (.int .i64 vk) (.int .i64 vn) (.string vs) (.slice vA vl vc))
   have HB3b:=kf (Blk.set4 (HB3.out.drew.chg HC2.out (fun e=>e)) (.int .i64 vk) (.int .i64 vn) (.string vs) (.slice vA vl vc))
   have HB2b:=kf ((HB2a.out.drew.chg HC2.out (fun e=>e)).chg HS4.out n23)
   have HRa:=kf (HR2.out.far HS4.out n1 (fun i hi e=>by have:=HW0.out;omega))
   have HCa:=kf ((HC1.out.drew.trans HC2.out (fun _ _ e=>e)).trans HS4.out (fun i hi e=>by rw [e] at hi;omega))
   have HVa:=kf (HV.out.turn (O':=fun i=>i<W1.drew.heap.size) (HS4.out.mono (fun i _ e=>by rw [e];exact HO3.out.1)) (fun _ _ h=>h))
   clear p0 p1 p2 p3 u0 u1 u2 u3 x0 x1 x2 x3 y1 y3 q0 q1 q2 q3 z1 z3
   obtain⟨W2a,hW2a⟩:∃ W2a,W2a=(((w2.setCell ⟨g3,0,none⟩ (.int .i64 vk)).setCell ⟨g3,1,none⟩ (.int .i64 vn)).setCell ⟨g3,2,none⟩ (.string vs)).setCell ⟨g3,3,none⟩ (.slice vA vl vc):=⟨_,rfl⟩
   rw [<- hW2a] at HB3b HB2b HRa HCa HVa ⊢
   clear hW2a HS4
   have HRb:=kf ((HRa.out.setA (q:Nat)).setE er)
   have HB3c:=kf ((HB3b.out.far (p:=⟨R,1,none⟩) n2 (.int .i64 (q:Nat))).far (p:=⟨R,3,none⟩) n2 (.int .i64 er))
   have HB2c:=kf ((HB2b.out.far (p:=⟨R,1,none⟩) (Ne.symm n2R) (.int .i64 (q:Nat))).far (p:=⟨R,3,none⟩) (Ne.symm n2R) (.int .i64 er))
   have HVb:=kf (HVa.out.turn (O':=fun i=>i<W1.drew.heap.size) (((Chg.refl (fun i=>i<W1.drew.heap.size) W2a).setCell (p:=⟨R,1,none⟩) (fun _=>HO3.out.2.2) (.int .i64 (q:Nat))).setCell (p:=⟨R,3,none⟩) (fun _=>HO3.out.2.2) (.int .i64 er)) (fun _ _ h=>h))
   have HCb:=kf (only_tr (only_tr (only_of HCa.out) (only_set W2a R 1 (.int .i64 (q:Nat)))) (only_set _ R 3 (.int .i64 er)))
   obtain⟨W3,hW3⟩:∃ W3,W3=(W2a.setCell ⟨R,1,none⟩ (.int .i64 (q:Nat))).setCell ⟨R,3,none⟩ (.int .i64 er):=⟨_,rfl⟩
   rw [<- hW3] at HRb HB3c HB2c HVb HCb ⊢
   clear hW3
   obtain⟨b,hb⟩:∃ b,b=decide (t.kind=7):=⟨_,rfl⟩
   rw [<- hb]
   have HA:=kf (xask_any HRb.out b)
   have r7:(vk==7)=b:=by rw [HKD.out,hb];rfl
   obtain⟨p0,p1,p2,p3,u0,u1,u2,u3⟩:=HB3c.out.cl4
   have HBB:=kf hb
   clear hb
   go_wp2_with (go_at_call 77;refine HA.out.mono ?_;rintro e w6 ⟨rfl,hr6,hc6⟩;have HR6:=kf hr6;have HC6:=kf hc6;clear p0 p1 p2 p3 u0 u1 u2 u3;obtain⟨p0,p1,p2,p3,u0,u1,u2,u3⟩:=(HB3c.out.chg hc6 n2).cl4;obtain⟨r0,r1,r2,r3,v0,v1,v2,v3⟩:=(HB2c.out.chg hc6 (Ne.symm n2R)).cl4;clear hr6 hc6)
   refine bodyPost_ret (v:=.agg #[.int .i64 vk,.int .i64 vn,.string vs,.slice vA vl vc]) (by simp [results,Tryz.results42,go_sem,r0,r1,r2,r3]) rfl ?_
   rw [<- HBB.out]
   have hlast:=set4_chg w6 g2 (.int .i64 vk) (.int .i64 vn) (.string vs) (.slice vA vl vc)
   refine⟨⟨vk,vn,vs,vA,vl,vc⟩,rfl,(HVb.out.turn (O':=fun i=>i<W1.drew.heap.size) (HC6.out.mono (fun i _ e=>by rw [e];exact HO3.out.2.2)) (fun _ _ h=>h)).turn (hlast.mono (fun i _ e=>by rw [e];exact HO3.out.2.1)) (fun i _ h=>by have:=HS1.out;show i<W1.heap.size;omega),HR6.out.far hlast n2R (fun i hi e=>by have:=HW0.out;omega),(only_tr HCb.out HC6.out).trans hlast (fun i hi e=>by rw [e] at hi;omega)⟩
 ·have e1:(e==0)=false:=by simpa using he
  have e2:(e != 0)=true:=by simpa using he
  have HZ:=kf (HN.out.trans (if_pos he))
  clear HN h he
  rw [HZ.out]
  simp only []
  have HC1:=kf ((Chg.refl NoS w).alloc (.cells #[.int .i64 0,.int .i64 0,.string ⟨#[]⟩,.slice none 0 0] 25))
  have HR1:=kf (HR0.out.call HC1.out)
  go_enter Tryz.func42,Tryz.ntmps42
  go_upto_region 1 with fail
  rw [<- hg2]
  obtain⟨W1,hW1⟩:∃ W1,W1=w.alloc (.cells #[.int .i64 0,.int .i64 0,.string ⟨#[]⟩,.slice none 0 0] 25):=⟨_,rfl⟩
  rw [<- hW1] at HC1 HB2 HR1 ⊢
  clear hW1 hg2
  obtain⟨q0,q1,q2,q3,z1,z3⟩:=HR1.out.cells
  simp only [] at q1 q3
  obtain⟨r0,r1,r2,r3,v0,v1,v2,v3⟩:=HB2.out.cl4
  go_wp2_with fail
  refine bodyPost_ret (v:=.agg #[.int .i64 0,.int .i64 0,.string ⟨#[]⟩,.slice none 0 0]) (by simp [results,Tryz.results42,go_sem,r0,r1,r2,r3]) rfl ?_
  have hge:w.heap.size<=g2:=by have:=HG2.out;omega
  have hRg:R≠g2:=by have:=HG2.out;have:=HLT.out;omega
  exact⟨⟨0,0,⟨#[]⟩,none,0,0⟩,rfl,ins_leaf _ _ 0 0 ⟨#[]⟩ (by decide) (by decide) (by decide),HR1.out.far (set4_chg W1 g2 _ _ _ _) hRg (fun i hi e=>by have:=HW0.out;have:=HG2.out;omega),only_of (Chg.newc hge (Chg.newc hge (Chg.newc hge (Chg.newc hge HC1.out))))⟩
def fndX (n:Int):List XGr->Option XEn
 |[]=>none
 |g::l=>if g.first<=n/\n-g.first<g.es.length then g.es[(n-g.first).toNat]? else fndX n l
theorem fnd_some {n:Int} {g:XGr} {l:List XGr} (h:g.first<=n/\n-g.first<g.es.length):∃ e,fndX n (g::l)=some e/\g.es[(n-g.first).toNat]?=some e:=by
 rw [fndX,if_pos h,List.getElem?_eq_getElem (by omega)]
 exact⟨_,rfl,rfl⟩
theorem fnd_none {n:Int} {g:XGr} {l:List XGr} (h:¬(g.first<=n/\n-g.first<g.es.length)):fndX n (g::l)=fndX n l:=by rw [fndX,if_neg h]
def entV:Option XEn->Value
 |none=>.tuple #[.agg #[.int .i64 0,.int .i64 0,.bool false],.bool false]
 |some e=>.tuple #[.agg e.cells.toArray,.bool true]
theorem gcells_at {xs:List GC} {k i:Nat} {x:GC} (h:xs[k]?=some x) (hi:i<2):(gcells xs)[k*2+i]?=x.cells[i]?:=flatk_at GC.cells 2 (fun _=>rfl) h hi
theorem ecells_at {es:List XEn} {k i:Nat} {e:XEn} (h:es[k]?=some e) (hi:i<3):(ecells es)[k*3+i]?=e.cells[i]?:=flatk_at XEn.cells 3 (fun _=>rfl) h hi
theorem gs_at {xs:List GC} {B:Option Addr} {d:Nat} {W:World} (h:GsIs xs B d W) (hn:0<xs.length):∃ b off,B=some ⟨b,off,none⟩/\∀ k x,xs[k]?=some x->W.cell? ⟨b,off+k*2,none⟩=some (.int .i64 x.g.first)/\W.cell? ⟨b,off+k*2+1,none⟩=some (.slice x.A x.g.es.length x.c):=by
 obtain⟨b,off,rfl,hcell⟩:=h.1.1.plain (by rw [gcells,flatk_len GC.cells 2 (fun _=>rfl)];omega)
 refine⟨b,off,rfl,fun k x hx=>⟨?_,?_⟩⟩
 ·exact hcell (k*2) _ (by have:=gcells_at hx (show 0<2 by decide);rw [Nat.add_zero] at this;rw [this];rfl)
 ·rw [Nat.add_assoc]
  exact hcell (k*2+1) _ (by rw [gcells_at hx (show 1<2 by decide)];rfl)
theorem es_at {es:List XEn} {B:Option Addr} {d:Nat} {W:World} (h:EnS es B d W) (hn:0<es.length):∃ b off,B=some ⟨b,off,none⟩/\∀ k e,es[k]?=some e->W.cell? ⟨b,off+k*3,none⟩=some (.int .i64 e.pl)/\W.cell? ⟨b,off+k*3+1,none⟩=some (.int .i64 e.gen)/\W.cell? ⟨b,off+k*3+2,none⟩=some (.bool e.us):=by
 obtain⟨b,off,rfl,hcell⟩:=h.1.plain (by rw [ecells,flatk_len XEn.cells 3 (fun _=>rfl)];omega)
 refine⟨b,off,rfl,fun k e he=>⟨?_,?_,?_⟩⟩
 ·exact hcell (k*3) _ (by have:=ecells_at he (show 0<3 by decide);rw [Nat.add_zero] at this;rw [this];rfl)
 ·rw [Nat.add_assoc]
  exact hcell (k*3+1) _ (by rw [ecells_at he (show 1<3 by decide)];rfl)
 ·rw [Nat.add_assoc]
  exact hcell (k*3+2) _ (by rw [ecells_at he (show 2<3 by decide)];rfl)
def MoreG (n:Int) (T:Option XEn) (gs:List XGr):Prop:=T=fndX n gs
set_option maxHeartbeats 8000000 in
set_option maxRecDepth 100000 in
theorem xfind_any (xs:List GC) (B:Option Addr) (d:Nat) (vk vn:Int) (vs:ByteArray) (vA:Option Addr) (vl vc:Nat) (n:Int) (w:World) (hG:Ev NoS w (GsIs xs B d)) (hl:xs.length<=1000000) (hes:∀ x∈xs,x.g.es.length<=1000000/\-1000000<=x.g.first/\x.g.first<=1000000) (hn:-1000000<=n/\n<=1000000) :
  Calls Tryz.prog 21 #[.agg #[.slice B xs.length d,.int .i64 vk,.int .i64 vn,.string vs,.slice vA vl vc],.int .i64 n] w fun e w'=>e=.returned (entV (fndX n (xs.map GC.g)))/\Chg NoS w w':=by
 have HG:=kf hG
 have HES:=kf hes
 obtain⟨T,hT⟩:∃ T,T=fndX n (xs.map GC.g):=⟨_,rfl⟩
 rw [<- hT]
 have HT:=kf hT
 obtain⟨m,hm⟩:∃ m,m=xs.length:=⟨_,rfl⟩
 rw [<- hm] at hl ⊢
 have HM:=kf hm
 have HB:=kf ((Blk.new w 36 #[.slice B m d,.int .i64 vk,.int .i64 vn,.string vs,.slice vA vl vc]).alloc (.cells #[.int .i64 0,.int .i64 0,.bool false] 29))
 have HE:=kf (Blk.new (w.alloc (.cells #[.slice B m d,.int .i64 vk,.int .i64 vn,.string vs,.slice vA vl vc] 36)) 29 #[.int .i64 0,.int .i64 0,.bool false])
 have HC:=kf (((Chg.refl NoS w).alloc (.cells #[.slice B m d,.int .i64 vk,.int .i64 vn,.string vs,.slice vA vl vc] 36)).alloc (.cells #[.int .i64 0,.int .i64 0,.bool false] 29))
 rw [World.size_alloc] at HE
 obtain⟨g4,hg4⟩:∃ g4,g4=w.heap.size+1:=⟨_,rfl⟩
 rw [<- hg4] at HE
 have HG4:Hid (w.heap.size<=g4/\g4=w.heap.size+1):=⟨by omega,hg4⟩
 clear hG hes hT hm hg4
 go_enter Tryz.func21,Tryz.ntmps21
 go_upto_region 1 with fail
 rw [<- HG4.out.2]
 obtain⟨W1,hW1⟩:∃ W1,W1=(w.alloc (.cells #[.slice B m d,.int .i64 vk,.int .i64 vn,.string vs,.slice vA vl vc] 36)).alloc (.cells #[.int .i64 0,.int .i64 0,.bool false] 29):=⟨_,rfl⟩
 obtain⟨g2,hg2⟩:∃ g2,g2=w.heap.size:=⟨_,rfl⟩
 rw [<- hW1] at HB HE HC ⊢
 rw [<- hg2] at HB ⊢
 clear hW1 hg2
 have c0:W1.cell? ⟨g2,0,none⟩=some (.slice B m d):=HB.out.cell 0
 go_wp2_with fail
 clear c0
 go_loopw [12] (fun vi wr=>∃ k:Nat,k<=m/\vi=.int .i64 (k:Nat)/\Hid (Chg NoS W1 wr)/\Hid (MoreG n T ((xs.drop k).map GC.g))) (fun vi _=>m-(intOf vi).toNat)
 case atStart=>exact⟨0,Nat.zero_le _,rfl,kf (Chg.refl _ _),HT⟩
 case round =>
  obtain⟨k,hk,rfl,HCk,HTk⟩:=hrel
  by_cases hlt:k<m
  ·obtain⟨x,hx⟩:∃ x,xs[k]?=some x:=⟨_,List.getElem?_eq_getElem (by have:=HM.out;omega)⟩
   have hGr:=HG.out wr (HC.out.trans HCk.out (fun _ _ e=>e))
   obtain⟨b,off,rfl,hcell⟩:=gs_at hGr (by have:=HM.out;omega)
   obtain⟨c0,c1⟩:=hcell k x hx
   have hmem:x∈xs:=List.mem_of_getElem? hx
   have hEx:=kf (hGr.2 x hmem)
   obtain⟨hb1,hb2⟩:=HES.out x hmem
   have hd:(xs.drop k).map GC.g=x.g::(xs.drop (k+1)).map GC.g:=by
    have hkx:k<xs.length:=by have:=HM.out;omega
    rw [List.drop_eq_getElem_cons hkx,List.map_cons]
    rw [List.getElem?_eq_getElem hkx] at hx
    cases hx
    rfl
   have HTk2:=kf (show MoreG n T (x.g::(xs.drop (k+1)).map GC.g) from hd ▸ HTk.out)
   obtain⟨⟨first,es⟩,xA,xc⟩:=x
   simp only [] at c0 c1 hEx hb1 hb2 HTk2
   obtain⟨ln,hln⟩:∃ ln,ln=es.length:=⟨_,rfl⟩
   have HLN:=kf hln
   rw [<- hln] at c1 hb1
   clear hcell hGr hmem hd hx hln
   have HCA:=kf (HCk.out.alloc (.cells #[.int .i64 first,.slice xA ln xc] 56))
   have HBA:=kf (Blk.new wr 56 #[.int .i64 first,.slice xA ln xc])
   go_upto_region 4 with fail
   obtain⟨W3,hW3⟩:∃ W3,W3=wr.alloc (.cells #[.int .i64 first,.slice xA ln xc] 56):=⟨_,rfl⟩
   obtain⟨g7,hg7⟩:∃ g7,g7=wr.heap.size:=⟨_,rfl⟩
   have HEX:=kf (show EnS es xA xc W3 from by rw [hW3];exact⟨Src.below (w0:=wr) hEx.out.1 ((Chg.refl NoS wr).alloc _),hEx.out.2⟩)
   rw [<- hW3] at HCA HBA ⊢
   rw [<- hg7] at HBA ⊢
   clear hW3 hg7 hEx c0 c1 HTk HCk
   have r0:W3.cell? ⟨g7,0,none⟩=some (.int .i64 first):=HBA.out.cell 0
   have r1:W3.cell? ⟨g7,1,none⟩=some (.slice xA ln xc):=HBA.out.cell 1
   have HE3:=kf (HE.out.chg HCA.out (fun e=>e))
   by_cases h1:first<=n
   ·obtain⟨j,hj⟩:∃ j:Nat,n-first=(j:Nat):=⟨(n-first).toNat,by omega⟩
    have hw:IntKind.u64.wrap (IntKind.u64.wrap n-IntKind.u64.wrap first)=(j:Nat):=by simp only [IntKind.wrap_u64];omega
    have hw2:IntKind.u64.wrap (ln:Int)=ln:=by simp only [IntKind.wrap_u64];omega
    have hj7:j<=2000000:=by omega
    have HJ:=kf hj
    clear hj
    by_cases h2:j<ln
    ·have hsm:first<=n/\n-first<(⟨first,es⟩:XGr).es.length:=⟨h1,by rw [HJ.out];show(j:Int)<(es.length:Nat);have:=HLN.out;omega⟩
     obtain⟨e,hfe,hee⟩:=fnd_some (n:=n) (g:=⟨first,es⟩) (l:=(xs.drop (k+1)).map GC.g) hsm
     have HZ:=kf (HTk2.out.trans hfe)
     simp only [] at hee
     rw [HJ.out,Int.toNat_natCast] at hee
     obtain⟨b2,off2,rfl,hc2⟩:=es_at HEX.out (by have:=HLN.out;omega)
     obtain⟨e0,e1,e2⟩:=hc2 j e hee
     obtain⟨ep,eg,eu⟩:=e
     simp only [] at e0 e1 e2
     obtain⟨y0,y1,y2,y3,y4,y5⟩:=HE3.out.cl3
     clear hfe hee hc2 hsm
     go_wp2_with fail
     refine bodyPost_ret (v:=.tuple #[.agg #[.int .i64 ep,.int .i64 eg,.bool eu],.bool true]) (by simp [results,Tryz.results21,go_sem,y0,y1,y2]) rfl ?_
     rw [HZ.out]
     exact⟨rfl,(HC.out.trans HCA.out (fun _ _ e=>e)).trans (set3_chg W3 g4 _ _ _) (fun i hi e=>by have:=HG4.out;omega)⟩
    ·have HN2:=kf (HTk2.out.trans (fnd_none (n:=n) (g:=⟨first,es⟩) (show ¬(first<=n/\n-first<(⟨first,es⟩:XGr).es.length) from fun h=>by have h3:=h.2;rw [HJ.out] at h3;have h4:(j:Int)<(es.length:Nat):=h3;have:=HLN.out;omega)))
     have d2:decide (j<ln)=false:=by simpa using h2
     go_wp2_with fail
     go_roundw
     case rel=>exact⟨k+1,by omega,by go_num,HCA,HN2⟩
     case measure=>simp [intOf];omega
   ·have d1:decide (first<=n)=false:=by simpa using h1
    have HN2:=kf (HTk2.out.trans (fnd_none (n:=n) (g:=⟨first,es⟩) (show ¬(first<=n/\n-first<(⟨first,es⟩:XGr).es.length) from fun h=>h1 h.1)))
    clear h1
    go_wp2_with fail
    go_roundw
    case rel=>exact⟨k+1,by omega,by go_num,HCA,HN2⟩
    case measure=>simp [intOf];omega
  ·have hkm:k=m:=by omega
   have HZ:=kf (show T=none from by rw [HTk.out,List.drop_of_length_le (by have:=HM.out;omega)];rfl)
   obtain⟨y0,y1,y2,y3,y4,y5⟩:=(HE.out.chg HCk.out (fun e=>e)).cl3
   have d1:decide ((k:Int)<m)=false:=by simp;omega
   have d2:decide (k<m)=false:=by simp;omega
   clear hkm
   go_wp2_with fail
   refine bodyPost_ret (v:=.tuple #[.agg #[.int .i64 0,.int .i64 0,.bool false],.bool false]) (by simp [results,Tryz.results21,go_sem,y0,y1,y2]) rfl ?_
   rw [HZ.out]
   exact⟨rfl,(HC.out.trans HCk.out (fun _ _ e=>e)).trans (set3_chg wr g4 _ _ _) (fun i hi e=>by have:=HG4.out;omega)⟩
end Go.Proofs.YthejpkflcgjdoaaGreatDoor
