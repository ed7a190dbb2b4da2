import Derived.Test.YtmibnkddappgiaaGreatDoorK25
set_option linter.unusedVariables false
set_option maxHeartbeats 64000000
set_option maxRecDepth 100000
set_option linter.unusedSimpArgs false
namespace Go.Proofs.YtmibnkddappgiaaGreatDoor
open Go.RowKit
def q13 (w0:World) (bs:List Nat) (A:Option Addr) (c R:Nat) (last:Bool) (w:World) (t:VT) (s:FS) (e:Ending) (w':World):Prop :=
 ∃ v:VC,e=.returned v.val/\Ins (fun i=>i<w.heap.size) w' t v/\RB w0 bs A c R last s w'/\Chg (z9g R) w w'
theorem v0v {w0 w:World} {bs:List Nat} {A:Option Addr} {c R:Nat} {last:Bool} {s:FS} (hB:RSrc w0 bs A c) (h:RB w0 bs A c R last s w) :
  Calls Tryz.prog 50 #[.pointer (some ⟨R,0,none⟩)] w (q13 w0 bs A c R last w (z3x bs last s).1 (z3x bs last s).2):=by
 obtain⟨a,e⟩:=s;have HR0:=kf h;have HLT:Hid (R<w.heap.size):=h.lt;have HW0:Hid (w0.heap.size<=w.heap.size):=h.chg.size;have HK:=kf (fun W (hW:Chg NoS w0 W)=>y9r bs A c a last W (Src.below (w0:=w0) hB.src hW) hB.len hB.cap hB.byt);have HN:=kf (show z3x bs last (a,e)=if e≠0 then(z1i,(a,e)) else((z4i bs last a []).2.1,((z4i bs last a []).2.2:Nat),(z4i bs last a []).1) from rfl);obtain⟨P,hP⟩:∃ P,P=z4i bs last a []:=⟨_,rfl⟩
 rw [<- hP] at HK HN;obtain⟨er,t,q⟩:=P;simp only [] at HN;unfold v8l at HK;simp only [] at HK;clear hP hB
 -- the two boxes
 have HC1:=kf (((Chg.refl NoS w).alloc (.cells #[.int .i64 0,.int .i64 0,.string ⟨#[]⟩,.slice none 0 0] 24)).alloc (.cells #[.int .i64 0,.int .i64 0,.string ⟨#[]⟩,.slice none 0 0] 24));have HB2:=kf ((Blk.new w 24 #[.int .i64 0,.int .i64 0,.string ⟨#[]⟩,.slice none 0 0]).alloc (.cells #[.int .i64 0,.int .i64 0,.string ⟨#[]⟩,.slice none 0 0] 24));have HB3:=kf (Blk.new (w.alloc (.cells #[.int .i64 0,.int .i64 0,.string ⟨#[]⟩,.slice none 0 0] 24)) 24 #[.int .i64 0,.int .i64 0,.string ⟨#[]⟩,.slice none 0 0]);rw [World.size_alloc] at HB3;obtain⟨g2,hg2⟩:∃ g2,g2=w.heap.size:=⟨_,rfl⟩
 obtain⟨g3,hg3⟩:∃ g3,g3=w.heap.size+1:=⟨_,rfl⟩
 rw [<- hg2] at HB2;rw [<- hg3] at HB3;have HG2:=kf hg2;have HG3:=kf hg3;by_cases he:e=0
 ·subst he;have HZ:=kf (HN.out.trans (if_neg (by simp)));clear HN h;rw [HZ.out];simp only [];go_enter Tryz.func50,Tryz.ntmps50;go_upto_region 2 with fail;rw [<- hg2];rw [show g2+1=g3 from by omega];obtain⟨W1,hW1⟩:∃ W1,W1=(w.alloc (.cells #[.int .i64 0,.int .i64 0,.string ⟨#[]⟩,.slice none 0 0] 24)).alloc (.cells #[.int .i64 0,.int .i64 0,.string ⟨#[]⟩,.slice none 0 0] 24):=⟨_,rfl⟩
  rw [<- hW1] at HC1 HB2 HB3 ⊢;have HS1:Hid (W1.heap.size=w.heap.size+2):=by show _=_;rw [hW1];simp
  clear hW1 hg2 hg3;have HR1:=kf (HR0.out.call HC1.out);have HD:=kf (HR1.out.call ((Chg.refl NoS W1).drew));obtain⟨q0,q1,q2,q3,z1,z3⟩:=HR1.out.cells;simp only [] at q1 q3;have n1:R≠g3:=by have:=HG3.out;have:=HLT.out;omega
  have n2:g3≠R:=Ne.symm n1;go_upto_region 3 with fail;go_region_with (go_at_call 73;refine(HK.out _ HD.out.chg).mono ?_;rintro e w2 ⟨⟨vk,vn,vs,vA,vl,vc⟩,rfl,hv,hc2⟩;have HV:=kf hv;have HC2:=kf hc2;have HR2:=kf (HD.out.call hc2);obtain⟨x0,x1,x2,x3,y1,y3⟩:=HR2.out.cells;simp only [] at x1 x3;obtain⟨p0,p1,p2,p3,u0,u1,u2,u3⟩:=(HB3.out.drew.chg hc2 (fun e=>e)).cl4;clear hc2 hv;unfold VC.val;simp only [])
  all_goals
   have hge2:w.heap.size<=g2:=by have:=HG2.out;omega
   have hge3:w.heap.size<=g3:=by have:=HG3.out;omega
   have n23:g2≠g3:=by have:=HG2.out;have:=HG3.out;omega
   have n2R:R≠g2:=by have:=HG2.out;have:=HLT.out;omega
   have HO3:Hid (g3<W1.heap.size/\g2<W1.heap.size/\R<W1.heap.size):=by
    show _/\_/\_;have h1:=HS1.out;have h2:=HG2.out;have h3:=HG3.out;have h4:=HLT.out;omega
   have HS4:=kf (z0l w2 g3 (.int .i64 vk) (.int .i64 vn) (.string vs) (.slice vA vl vc));have HB3b:=kf (Blk.set4 (HB3.out.drew.chg HC2.out (fun e=>e)) (.int .i64 vk) (.int .i64 vn) (.string vs) (.slice vA vl vc));have HB2b:=kf ((HB2.out.drew.chg HC2.out (fun e=>e)).chg HS4.out n23);have HRa:=kf (HR2.out.far HS4.out n1 (fun i hi e=>by have:=HW0.out;omega));have HCa:=kf ((HC1.out.drew.trans HC2.out (fun _ _ e=>e)).trans HS4.out (fun i hi e=>by rw [e] at hi;omega));have HVa:=kf (HV.out.turn (O':=fun i=>i<W1.drew.heap.size) (HS4.out.mono (fun i _ e=>by rw [e];exact HO3.out.1)) (fun _ _ h=>h));clear p0 p1 p2 p3 u0 u1 u2 u3 x0 x1 x2 x3 y1 y3 q0 q1 q2 q3 z1 z3;obtain⟨W2a,hW2a⟩:∃ W2a,W2a=(((w2.setCell ⟨g3,0,none⟩ (.int .i64 vk)).setCell ⟨g3,1,none⟩ (.int .i64 vn)).setCell ⟨g3,2,none⟩ (.string vs)).setCell ⟨g3,3,none⟩ (.slice vA vl vc):=⟨_,rfl⟩
   rw [<- hW2a] at HB3b HB2b HRa HCa HVa ⊢;clear hW2a HS4;have HRb:=kf ((HRa.out.setA (q:Nat)).setE er);have HB3c:=kf ((HB3b.out.far (p:=⟨R,1,none⟩) n2 (.int .i64 (q:Nat))).far (p:=⟨R,3,none⟩) n2 (.int .i64 er));have HB2c:=kf ((HB2b.out.far (p:=⟨R,1,none⟩) (Ne.symm n2R) (.int .i64 (q:Nat))).far (p:=⟨R,3,none⟩) (Ne.symm n2R) (.int .i64 er));have HVb:=kf (HVa.out.turn (O':=fun i=>i<W1.drew.heap.size) (((Chg.refl (fun i=>i<W1.drew.heap.size) W2a).setCell (p:=⟨R,1,none⟩) (fun _=>HO3.out.2.2) (.int .i64 (q:Nat))).setCell (p:=⟨R,3,none⟩) (fun _=>HO3.out.2.2) (.int .i64 er)) (fun _ _ h=>h));have HCb:=kf (z01 (z01 (z0c HCa.out) (z0m W2a R 1 (.int .i64 (q:Nat)))) (z0m _ R 3 (.int .i64 er)));obtain⟨W3,hW3⟩:∃ W3,W3=(W2a.setCell ⟨R,1,none⟩ (.int .i64 (q:Nat))).setCell ⟨R,3,none⟩ (.int .i64 er):=⟨_,rfl⟩
   rw [<- hW3] at HRb HB3c HB2c HVb HCb ⊢;clear hW3;obtain⟨p0,p1,p2,p3,u0,u1,u2,u3⟩:=HB3c.out.cl4;obtain⟨r0,r1,r2,r3,v0,v1,v2,v3⟩:=HB2c.out.cl4;go_wp2_with fail;refine bodyPost_ret (v:=.agg #[.int .i64 vk,.int .i64 vn,.string vs,.slice vA vl vc]) (by simp [results,Tryz.results50,go_sem,r0,r1,r2,r3]) rfl ?_;have hlast:=z0l W3 g2 (.int .i64 vk) (.int .i64 vn) (.string vs) (.slice vA vl vc);refine⟨⟨vk,vn,vs,vA,vl,vc⟩,rfl,HVb.out.turn (hlast.mono (fun i _ e=>by rw [e];exact HO3.out.2.1)) (fun i _ h=>by have:=HS1.out;show i<W1.heap.size;omega),HRb.out.far hlast n2R (fun i hi e=>by have:=HW0.out;omega),HCb.out.trans hlast (fun i hi e=>by rw [e] at hi;omega)⟩
 ·have e1:(e==0)=false:=by simpa using he
  have e2:(e != 0)=true:=by simpa using he
  have HZ:=kf (HN.out.trans (if_pos he));clear HN h he;rw [HZ.out];simp only [];go_enter Tryz.func50,Tryz.ntmps50;go_upto_region 2 with fail;rw [<- hg2];rw [show g2+1=g3 from by omega];obtain⟨W1,hW1⟩:∃ W1,W1=(w.alloc (.cells #[.int .i64 0,.int .i64 0,.string ⟨#[]⟩,.slice none 0 0] 24)).alloc (.cells #[.int .i64 0,.int .i64 0,.string ⟨#[]⟩,.slice none 0 0] 24):=⟨_,rfl⟩
  rw [<- hW1] at HC1 HB2 HB3 ⊢;clear hW1 hg2 hg3;have HR1:=kf (HR0.out.call HC1.out);obtain⟨q0,q1,q2,q3,z1,z3⟩:=HR1.out.cells;simp only [] at q1 q3;obtain⟨p0,p1,p2,p3,u0,u1,u2,u3⟩:=HB3.out.cl4;obtain⟨r0,r1,r2,r3,v0,v1,v2,v3⟩:=HB2.out.cl4;go_wp2_with fail;refine bodyPost_ret (v:=.agg #[.int .i64 0,.int .i64 0,.string ⟨#[]⟩,.slice none 0 0]) (by simp [results,Tryz.results50,go_sem,r0,r1,r2,r3]) rfl ?_;have hge:w.heap.size<=g2:=by have:=HG2.out;omega
  have hRg:R≠g2:=by have:=HG2.out;have:=HLT.out;omega
  exact⟨⟨0,0,⟨#[]⟩,none,0,0⟩,rfl,z1y _ _ 0 0 ⟨#[]⟩ (by decide) (by decide) (by decide),HR1.out.far (z0l W1 g2 _ _ _ _) hRg (fun i hi e=>by have:=HW0.out;have:=HG2.out;omega),z0c (Chg.newc hge (Chg.newc hge (Chg.newc hge (Chg.newc hge HC1.out))))⟩
end Go.Proofs.YtmibnkddappgiaaGreatDoor
