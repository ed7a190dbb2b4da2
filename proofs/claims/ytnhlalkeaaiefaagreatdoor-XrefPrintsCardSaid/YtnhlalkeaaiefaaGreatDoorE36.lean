import Derived.Test.YtnhlalkeaaiefaaGreatDoorE30
import Derived.Test.YtnhlalkeaaiefaaGreatDoorE34
import Derived.Test.YtnhlalkeaaiefaaGreatDoorE35
set_option linter.unusedVariables false
set_option maxHeartbeats 64000000
set_option maxRecDepth 100000
set_option linter.unusedSimpArgs false
namespace Go.Proofs.YtnhlalkeaaiefaaGreatDoor
open Go.RowKit
theorem v5u {xs:List GC} {k:Nat} {x:GC} (hx:xs[k]?=some x) (h:z3p x.g=true):xs.any (fun x=>z3p x.g)=true:=List.any_eq_true.2 ⟨x,List.mem_of_getElem? hx,h⟩
theorem v2m {xs:List GC} (h:∀ y∈xs,z3p y.g=false):xs.any (fun x=>z3p x.g)=false:=by
 rw [List.any_eq_false];intro y hy;rw [h y hy];decide
theorem z5o (xs:List GC) (B:Option Addr) (d:Nat) (t:VT) (vk vn:Int) (vs:ByteArray) (vA:Option Addr) (vl vc:Nat) (w:World) (hG:Ev NoS w (z4v xs B d)) (hl:xs.length<=1000000)
  (hes:∀ x∈xs,x.g.es.length<=1000000/\-9223372036854775808<=x.g.first/\x.g.first<=9223372036854775807) (hv:ValIs w t ⟨vk,vn,vs,vA,vl,vc⟩) (hs:z2n t<=1000000) :
  Calls Tryz.prog 15 #[.agg #[.slice B xs.length d,.int .i64 vk,.int .i64 vn,.string vs,.slice vA vl vc]] w fun e w'=>e=.returned (.int .i64 (z3t (xs.map GC.g) t))/\Chg NoS w w':=by
 have HCH:=kf (fun W (h:Chg NoS w W)=>z9x t ⟨vk,vn,vs,vA,vl,vc⟩ W (hv.chg h) (by omega));unfold VC.val at HCH;have hk:t.kind=vk:=(y24 hv).1.symm;have hX1:=kf (show 64<xs.length->z3t (xs.map GC.g) t=2 from fun h=>by unfold z3t;rw [List.length_map,if_pos h])
 have hX2:=kf (show xs.any (fun x=>z3p x.g)=true->z3t (xs.map GC.g) t=2 from fun h2=>by
  unfold z3t;split
  ·rfl
  ·rw [<- z4m,if_pos h2])
 have hX3:=kf (show vk≠7->z3t (xs.map GC.g) t=2 from fun h3=>by
  unfold z3t;split
  ·rfl
  ·split
   ·rfl
   ·rw [if_pos (by rw [hk];exact h3)])
 have hX4:=kf (show ¬64<xs.length->xs.any (fun x=>z3p x.g)=false->vk=7->z3t (xs.map GC.g) t=z0h t from fun h h2 h3=>by unfold z3t;rw [List.length_map,if_neg h,<- z4m,h2,if_neg (by decide),if_neg (by rw [hk];exact fun hn=>hn h3)]);obtain⟨R,hR⟩:∃ R,R=z3t (xs.map GC.g) t:=⟨_,rfl⟩
 rw [<- hR] at hX1 hX2 hX3 hX4 ⊢;obtain⟨ct,hct⟩:∃ ct,ct=z0h t:=⟨_,rfl⟩
 rw [<- hct] at HCH hX4;have HG:=kf hG;have HES:=kf hes;obtain⟨m,hm⟩:∃ m,m=xs.length:=⟨_,rfl⟩
 rw [<- hm] at hX1 hX4 hl ⊢;have HM:=kf hm;have HB:=kf (Blk.new w 27 #[.slice B m d,.int .i64 vk,.int .i64 vn,.string vs,.slice vA vl vc]);have HC:=kf ((Chg.refl NoS w).alloc (.cells #[.slice B m d,.int .i64 vk,.int .i64 vn,.string vs,.slice vA vl vc] 27));clear hG hes hv hs hk hR hct hm;go_enter Tryz.func15,Tryz.ntmps15;go_upto_region 1 with fail;obtain⟨W1,hW1⟩:∃ W1,W1=w.alloc (.cells #[.slice B m d,.int .i64 vk,.int .i64 vn,.string vs,.slice vA vl vc] 27):=⟨_,rfl⟩
 obtain⟨g1,hg1⟩:∃ g1,g1=w.heap.size:=⟨_,rfl⟩
 rw [<- hW1] at HB HC ⊢;rw [<- hg1] at HB ⊢;clear hW1 hg1;obtain⟨q0,q1,q2,q3,q4,-⟩:=HB.out.cl5;by_cases h64:64<m
 ·have d1:decide ((64:Int)<m)=true:=by simp;omega
  have d2:decide (64<m)=true:=by simpa using h64
  have HZ:=kf (hX1.out h64);go_wp2_with fail;go_ret;exact⟨by rw [HZ.out];rfl,HC.out⟩
 have d1:decide ((64:Int)<m)=false:=by simp;omega
 have d2:decide (64<m)=false:=by simpa using h64
 have hX4:=kf (hX4.out h64);clear hX1 h64;by_cases h7:vk=7;rotate_left
 ·have HZ:=kf (hX3.out h7);have d7:(vk != 7)=true:=by simpa using h7
  clear h7;go_wp2_with fail;go_ret;exact⟨by rw [HZ.out];rfl,HC.out⟩
 have hX4:=kf (fun h=>hX4.out h h7);subst h7;go_wp2_with fail;clear q0 q1 q2 q3 q4 d1 d2 hX3;go_loopw [3] (fun vi wr=>∃ k:Nat,k<=m/\vi=.int .i64 (k:Nat)/\Hid (Chg NoS W1 wr)/\Hid (∀ y∈xs.take k,z3p y.g=false)) (fun vi _=>m-(intOf vi).toNat)
 case atStart=>exact⟨0,Nat.zero_le _,rfl,kf (Chg.refl _ _),fun y hy=>by simp at hy⟩
 case round =>
  obtain⟨k,hk,rfl,HCk,HT⟩:=hrel;obtain⟨q0,q1,q2,q3,q4,-⟩:=(HB.out.chg HCk.out (fun e=>e)).cl5;by_cases hlt:k<m;rotate_left
  ·have hkm:k=m:=by omega
   have HZ:=kf (hX4.out (v2m (fun y hy=>HT.out y (by rw [List.take_of_length_le (by have:=HM.out;omega)];exact hy))));have d1:decide ((k:Int)<m)=false:=by simp;omega
   have d2:decide (k<m)=false:=by simp;omega
   clear hkm;go_wp2_with (go_at_call 36;refine(HCH.out _ (HC.out.trans HCk.out (fun _ _ e=>e))).mono ?_;rintro e w3 ⟨rfl,hc3⟩;have HC3:=kf ((HC.out.trans HCk.out (fun _ _ e=>e)).trans hc3 (fun _ _ e=>e));clear hc3);refine bodyPost_ret (v:=.int .i64 ct) (by simp [results,Tryz.results15,go_sem]) rfl ?_;exact⟨by first|(rw [HZ.out];done)|(rw [HZ.out];trivial),HC3.out⟩
  obtain⟨x,hx⟩:∃ x,xs[k]?=some x:=⟨_,List.getElem?_eq_getElem (by have:=HM.out;omega)⟩
  have hGr:=HG.out wr (HC.out.trans HCk.out (fun _ _ e=>e));obtain⟨b,off,rfl,hcell⟩:=z7e hGr (by have:=HM.out;omega);obtain⟨c0,c1⟩:=hcell k x hx;have hmem:x∈xs:=List.mem_of_getElem? hx;have hEx:=kf (hGr.2 x hmem);obtain⟨hb1,hb2,hb3⟩:=HES.out x hmem;have HXX:=kf hx;obtain⟨⟨first,es⟩,xA,xc⟩:=x;simp only [] at c0 c1 hEx hb1 hb2 hb3;have HA1:=kf (fun h=>hX2.out (v5u HXX.out h))
  have HA0:=kf (show z3p ⟨first,es⟩=false->∀ y∈xs.take (k+1),z3p y.g=false from fun h y hy=>by
   rw [List.take_add_one,HXX.out,List.mem_append] at hy;rcases hy with hy|hy
   ·exact HT.out y hy
   ·simp at hy;subst hy;exact h)
  simp only [] at HA1;have HF1:=kf (fun h=>HA1.out (y3q (first:=first) (es:=es) h));have HF2:=kf (fun j e h1 h2=>HA1.out (y3p (first:=first) (es:=es) (k:=j) (e:=e) h1 h2));have HF3:=kf (fun h h2=>HA0.out (y9j (first:=first) (es:=es) h h2));obtain⟨ft,hft⟩:∃ ft,ft=z29 first (es.length:Nat):=⟨_,rfl⟩
  rw [<- hft] at HF1 HF3;obtain⟨ln,hln⟩:∃ ln,ln=es.length:=⟨_,rfl⟩
  have HLN:=kf hln;rw [<- hln] at c1 hb1 hft;clear hcell hGr hmem hx hln HA1 HA0 HT;have HCA:=kf (HCk.out.alloc (.cells #[.int .i64 first,.slice xA ln xc] 56));have HBA:=kf (Blk.new wr 56 #[.int .i64 first,.slice xA ln xc]);go_upto_region 7 with fail;obtain⟨W3,hW3⟩:∃ W3,W3=wr.alloc (.cells #[.int .i64 first,.slice xA ln xc] 56):=⟨_,rfl⟩
  obtain⟨g7,hg7⟩:∃ g7,g7=wr.heap.size:=⟨_,rfl⟩
  have HEX:=kf (fun V (hV:Chg NoS W3 V)=>(show EnS es xA xc V from⟨Src.below (w0:=wr) hEx.out.1 (((Chg.refl NoS wr).alloc _).trans (hW3 ▸ hV) (fun _ _ e=>e)),hEx.out.2⟩));rw [<- hW3] at HCA HBA ⊢;rw [<- hg7] at HBA ⊢;clear hW3 hg7 hEx c0 c1 HCk q0 q1 q2 q3 q4;have r0:W3.cell? ⟨g7,0,none⟩=some (.int .i64 first):=HBA.out.cell 0;have r1:W3.cell? ⟨g7,1,none⟩=some (.slice xA ln xc):=HBA.out.cell 1;have HFT:=kf hft;cases ft with
  |false =>
   have HZ:=kf (HF1.out rfl);clear hft;have hcase:=HFT.out;by_cases h1:first<0
   ·have d1:decide (first<0)=true:=by simpa using h1
    clear hcase;go_wp2_with fail;refine bodyPost_ret (v:=.int .i64 2) (by simp [results,Tryz.results15,go_sem]) rfl ?_;exact⟨by rw [HZ.out],HC.out.trans HCA.out (fun _ _ e=>e)⟩
   have d1:decide (first<0)=false:=by simpa using h1
   by_cases h2:4097<first
   ·have d2:decide (4097<first)=true:=by simpa using h2
    clear hcase;go_wp2_with fail;refine bodyPost_ret (v:=.int .i64 2) (by simp [results,Tryz.results15,go_sem]) rfl ?_;exact⟨by rw [HZ.out],HC.out.trans HCA.out (fun _ _ e=>e)⟩
   have d2:decide (4097<first)=false:=by simpa using h2
   have hw:IntKind.i64.wrap (4097-first)=4097-first:=by rw [IntKind.wrap_i64];omega
   have h3:4097-first<(ln:Int):=by
    unfold z29 at hcase;have ha:decide (0<=first)=true:=by simp;omega
    have hb:decide (0<=(ln:Int))=true:=by simp
    rw [ha,hb] at hcase;simp at hcase;omega
   have d3:decide (4097-first<(ln:Int))=true:=by simpa using h3
   clear hcase;go_wp2_with fail;refine bodyPost_ret (v:=.int .i64 2) (by simp [results,Tryz.results15,go_sem]) rfl ?_;exact⟨by rw [HZ.out],HC.out.trans HCA.out (fun _ _ e=>e)⟩
  |true =>
   have hcase:=hft.symm;unfold z29 at hcase;simp only [Bool.and_eq_true,decide_eq_true_eq] at hcase;have d1:decide (first<0)=false:=by simp;omega
   have d2:decide (4097<first)=false:=by simp;omega
   have hw:IntKind.i64.wrap (4097-first)=4097-first:=by rw [IntKind.wrap_i64];omega
   have d3:decide (4097-first<(ln:Int))=false:=by simp;omega
   clear hcase hft;go_wp2_with fail;clear r0 r1 d1 d2 d3 hw;obtain⟨wo,hwo⟩:∃ wo:World,wo=wr:=⟨_,rfl⟩
   clear hwo;go_loopw [5] (fun vj wr2=>∃ j:Nat,j<=ln/\vj=.int .i64 (j:Nat)/\Hid (Chg NoS W3 wr2)/\Hid (∀ y∈es.take j,z2b y=true)) (fun vj _=>ln-(intOf vj).toNat)
   case atStart=>exact⟨0,Nat.zero_le _,rfl,kf (Chg.refl _ _),fun y hy=>by simp at hy⟩
   case round =>
    obtain⟨j,hj,rfl,HCj,HTj⟩:=hrel;have x1:=(HBA.out.chg HCj.out (fun e=>e)).cell 1;simp only [List.getElem?_toArray] at x1;by_cases hjl:j<ln
    ·obtain⟨e,he⟩:∃ e,es[j]?=some e:=⟨_,List.getElem?_eq_getElem (by have:=HLN.out;omega)⟩
     obtain⟨b2,off2,rfl,hc2⟩:=z8x (HEX.out _ HCj.out) (by have:=HLN.out;omega);obtain⟨e0,e1,e2⟩:=hc2 j e he;have HMY:=kf (fun W=>(show Calls Tryz.prog 31 #[.agg #[.int .i64 e.pl,.int .i64 e.gen,.bool e.us]] W fun r w'=>r=.returned (.bool (z2b e))/\Chg NoS W w' from z7s e W));have HH:=kf he;obtain⟨me,hme⟩:∃ me,me=z2b e:=⟨_,rfl⟩
     rw [<- hme] at HMY;have HME:=kf hme;clear hc2 he hme;have dj:decide ((j:Int)<ln)=true:=by simp;omega
     cases me with
     |false =>
      have HZ:=kf (HF2.out j e HH.out HME.out.symm);go_wp2_with (go_at_call 31;refine(HMY.out _).mono ?_;rintro e4 w4 ⟨rfl,hc4⟩;have HC4:=kf (HCj.out.trans hc4 (fun _ _ e=>e));clear hc4);refine bodyPost_ret (v:=.int .i64 2) (by simp [results,Tryz.results15,go_sem]) rfl ?_;exact⟨by rw [HZ.out],(HC.out.trans HCA.out (fun _ _ e=>e)).trans HC4.out (fun _ _ e=>e)⟩
     |true =>
      go_wp2_with (go_at_call 31;refine(HMY.out _).mono ?_;rintro e4 w4 ⟨rfl,hc4⟩;have HC4:=kf (HCj.out.trans hc4 (fun _ _ e=>e));clear hc4);go_roundw
      case rel =>
       refine⟨j+1,by omega,by go_num,HC4,fun y hy=>?_⟩;rw [List.take_add_one,HH.out,List.mem_append] at hy;rcases hy with hy|hy
       ·exact HTj.out y hy
       ·simp at hy;subst hy;exact HME.out.symm
      case measure=>simp [intOf];omega
    ·have hkm:j=ln:=by omega
     have HZ:=kf (HF3.out trivial (fun y hy=>HTj.out y (by rw [List.take_of_length_le (by have:=HLN.out;omega)];exact hy)));have d1:decide ((j:Int)<ln)=false:=by simp;omega
     have d2:decide (j<ln)=false:=by simp;omega
     clear hkm;go_wp2_with fail;go_roundw
     case rel=>exact⟨k+1,by omega,by go_num,kf (HCA.out.trans HCj.out (fun _ _ e=>e)),HZ⟩
     case measure=>simp [intOf];omega
theorem z3a {gs:List XGr} {t:VT} (h:z3t gs t=0):gs.length<=64/\(∀ g∈gs,z3p g=false)/\z0h t=0:=by
 unfold z3t at h;split at h
 ·cases h
 ·split at h
  ·cases h
  ·split at h
   ·cases h
   ·refine⟨by omega,fun g hg=>?_,h⟩
    next h2 _ =>
     have h3:gs.any z3p=false:=by simpa using h2
     rw [List.any_eq_false] at h3;simpa using h3 g hg
noncomputable def v4d (gs:List XGr) (t:VT):List Nat:=if z3t gs t=0 then y58 gs t else []
theorem v2z {gs:List XGr} {t:VT} (h:z3t gs t≠0):v4d gs t=[]:=by unfold v4d;rw [if_neg h]
theorem v2y {gs:List XGr} {t:VT} (h:z3t gs t=0):v4d gs t=y58 gs t:=by unfold v4d;rw [if_pos h]
def PrX (w:World) (l:List Nat) (z:Int) (e:Ending) (w':World):Prop:=∃ (A:Option Addr) (n c:Nat),e=.returned (.tuple #[.slice A n c,.int .i64 z])/\n=(u8L l).length/\Src w' 1 A n c (z08 ((u8L l).map UInt8.toNat))/\n<=c/\Chg NoS w w'
theorem y3v (xs:List GC) (B:Option Addr) (d:Nat) (t:VT) (vk vn:Int) (vs:ByteArray) (vA:Option Addr) (vl vc:Nat) (w:World) (hG:Ev NoS w (z4v xs B d)) (hL:LibOk w) (hl:xs.length<=1000000)
  (hes:∀ x∈xs,x.g.es.length<=1000000/\-9223372036854775808<=x.g.first/\x.g.first<=9223372036854775807) (hv:ValIs w t ⟨vk,vn,vs,vA,vl,vc⟩) (hs:z2n t<=1000) (hfl:z0h t=0->(z0c t).length<=3000) :
  Calls Tryz.prog 9 #[.agg #[.slice B xs.length d,.int .i64 vk,.int .i64 vn,.string vs,.slice vA vl vc]] w (PrX w (v4d (xs.map GC.g) t) (z3t (xs.map GC.g) t)):=by
 have HCK:=kf (fun V (hV:Chg NoS w V)=>z7j xs B d t vk vn vs vA vl vc V (hG.chg hV) hl hes (hv.chg hV) (by omega));have HPD:=kf (fun(hz:z3t (xs.map GC.g) t=0) V (hV:Chg NoS w V)=>z9c xs B d t vk vn vs vA vl vc V (hG.chg hV) (hL.chg hV) (by have:=(z3a hz).1;rwa [List.length_map] at this) (fun x hx=>(z3a hz).2.1 x.g (List.mem_map_of_mem hx)) (hv.chg hV) hs (z3a hz).2.2 (hfl (z3a hz).2.2));have HZ0:=kf (fun h=>v2z (gs:=xs.map GC.g) (t:=t) h);have HZ1:=kf (fun h=>v2y (gs:=xs.map GC.g) (t:=t) h);obtain⟨z,hz⟩:∃ z,z=z3t (xs.map GC.g) t:=⟨_,rfl⟩
 rw [<- hz] at HCK HPD HZ0 HZ1 ⊢;obtain⟨m,hm⟩:∃ m,m=xs.length:=⟨_,rfl⟩
 rw [<- hm] at HCK HPD ⊢;have HB:=kf (Blk.new w 36 #[.slice B m d,.int .i64 vk,.int .i64 vn,.string vs,.slice vA vl vc]);have HC:=kf ((Chg.refl NoS w).alloc (.cells #[.slice B m d,.int .i64 vk,.int .i64 vn,.string vs,.slice vA vl vc] 36));clear hG hL hes hv hs hfl hm hz hl;unfold PrX;go_enter Tryz.func9,Tryz.ntmps9;go_upto_region 1 with fail;obtain⟨W1,hW1⟩:∃ W1,W1=w.alloc (.cells #[.slice B m d,.int .i64 vk,.int .i64 vn,.string vs,.slice vA vl vc] 36):=⟨_,rfl⟩
 obtain⟨g1,hg1⟩:∃ g1,g1=w.heap.size:=⟨_,rfl⟩
 rw [<- hW1] at HB HC ⊢;rw [<- hg1] at HB ⊢;clear hW1 hg1;obtain⟨q0,q1,q2,q3,q4,-⟩:=HB.out.cl5;by_cases hz0:z=0
 ·subst hz0;have HP:=kf (HPD.out rfl);have HPT:=kf (HZ1.out rfl)
  go_wp2_with (first
   |(go_at_call 14;refine(HCK.out _ HC.out).mono ?_;rintro e w2 ⟨rfl,hc2⟩;have HC2:=kf (HC.out.trans hc2 (fun _ _ e=>e));have hb2:=HB.out.chg hc2 (fun e=>e);clear q0 q1 q2 q3 q4;obtain⟨q0,q1,q2,q3,q4,-⟩:=hb2.cl5;clear hc2 hb2)
   |(go_at_call 27;refine(HP.out _ HC2.out).mono ?_;rintro e w3 ⟨RA,Rn,Rc,rfl,hRn,hsr,hcc,hc3⟩;have HSR:=kf hsr;have HRN:=kf hRn;have HCC:=kf hcc;have HC3:=kf (HC2.out.trans hc3 (fun _ _ e=>e));clear hRn hsr hcc hc3))
  go_ret2;exact⟨RA,Rn,Rc,rfl,by rw [HPT.out];exact HRN.out,by rw [HPT.out];exact HSR.out,HCC.out,HC3.out⟩
 ·have HPT:=kf (HZ0.out hz0);have d1:(z==0)=false:=by simpa using hz0
  have d2:(z != 0)=true:=by simpa using hz0
  clear hz0;go_wp2_with (go_at_call 14;refine(HCK.out _ HC.out).mono ?_;rintro e w2 ⟨rfl,hc2⟩;have HC2:=kf (HC.out.trans hc2 (fun _ _ e=>e));clear hc2);go_ret2;exact⟨none,0,0,rfl,by rw [HPT.out];rfl,by rw [HPT.out];exact⟨rfl,fun _=>⟨rfl,rfl⟩,fun ad h=>by cases h⟩,by omega,HC2.out⟩
theorem z9y (xs:List GC) (B:Option Addr) (d:Nat) (t:VT) (vk vn:Int) (vs:ByteArray) (vA:Option Addr) (vl vc:Nat) (w:World) (hG:Ev NoS w (z4v xs B d)) (hl:xs.length<=1000000)
  (hes:∀ x∈xs,x.g.es.length<=1000000/\-9223372036854775808<=x.g.first/\x.g.first<=9223372036854775807) (hv:ValIs w t ⟨vk,vn,vs,vA,vl,vc⟩) (hs:z2n t<=1000) (hfl:z0h t=0->(z0c t).length<=3000) :
  Calls Tryz.prog 11 #[.agg #[.slice B xs.length d,.int .i64 vk,.int .i64 vn,.string vs,.slice vA vl vc]] w fun e w'=>e=.returned (.tuple #[.string (sb (v4d (xs.map GC.g) t)),.int .i64 (z3t (xs.map GC.g) t)])/\Chg NoS w w':=by
 have HCK:=kf (fun V (hV:Chg NoS w V)=>z5o xs B d t vk vn vs vA vl vc V (hG.chg hV) hl hes (hv.chg hV) (by omega));have HPD:=kf (fun(hz:z3t (xs.map GC.g) t=0) V (hV:Chg NoS w V)=>y1a xs B d t vk vn vs vA vl vc V (hG.chg hV) (by have:=(z3a hz).1;rwa [List.length_map] at this) (fun x hx=>(z3a hz).2.1 x.g (List.mem_map_of_mem hx)) (hv.chg hV) (z3a hz).2.2 (hfl (z3a hz).2.2));have HZ0:=kf (fun h=>v2z (gs:=xs.map GC.g) (t:=t) h);have HZ1:=kf (fun h=>v2y (gs:=xs.map GC.g) (t:=t) h);obtain⟨z,hz⟩:∃ z,z=z3t (xs.map GC.g) t:=⟨_,rfl⟩
 rw [<- hz] at HCK HPD HZ0 HZ1 ⊢;obtain⟨S,hS⟩:∃ S,S=sb (y58 (xs.map GC.g) t):=⟨_,rfl⟩
 rw [<- hS] at HPD;have HS:=kf hS;obtain⟨m,hm⟩:∃ m,m=xs.length:=⟨_,rfl⟩
 rw [<- hm] at HCK HPD ⊢;have HB:=kf (Blk.new w 27 #[.slice B m d,.int .i64 vk,.int .i64 vn,.string vs,.slice vA vl vc]);have HC:=kf ((Chg.refl NoS w).alloc (.cells #[.slice B m d,.int .i64 vk,.int .i64 vn,.string vs,.slice vA vl vc] 27));clear hG hes hv hs hfl hm hz hl hS;go_enter Tryz.func11,Tryz.ntmps11;go_upto_region 1 with fail;obtain⟨W1,hW1⟩:∃ W1,W1=w.alloc (.cells #[.slice B m d,.int .i64 vk,.int .i64 vn,.string vs,.slice vA vl vc] 27):=⟨_,rfl⟩
 obtain⟨g1,hg1⟩:∃ g1,g1=w.heap.size:=⟨_,rfl⟩
 rw [<- hW1] at HB HC ⊢;rw [<- hg1] at HB ⊢;clear hW1 hg1;obtain⟨q0,q1,q2,q3,q4,-⟩:=HB.out.cl5;by_cases hz0:z=0
 ·subst hz0;have HP:=kf (HPD.out rfl);have HPT:=kf (HZ1.out rfl)
  go_wp2_with (first
   |(go_at_call 15;refine(HCK.out _ HC.out).mono ?_;rintro e w2 ⟨rfl,hc2⟩;have HC2:=kf (HC.out.trans hc2 (fun _ _ e=>e));have hb2:=HB.out.chg hc2 (fun e=>e);clear q0 q1 q2 q3 q4;obtain⟨q0,q1,q2,q3,q4,-⟩:=hb2.cl5;clear hc2 hb2)
   |(go_at_call 28;refine(HP.out _ HC2.out).mono ?_;rintro e w3 ⟨rfl,hc3⟩;have HC3:=kf (HC2.out.trans hc3 (fun _ _ e=>e));clear hc3))
  go_ret2;exact⟨by rw [HPT.out,<- HS.out];rfl,HC3.out⟩
 ·have HPT:=kf (HZ0.out hz0);have d1:(z==0)=false:=by simpa using hz0
  have d2:(z != 0)=true:=by simpa using hz0
  clear hz0;go_wp2_with (go_at_call 15;refine(HCK.out _ HC.out).mono ?_;rintro e w2 ⟨rfl,hc2⟩;have HC2:=kf (HC.out.trans hc2 (fun _ _ e=>e));clear hc2);go_ret2;exact⟨by rw [HPT.out];rfl,HC2.out⟩
theorem v8q (l:List Nat):sb ((u8L l).map UInt8.toNat)=sb l:=by
 unfold sb u8L;rw [List.map_map,List.map_map];congr 2;apply List.map_congr_left;intro a _;show UInt8.ofNat (UInt8.ofNat a).toNat=UInt8.ofNat a;exact UInt8.ofNat_toNat
def y5b (xs:List GC) (t:VT):Prop:=y0w xs/\z2n t<=100/\(z0h t=0->(z0c t).length<=3000)
theorem y6u (xs ys:List GC) (B:Option Addr) (d:Nat) (B':Option Addr) (d':Nat) (t u:VT) (vk vn:Int) (vs:ByteArray) (vA:Option Addr) (vl vc:Nat) (uk un:Int) (us:ByteArray) (uA:Option Addr) (ul uc:Nat) (ep eg:Int) (eu:Bool) (w:World)
  (hG:Ev NoS w (z4v xs B d)) (hG':Ev NoS w (z4v ys B' d')) (hm:xs.length<=9223372036854775807) (hm':ys.length<=9223372036854775807) (hgg:∀ x∈xs,y21 w x) (hgg':∀ x∈ys,y21 w x)
  (hv:ValIs w t ⟨vk,vn,vs,vA,vl,vc⟩) (hv':ValIs w u ⟨uk,un,us,uA,ul,uc⟩) (hst:z3u 140737488351232 t) (hst':z3u 140737488351232 u) (hep:-9223372036854775808<=ep/\ep<=9223372036854775807) (heg:-9223372036854775808<=eg/\eg<=9223372036854775807) (hL:LibOk w) :
  Calls Tryz.prog 3 #[.agg #[.slice B xs.length d,.int .i64 vk,.int .i64 vn,.string vs,.slice vA vl vc],.agg #[.slice B' ys.length d',.int .i64 uk,.int .i64 un,.string us,.slice uA ul uc],.agg #[.int .i64 ep,.int .i64 eg,.bool eu]] w fun e w'=>e=.returned (.bool true)/\Chg NoS w w':=by
 have HW:=kf (fun V (h:Chg NoS w V)=>y0y V (hL.chg h));have HFA:=kf (fun V (h:Chg NoS w V)=>z6k xs B d t vk vn vs vA vl vc V (hG.chg h) hm (hv.chg h) hst);have HFB:=kf (fun V (h:Chg NoS w V)=>z6k ys B' d' u uk un us uA ul uc V (hG'.chg h) hm' (hv'.chg h) hst');have HTA:=kf (fun V=>y5c B xs.length d vk vn vs vA vl vc V);have HTB:=kf (fun V=>y5c B' ys.length d' uk un us uA ul uc V);have hes:y0w xs->xs.length<=1000000/\∀ x∈xs,x.g.es.length<=1000000/\-9223372036854775808<=x.g.first/\x.g.first<=9223372036854775807:=fun h=>⟨by have:=h.1;omega,fun x hx=>⟨by have:=h.2 x hx;omega,(hgg x hx).2.2⟩⟩
 have hes':y0w ys->ys.length<=1000000/\∀ x∈ys,x.g.es.length<=1000000:=fun h=>⟨by have:=h.1;omega,fun x hx=>by have:=h.2 x hx;omega⟩
 have HPX:=kf (fun(hf:y5b xs t) V (h:Chg NoS w V)=>y3v xs B d t vk vn vs vA vl vc V (hG.chg h) (hL.chg h) (hes hf.1).1 (hes hf.1).2 (hv.chg h) (by have:=hf.2.1;omega) hf.2.2);have HPR:=kf (fun(hf:y5b xs t) V (h:Chg NoS w V)=>z9y xs B d t vk vn vs vA vl vc V (hG.chg h) (hes hf.1).1 (hes hf.1).2 (hv.chg h) (by have:=hf.2.1;omega) hf.2.2);have HXC:=kf (fun(hf:y5b xs t) V (h:Chg NoS w V)=>z7j xs B d t vk vn vs vA vl vc V (hG.chg h) (hes hf.1).1 (hes hf.1).2 (hv.chg h) (by have:=hf.2.1;omega));have HRC:=kf (fun(hf:y5b xs t) V (h:Chg NoS w V)=>z5o xs B d t vk vn vs vA vl vc V (hG.chg h) (hes hf.1).1 (hes hf.1).2 (hv.chg h) (by have:=hf.2.1;omega));have HSX:=kf (fun(hf:y5b xs t) (hf':y5b ys u) V (h:Chg NoS w V)=>y5d xs ys B d B' d' t u vk vn vs vA vl vc uk un us uA ul uc V (hG.chg h) (hG'.chg h) (hv.chg h) (hv'.chg h) (hes hf.1).1 (hes' hf'.1).1 (fun x hx=>((hes hf.1).2 x hx).1) (hes' hf'.1).2);have HSR:=kf (fun(hf:y5b xs t) (hf':y5b ys u) V (h:Chg NoS w V)=>y1b xs ys B d B' d' t u vk vn vs vA vl vc uk un us uA ul uc V (hG.chg h) (hG'.chg h) (hv.chg h) (hv'.chg h) (hes hf.1).1 (hes' hf'.1).1 (fun x hx=>((hes hf.1).2 x hx).1) (hes' hf'.1).2);have HXE:=kf (fun V (h:Chg NoS w V)=>z4x ⟨ep,eg,eu⟩ V (hL.chg h) hep heg);have HRE:=kf (fun V=>z5n ⟨ep,eg,eu⟩ V hep heg);unfold XEn.cells at HXE HRE;unfold PrX at HPX;simp only [] at HXE HRE;obtain⟨L,hLn⟩:∃ L,L=(if z2b ⟨ep,eg,eu⟩ then sb (z15 ⟨ep,eg,eu⟩) else(⟨#[]⟩:ByteArray)):=⟨_,rfl⟩
 obtain⟨le,hle⟩:∃ le:Int,le=(if z2b ⟨ep,eg,eu⟩ then 0 else 2):=⟨_,rfl⟩
 rw [<- hLn,<- hle] at HXE HRE;obtain⟨P,hP⟩:∃ P,P=v4d (xs.map GC.g) t:=⟨_,rfl⟩
 obtain⟨z,hz⟩:∃ z,z=z3t (xs.map GC.g) t:=⟨_,rfl⟩
 rw [<- hP,<- hz] at HPX HPR;rw [<- hz] at HXC HRC;obtain⟨r,hr⟩:∃ r,r=z34 (xs.map GC.g) (ys.map GC.g) t u:=⟨_,rfl⟩
 rw [<- hr] at HSX HSR;obtain⟨S,hS⟩:∃ S,S=sb P:=⟨_,rfl⟩
 have HS:=kf hS;rw [<- hS] at HPR;have HFA:=kf (fun V h=>(HFA.out V h:Calls _ _ _ _ fun e w'=>(∃ b:Bool,e=.returned (.bool b)/\(b=true->y5b xs t))/\Chg NoS V w'));have HFB:=kf (fun V h=>(HFB.out V h:Calls _ _ _ _ fun e w'=>(∃ b:Bool,e=.returned (.bool b)/\(b=true->y5b ys u))/\Chg NoS V w'));obtain⟨m,hml⟩:∃ m,m=xs.length:=⟨_,rfl⟩
 obtain⟨n,hnl⟩:∃ n,n=ys.length:=⟨_,rfl⟩
 rw [<- hml] at HFA HTA HPX HPR HXC HRC HSX HSR ⊢;rw [<- hnl] at HFB HTB HSX HSR ⊢;have HBA:=kf (((Blk.new w 27 #[.slice B m d,.int .i64 vk,.int .i64 vn,.string vs,.slice vA vl vc]).alloc (.cells #[.slice B' n d',.int .i64 uk,.int .i64 un,.string us,.slice uA ul uc] 27)).alloc (.cells #[.int .i64 ep,.int .i64 eg,.bool eu] 29));have HBB:=kf ((z30 w (.cells #[.slice B m d,.int .i64 vk,.int .i64 vn,.string vs,.slice vA vl vc] 27) 27 #[.slice B' n d',.int .i64 uk,.int .i64 un,.string us,.slice uA ul uc]).alloc (.cells #[.int .i64 ep,.int .i64 eg,.bool eu] 29));have HBE:=kf (z30 (w.alloc (.cells #[.slice B m d,.int .i64 vk,.int .i64 vn,.string vs,.slice vA vl vc] 27)) (.cells #[.slice B' n d',.int .i64 uk,.int .i64 un,.string us,.slice uA ul uc] 27) 29 #[.int .i64 ep,.int .i64 eg,.bool eu]);rw [World.size_alloc] at HBE;have HC:=kf ((((Chg.refl NoS w).alloc (.cells #[.slice B m d,.int .i64 vk,.int .i64 vn,.string vs,.slice vA vl vc] 27)).alloc (.cells #[.slice B' n d',.int .i64 uk,.int .i64 un,.string us,.slice uA ul uc] 27)).alloc (.cells #[.int .i64 ep,.int .i64 eg,.bool eu] 29));obtain⟨ge,hge⟩:∃ g,g=w.heap.size+1+1:=⟨_,rfl⟩
 obtain⟨gb,hgb⟩:∃ g,g=w.heap.size+1:=⟨_,rfl⟩
 obtain⟨ga,hga⟩:∃ g,g=w.heap.size:=⟨_,rfl⟩
 rw [<- hge] at HBE;rw [<- hgb] at HBB;rw [<- hga] at HBA;clear hL hG hG' hgg hgg' hv hv' hst hst' hml hnl hLn hle hP hz hr hS hes hes' hep heg;go_enter Tryz.func3,Tryz.ntmps3;go_upto_region 1 with fail;rw [<- hga];try rw [show ga+1+1=ge from by omega]
 try rw [show ga+2=ge from by omega]
 try rw [show ga+1=gb from by omega]
 obtain⟨W1,hW1⟩:∃ W1,W1=((w.alloc (.cells #[.slice B m d,.int .i64 vk,.int .i64 vn,.string vs,.slice vA vl vc] 27)).alloc (.cells #[.slice B' n d',.int .i64 uk,.int .i64 un,.string us,.slice uA ul uc] 27)).alloc (.cells #[.int .i64 ep,.int .i64 eg,.bool eu] 29):=⟨_,rfl⟩
 rw [<- hW1] at HBA HBB HBE HC ⊢;clear hW1 hga hgb hge;obtain⟨q0,q1,q2,q3,q4,-⟩:=HBA.out.cl5;obtain⟨p0,p1,p2,p3,p4,-⟩:=HBB.out.cl5;go_cut [22] from 15 to 85 (fun s22 wx=>∃ bb:Bool,s22=.bool (!bb)/\Hid ((bb=true->y5b xs t/\y5b ys u)/\Chg NoS W1 wx))
 case first =>
  go_wp2_with (first
   |(go_at_call 7;((with_reducible refine(HFA.out _ HC.out).mono ?_));rintro e w2 ⟨⟨b1,rfl,hb1⟩,hc2⟩;have HC2:=kf hc2;have HB1:=kf hb1;have hb3:=HBB.out.chg hc2 (fun e=>e);clear q0 q1 q2 q3 q4 p0 p1 p2 p3 p4;obtain⟨p0,p1,p2,p3,p4,-⟩:=hb3.cl5;clear hc2 hb1 hb3;cases b1)
   |(go_at_call 7;((with_reducible refine(HFB.out _ (HC.out.trans HC2.out (fun _ _ e=>e))).mono ?_));rintro e w3 ⟨⟨b2,rfl,hb2⟩,hc3⟩;have HC3:=kf (HC2.out.trans hc3 (fun _ _ e=>e));have HB2:=kf hb2;clear hc3 hb2))
  all_goals try (go_wp2_with (go_at_call 7;((with_reducible refine(HFB.out _ (HC.out.trans HC2.out (fun _ _ e=>e))).mono ?_));rintro e w3 ⟨⟨b2,rfl,hb2⟩,hc3⟩;have HC3:=kf (HC2.out.trans hc3 (fun _ _ e=>e));have HB2:=kf hb2;clear hc3 hb2))
  all_goals go_meet
  all_goals first
   |exact⟨false,rfl,kf ⟨fun h=>(by cases h),HC2.out⟩⟩
   |exact⟨b2,rfl,kf ⟨fun h=>⟨HB1.out rfl,HB2.out h⟩,HC3.out⟩⟩
   |exact⟨b2,rfl,kf ⟨fun h=>⟨HB1.out trivial,HB2.out h⟩,HC3.out⟩⟩
 case rest =>
  obtain⟨bb,rfl,hcx⟩:=hcut;have HC2:=kf (HC.out.trans hcx.out.2 (fun _ _ e=>e));have HFW:=kf hcx.out.1;have HBA2:=kf (HBA.out.chg hcx.out.2 (fun e=>e));have HBB2:=kf (HBB.out.chg hcx.out.2 (fun e=>e));have HBE2:=kf (HBE.out.chg hcx.out.2 (fun e=>e));clear hcx q0 q1 q2 q3 q4 p0 p1 p2 p3 p4 HBA HBB HBE;cases bb with
  |false =>
   simp only [Bool.not_false];go_wp2_with (go_at_call 8;refine(HW.out _ HC2.out).mono ?_;rintro e wx ⟨rfl,hcx⟩;have HCx:=kf hcx;clear hcx);go_ret;exact⟨rfl,HC2.out.trans HCx.out (fun _ _ e=>e)⟩
  |true =>
   simp only [Bool.not_true];obtain⟨hfa,hfb⟩:=HFW.out rfl;have HPX:=kf (HPX.out hfa);have HPR:=kf (HPR.out hfa);have HXC:=kf (HXC.out hfa);have HRC:=kf (HRC.out hfa);have HSX:=kf (HSX.out hfa hfb);have HSR:=kf (HSR.out hfa hfb);clear hfa hfb HFW HFA HFB;obtain⟨q0,q1,q2,q3,q4,-⟩:=HBA2.out.cl5
   go_upto_region 4 with(first
    |(go_at_call 10;refine(HTA.out _).mono ?_;rintro e w3 ⟨rfl,hc3⟩;have HC3:=kf (HC2.out.trans hc3 (fun _ _ e=>e));have HBA3:=kf (HBA2.out.chg hc3 (fun e=>e));have HBB3:=kf (HBB2.out.chg hc3 (fun e=>e));have HBE3:=kf (HBE2.out.chg hc3 (fun e=>e));clear hc3)
    |(go_at_call 9;refine(HPX.out _ HC3.out).mono ?_;rintro e w4 ⟨RA,Rn,Rc,rfl,hRn,hsr,hcc,hc4⟩;have HSR4:=kf hsr;have HC4:=kf (HC3.out.trans hc4 (fun _ _ e=>e));have HBA4:=kf (HBA3.out.chg hc4 (fun e=>e));have HBB4:=kf (HBB3.out.chg hc4 (fun e=>e));have HBE4:=kf (HBE3.out.chg hc4 (fun e=>e));clear hRn hsr hcc hc4))
   clear q0 q1 q2 q3 q4;obtain⟨q0,q1,q2,q3,q4,-⟩:=HBA4.out.cl5;go_upto_region 5 with(go_at_call 11;refine(HPR.out _ HC4.out).mono ?_;rintro e w5 ⟨rfl,hc5⟩;have HC5:=kf hc5;have HBA5:=kf (HBA4.out.chg hc5 (fun e=>e));have HBB5:=kf (HBB4.out.chg hc5 (fun e=>e));have HBE5:=kf (HBE4.out.chg hc5 (fun e=>e));clear hc5);clear q0 q1 q2 q3 q4;obtain⟨r0,r1,r2,-⟩:=HBE5.out.cl3;go_upto_region 6 with(go_at_call 12;refine(HXE.out _ (HC4.out.trans HC5.out (fun _ _ e=>e))).mono ?_;rintro e w6 ⟨rfl,hc6⟩;have HC6:=kf (HC5.out.trans hc6 (fun _ _ e=>e));have HBA6:=kf (HBA5.out.chg hc6 (fun e=>e));have HBB6:=kf (HBB5.out.chg hc6 (fun e=>e));have HBE6:=kf (HBE5.out.chg hc6 (fun e=>e));clear hc6);clear r0 r1 r2;obtain⟨r0,r1,r2,-⟩:=HBE6.out.cl3;go_upto_region 7 with(go_at_call 13;refine(HRE.out _).mono ?_;rintro e W7 ⟨rfl,hc7⟩;have HC77:=kf (HC6.out.trans hc7 (fun _ _ e=>e));have HBA7:=kf (HBA6.out.chg hc7 (fun e=>e));have HBB7:=kf (HBB6.out.chg hc7 (fun e=>e));clear hc7);clear r0 r1 r2;have HC7:=kf (HC4.out.trans HC77.out (fun _ _ e=>e))
   have HHE:=kf (fun V (hV:Chg NoS W7 V)=>(show V.cell? ⟨ga,0,none⟩=some (.slice B m d)/\V.cell? ⟨ga,1,none⟩=some (.int .i64 vk)/\V.cell? ⟨ga,2,none⟩=some (.int .i64 vn)/\V.cell? ⟨ga,3,none⟩=some (.string vs)/\V.cell? ⟨ga,4,none⟩=some (.slice vA vl vc)/\V.cell? ⟨gb,0,none⟩=some (.slice B' n d')/\V.cell? ⟨gb,1,none⟩=some (.int .i64 uk)/\V.cell? ⟨gb,2,none⟩=some (.int .i64 un)/\V.cell? ⟨gb,3,none⟩=some (.string us)/\V.cell? ⟨gb,4,none⟩=some (.slice uA ul uc)/\(convert 32 9 (.slice RA Rn Rc)).run Tryz.prog V=.ok (.string S) V from
    ⟨(HBA7.out.chg hV (fun e=>e)).cell 0,(HBA7.out.chg hV (fun e=>e)).cell 1,(HBA7.out.chg hV (fun e=>e)).cell 2,(HBA7.out.chg hV (fun e=>e)).cell 3,(HBA7.out.chg hV (fun e=>e)).cell 4,(HBB7.out.chg hV (fun e=>e)).cell 0,(HBB7.out.chg hV (fun e=>e)).cell 1,(HBB7.out.chg hV (fun e=>e)).cell 2,(HBB7.out.chg hV (fun e=>e)).cell 3,(HBB7.out.chg hV (fun e=>e)).cell 4,by
     rw [HS.out,<- v8q P];exact y98 (Src.below (w0:=w4) HSR4.out (HC77.out.trans hV (fun _ _ e=>e)))⟩))
   clear HBA2 HBB2 HBE2 HBA3 HBB3 HBE3 HBA4 HBB4 HBE4 HBA5 HBB5 HBE5 HBA6 HBB6 HBE6;refine wp_region_held_drew (S:=fun V=>V.cell? ⟨ga,0,none⟩=some (.slice B m d)/\V.cell? ⟨ga,1,none⟩=some (.int .i64 vk)/\V.cell? ⟨ga,2,none⟩=some (.int .i64 vn)/\V.cell? ⟨ga,3,none⟩=some (.string vs)/\V.cell? ⟨ga,4,none⟩=some (.slice vA vl vc)/\V.cell? ⟨gb,0,none⟩=some (.slice B' n d')/\V.cell? ⟨gb,1,none⟩=some (.int .i64 uk)/\V.cell? ⟨gb,2,none⟩=some (.int .i64 un)/\V.cell? ⟨gb,3,none⟩=some (.string us)/\V.cell? ⟨gb,4,none⟩=some (.slice uA ul uc)/\(convert 32 9 (.slice RA Rn Rc)).run Tryz.prog V=.ok (.string S) V) (by kernel_rfl) (HHE.out _ ((Chg.refl NoS W7).drew)) (fun hHeld=>?_);refine wpAnyH_take (i:=0) (oi:={ dst:=some 45,op:=Go.Op.move (Go.Operand.tmp 7),type:=32,pos:=_,after:=_,guard:=none }) (v:=?_) rfl (by kernel_rfl) (by kernel_rfl) (by kernel_rfl) (fun _ _ _ h=>h) (Or.inl ⟨by rfl,?_⟩) (by assumption) ?_;rotate_left
   ·intro w hSw;(try dsimp only at hSw);(try obtain⟨s0,s1,s2,s3,s4,s5,s6,s7,s8,s9,s10⟩:=hSw);(first|(go_simp;done)|(go_simp;with_reducible rfl))
   try simp only [pkA]
   refine wpAnyH_take (i:=1) (oi:={ dst:=some 46,op:=Go.Op.convert 32 9 (Go.Operand.tmp 45),type:=9,pos:=_,after:=_,guard:=none }) (v:=?_) rfl (by kernel_rfl) (by kernel_rfl) (by kernel_rfl) (fun _ _ _ h=>h) (Or.inl ⟨by rfl,?_⟩) (by assumption) ?_;rotate_left
   ·intro w hSw;(try dsimp only at hSw);(try obtain⟨s0,s1,s2,s3,s4,s5,s6,s7,s8,s9,s10⟩:=hSw);(first|(go_simp;done)|(go_simp;with_reducible rfl))
   try simp only [pkA]
   refine wpAnyH_take (i:=2) (oi:={ dst:=some 47,op:=Go.Op.move (Go.Operand.tmp 9),type:=9,pos:=_,after:=_,guard:=none }) (v:=?_) rfl (by kernel_rfl) (by kernel_rfl) (by kernel_rfl) (fun _ _ _ h=>h) (Or.inl ⟨by rfl,?_⟩) (by assumption) ?_;rotate_left
   ·intro w hSw;(try dsimp only at hSw);(try obtain⟨s0,s1,s2,s3,s4,s5,s6,s7,s8,s9,s10⟩:=hSw);(first|(go_simp;done)|(go_simp;with_reducible rfl))
   try simp only [pkA]
   refine wpAnyH_take (i:=3) (oi:={ dst:=some 48,op:=Go.Op.binOp Go.BinOp.eql 9 (Go.Operand.tmp 46) (Go.Operand.tmp 47) 9,type:=4,pos:=_,after:=_,guard:=none }) (v:=?_) rfl (by kernel_rfl) (by kernel_rfl) (by kernel_rfl) (fun _ _ _ h=>h) (Or.inl ⟨by rfl,?_⟩) (by assumption) ?_;rotate_left
   ·intro w hSw;(try dsimp only at hSw);(try obtain⟨s0,s1,s2,s3,s4,s5,s6,s7,s8,s9,s10⟩:=hSw);(first|(go_simp;done)|(go_simp;with_reducible rfl))
   try simp only [pkA]
   refine wpAnyH_take (i:=4) (oi:={ dst:=some 49,op:=Go.Op.move (Go.Operand.tmp 48),type:=4,pos:=_,after:=_,guard:=none }) (v:=?_) rfl (by kernel_rfl) (by kernel_rfl) (by kernel_rfl) (fun _ _ _ h=>h) (Or.inl ⟨by rfl,?_⟩) (by assumption) ?_;rotate_left
   ·intro w hSw;(try dsimp only at hSw);(try obtain⟨s0,s1,s2,s3,s4,s5,s6,s7,s8,s9,s10⟩:=hSw);(first|(go_simp;done)|(go_simp;with_reducible rfl))
   try simp only [pkA]
   refine wpAnyH_take (i:=5) (oi:={ dst:=some 50,op:=Go.Op.move (Go.Operand.tmp 8),type:=33,pos:=_,after:=_,guard:=some (4,true) }) (v:=?_) rfl (by kernel_rfl) (by kernel_rfl) (by kernel_rfl) (fun _ _ _ h=>h) (Or.inl ⟨by rfl,?_⟩) (by assumption) ?_;rotate_left
   ·intro w hSw;(try dsimp only at hSw);(try obtain⟨s0,s1,s2,s3,s4,s5,s6,s7,s8,s9,s10⟩:=hSw);(first|(go_simp;done)|(go_simp;with_reducible rfl))
   try simp only [pkA]
   refine wpAnyH_take (i:=6) (oi:={ dst:=some 51,op:=Go.Op.move (Go.Operand.tmp 10),type:=3,pos:=_,after:=_,guard:=some (4,true) }) (v:=?_) rfl (by kernel_rfl) (by kernel_rfl) (by kernel_rfl) (fun _ _ _ h=>h) (Or.inl ⟨by rfl,?_⟩) (by assumption) ?_;rotate_left
   ·intro w hSw;(try dsimp only at hSw);(try obtain⟨s0,s1,s2,s3,s4,s5,s6,s7,s8,s9,s10⟩:=hSw);(first|(go_simp;done)|(go_simp;with_reducible rfl))
   try simp only [pkA]
   refine wpAnyH_take (i:=7) (oi:={ dst:=some 52,op:=Go.Op.binOp Go.BinOp.eql 3 (Go.Operand.tmp 50) (Go.Operand.tmp 51) 3,type:=4,pos:=_,after:=_,guard:=some (4,true) }) (v:=?_) rfl (by kernel_rfl) (by kernel_rfl) (by kernel_rfl) (fun _ _ _ h=>h) (Or.inl ⟨by rfl,?_⟩) (by assumption) ?_;rotate_left
   ·intro w hSw;(try dsimp only at hSw);(try obtain⟨s0,s1,s2,s3,s4,s5,s6,s7,s8,s9,s10⟩:=hSw);(first|(go_simp;done)|(go_simp;with_reducible rfl))
   try simp only [pkA]
   refine wpAnyH_take (i:=8) (oi:={ dst:=some 53,op:=Go.Op.pick (Go.Operand.tmp 49) (Go.Operand.tmp 52) (Go.Operand.const (Go.Value.bool false)),type:=4,pos:=_,after:=_,guard:=none }) (v:=?_) rfl (by kernel_rfl) (by kernel_rfl) (by kernel_rfl) (fun _ _ _ h=>h) (Or.inl ⟨by rfl,?_⟩) (by assumption) ?_;rotate_left
   ·intro w hSw;(try dsimp only at hSw);(try obtain⟨s0,s1,s2,s3,s4,s5,s6,s7,s8,s9,s10⟩:=hSw);(first|(go_simp;done)|(go_simp;with_reducible rfl))
   try simp only [pkA]
   refine wpAnyH_take (i:=9) (oi:={ dst:=some 54,op:=Go.Op.move (Go.Operand.tmp 53),type:=4,pos:=_,after:=_,guard:=none }) (v:=?_) rfl (by kernel_rfl) (by kernel_rfl) (by kernel_rfl) (fun _ _ _ h=>h) (Or.inl ⟨by rfl,?_⟩) (by assumption) ?_;rotate_left
   ·intro w hSw;(try dsimp only at hSw);(try obtain⟨s0,s1,s2,s3,s4,s5,s6,s7,s8,s9,s10⟩:=hSw);(first|(go_simp;done)|(go_simp;with_reducible rfl))
   try simp only [pkA]
   refine wpAnyH_take (i:=10) (oi:={ dst:=some 55,op:=Go.Op.move (Go.Operand.tmp 11),type:=9,pos:=_,after:=_,guard:=some (9,true) }) (v:=?_) rfl (by kernel_rfl) (by kernel_rfl) (by kernel_rfl) (fun _ _ _ h=>h) (Or.inl ⟨by rfl,?_⟩) (by assumption) ?_;rotate_left
   ·intro w hSw;(try dsimp only at hSw);(try obtain⟨s0,s1,s2,s3,s4,s5,s6,s7,s8,s9,s10⟩:=hSw);(first|(go_simp;done)|(go_simp;with_reducible rfl))
   try simp only [pkA]
   refine wpAnyH_take (i:=11) (oi:={ dst:=some 56,op:=Go.Op.move (Go.Operand.tmp 13),type:=9,pos:=_,after:=_,guard:=some (9,true) }) (v:=?_) rfl (by kernel_rfl) (by kernel_rfl) (by kernel_rfl) (fun _ _ _ h=>h) (Or.inl ⟨by rfl,?_⟩) (by assumption) ?_;rotate_left
   ·intro w hSw;(try dsimp only at hSw);(try obtain⟨s0,s1,s2,s3,s4,s5,s6,s7,s8,s9,s10⟩:=hSw);(first|(go_simp;done)|(go_simp;with_reducible rfl))
   try simp only [pkA]
   refine wpAnyH_take (i:=12) (oi:={ dst:=some 57,op:=Go.Op.binOp Go.BinOp.eql 9 (Go.Operand.tmp 55) (Go.Operand.tmp 56) 9,type:=4,pos:=_,after:=_,guard:=some (9,true) }) (v:=?_) rfl (by kernel_rfl) (by kernel_rfl) (by kernel_rfl) (fun _ _ _ h=>h) (Or.inl ⟨by rfl,?_⟩) (by assumption) ?_;rotate_left
   ·intro w hSw;(try dsimp only at hSw);(try obtain⟨s0,s1,s2,s3,s4,s5,s6,s7,s8,s9,s10⟩:=hSw);(first|(go_simp;done)|(go_simp;with_reducible rfl))
   try simp only [pkA]
   refine wpAnyH_take (i:=13) (oi:={ dst:=some 58,op:=Go.Op.pick (Go.Operand.tmp 54) (Go.Operand.tmp 57) (Go.Operand.const (Go.Value.bool false)),type:=4,pos:=_,after:=_,guard:=none }) (v:=?_) rfl (by kernel_rfl) (by kernel_rfl) (by kernel_rfl) (fun _ _ _ h=>h) (Or.inl ⟨by rfl,?_⟩) (by assumption) ?_;rotate_left
   ·intro w hSw;(try dsimp only at hSw);(try obtain⟨s0,s1,s2,s3,s4,s5,s6,s7,s8,s9,s10⟩:=hSw);(first|(go_simp;done)|(go_simp;with_reducible rfl))
   try simp only [pkA]
   refine wpAnyH_take (i:=14) (oi:={ dst:=some 59,op:=Go.Op.move (Go.Operand.tmp 58),type:=4,pos:=_,after:=_,guard:=none }) (v:=?_) rfl (by kernel_rfl) (by kernel_rfl) (by kernel_rfl) (fun _ _ _ h=>h) (Or.inl ⟨by rfl,?_⟩) (by assumption) ?_;rotate_left
   ·intro w hSw;(try dsimp only at hSw);(try obtain⟨s0,s1,s2,s3,s4,s5,s6,s7,s8,s9,s10⟩:=hSw);(first|(go_simp;done)|(go_simp;with_reducible rfl))
   try simp only [pkA]
   refine wpAnyH_take (i:=15) (oi:={ dst:=some 60,op:=Go.Op.move (Go.Operand.tmp 12),type:=33,pos:=_,after:=_,guard:=some (14,true) }) (v:=?_) rfl (by kernel_rfl) (by kernel_rfl) (by kernel_rfl) (fun _ _ _ h=>h) (Or.inl ⟨by rfl,?_⟩) (by assumption) ?_;rotate_left
   ·intro w hSw;(try dsimp only at hSw);(try obtain⟨s0,s1,s2,s3,s4,s5,s6,s7,s8,s9,s10⟩:=hSw);(first|(go_simp;done)|(go_simp;with_reducible rfl))
   try simp only [pkA]
   refine wpAnyH_take (i:=16) (oi:={ dst:=some 61,op:=Go.Op.move (Go.Operand.tmp 14),type:=3,pos:=_,after:=_,guard:=some (14,true) }) (v:=?_) rfl (by kernel_rfl) (by kernel_rfl) (by kernel_rfl) (fun _ _ _ h=>h) (Or.inl ⟨by rfl,?_⟩) (by assumption) ?_;rotate_left
   ·intro w hSw;(try dsimp only at hSw);(try obtain⟨s0,s1,s2,s3,s4,s5,s6,s7,s8,s9,s10⟩:=hSw);(first|(go_simp;done)|(go_simp;with_reducible rfl))
   try simp only [pkA]
   refine wpAnyH_take (i:=17) (oi:={ dst:=some 62,op:=Go.Op.binOp Go.BinOp.eql 3 (Go.Operand.tmp 60) (Go.Operand.tmp 61) 3,type:=4,pos:=_,after:=_,guard:=some (14,true) }) (v:=?_) rfl (by kernel_rfl) (by kernel_rfl) (by kernel_rfl) (fun _ _ _ h=>h) (Or.inl ⟨by rfl,?_⟩) (by assumption) ?_;rotate_left
   ·intro w hSw;(try dsimp only at hSw);(try obtain⟨s0,s1,s2,s3,s4,s5,s6,s7,s8,s9,s10⟩:=hSw);(first|(go_simp;done)|(go_simp;with_reducible rfl))
   try simp only [pkA]
   refine wpAnyH_take (i:=18) (oi:={ dst:=some 63,op:=Go.Op.pick (Go.Operand.tmp 59) (Go.Operand.tmp 62) (Go.Operand.const (Go.Value.bool false)),type:=4,pos:=_,after:=_,guard:=none }) (v:=?_) rfl (by kernel_rfl) (by kernel_rfl) (by kernel_rfl) (fun _ _ _ h=>h) (Or.inl ⟨by rfl,?_⟩) (by assumption) ?_;rotate_left
   ·intro w hSw;(try dsimp only at hSw);(try obtain⟨s0,s1,s2,s3,s4,s5,s6,s7,s8,s9,s10⟩:=hSw);(first|(go_simp;done)|(go_simp;with_reducible rfl))
   try simp only [pkA]
   refine wpAnyH_take (i:=19) (oi:={ dst:=some 64,op:=Go.Op.move (Go.Operand.tmp 63),type:=4,pos:=_,after:=_,guard:=none }) (v:=?_) rfl (by kernel_rfl) (by kernel_rfl) (by kernel_rfl) (fun _ _ _ h=>h) (Or.inl ⟨by rfl,?_⟩) (by assumption) ?_;rotate_left
   ·intro w hSw;(try dsimp only at hSw);(try obtain⟨s0,s1,s2,s3,s4,s5,s6,s7,s8,s9,s10⟩:=hSw);(first|(go_simp;done)|(go_simp;with_reducible rfl))
   try simp only [pkA]
   refine wpAnyH_take (i:=20) (oi:={ dst:=some 65,op:=Go.Op.load 27 (Go.Operand.tmp 3),type:=27,pos:=_,after:=_,guard:=some (19,true) }) (v:=?_) rfl (by kernel_rfl) (by kernel_rfl) (by kernel_rfl) (fun _ _ _ h=>h) (Or.inl ⟨by rfl,?_⟩) (by assumption) ?_;rotate_left
   ·intro w hSw;(try dsimp only at hSw);(try obtain⟨s0,s1,s2,s3,s4,s5,s6,s7,s8,s9,s10⟩:=hSw);(first|(go_simp;done)|(go_simp;with_reducible rfl))
   try simp only [pkA]
   refine wpAnyH_take (i:=23) (oi:={ dst:=some 68,op:=Go.Op.load 27 (Go.Operand.tmp 3),type:=27,pos:=_,after:=_,guard:=some (19,true) }) (v:=?_) rfl (by kernel_rfl) (by kernel_rfl) (by kernel_rfl) (fun _ _ _ h=>h) (Or.inl ⟨by rfl,?_⟩) (by assumption) ?_;rotate_left
   ·intro w hSw;(try dsimp only at hSw);(try obtain⟨s0,s1,s2,s3,s4,s5,s6,s7,s8,s9,s10⟩:=hSw);(first|(go_simp;done)|(go_simp;with_reducible rfl))
   try simp only [pkA]
   refine wpAnyH_ready (rs:=[21]) (by kernel_rfl) (by simp) ?_;refine AllReadyH.cons (o:={ dst:=some 66,op:=Go.Op.call { callee:=Go.Callee.value (Go.Operand.func 10),args:=#[Go.Operand.tmp 65],argTypes:=#[27] },type:=36,pos:=_,after:=_,guard:=some (19,true) }) rfl (fun K hK=>?_) AllReadyH.nil;go_simp;(go_at_call 10;refine(HTA.out _).mono ?_;rintro e y0 ⟨rfl,hy0⟩;have HY0:=kf (Chg.trans ((Chg.refl NoS W7).drew) hy0 (fun _ _ e=>e));clear hy0)
   refine hK.out _ _ (HHE.out _ HY0.out) (fun hHeld=>?_);clear hK K;try simp only [pkA]
   refine wpAnyH_ready (rs:=[22]) (by kernel_rfl) (by simp) ?_;refine AllReadyH.cons (o:={ dst:=some 67,op:=Go.Op.call { callee:=Go.Callee.value (Go.Operand.func 14),args:=#[Go.Operand.tmp 66],argTypes:=#[36] },type:=33,pos:=_,after:=_,guard:=some (19,true) }) rfl (fun K hK=>?_) AllReadyH.nil;go_simp;(go_at_call 14;refine(HXC.out _ (HC7.out.trans HY0.out (fun _ _ e=>e))).mono ?_;rintro e y1 ⟨rfl,hy1⟩;have HY1:=kf (Chg.trans HY0.out hy1 (fun _ _ e=>e));clear hy1)
   refine hK.out _ _ (HHE.out _ HY1.out) (fun hHeld=>?_);clear hK K;try simp only [pkA]
   refine wpAnyH_ready (rs:=[24]) (by kernel_rfl) (by simp) ?_;refine AllReadyH.cons (o:={ dst:=some 69,op:=Go.Op.call { callee:=Go.Callee.value (Go.Operand.func 15),args:=#[Go.Operand.tmp 68],argTypes:=#[27] },type:=3,pos:=_,after:=_,guard:=some (19,true) }) rfl (fun K hK=>?_) AllReadyH.nil;go_simp;(go_at_call 15;refine(HRC.out _ (HC7.out.trans HY1.out (fun _ _ e=>e))).mono ?_;rintro e y2 ⟨rfl,hy2⟩;have HY2:=kf (Chg.trans HY1.out hy2 (fun _ _ e=>e));clear hy2)
   refine hK.out _ _ (HHE.out _ HY2.out) (fun hHeld=>?_);clear hK K;try simp only [pkA]
   refine wpAnyH_take (i:=25) (oi:={ dst:=some 70,op:=Go.Op.binOp Go.BinOp.eql 3 (Go.Operand.tmp 67) (Go.Operand.tmp 69) 3,type:=4,pos:=_,after:=_,guard:=some (19,true) }) (v:=?_) rfl (by kernel_rfl) (by kernel_rfl) (by kernel_rfl) (fun _ _ _ h=>h) (Or.inl ⟨by rfl,?_⟩) (by assumption) ?_;rotate_left
   ·intro w hSw;(try dsimp only at hSw);(try obtain⟨s0,s1,s2,s3,s4,s5,s6,s7,s8,s9,s10⟩:=hSw);(first|(go_simp;done)|(go_simp;with_reducible rfl))
   try simp only [pkA]
   refine wpAnyH_take (i:=26) (oi:={ dst:=some 71,op:=Go.Op.pick (Go.Operand.tmp 64) (Go.Operand.tmp 70) (Go.Operand.const (Go.Value.bool false)),type:=4,pos:=_,after:=_,guard:=none }) (v:=?_) rfl (by kernel_rfl) (by kernel_rfl) (by kernel_rfl) (fun _ _ _ h=>h) (Or.inl ⟨by rfl,?_⟩) (by assumption) ?_;rotate_left
   ·intro w hSw;(try dsimp only at hSw);(try obtain⟨s0,s1,s2,s3,s4,s5,s6,s7,s8,s9,s10⟩:=hSw);(first|(go_simp;done)|(go_simp;with_reducible rfl))
   try simp only [pkA]
   refine wpAnyH_take (i:=27) (oi:={ dst:=some 72,op:=Go.Op.move (Go.Operand.tmp 71),type:=4,pos:=_,after:=_,guard:=none }) (v:=?_) rfl (by kernel_rfl) (by kernel_rfl) (by kernel_rfl) (fun _ _ _ h=>h) (Or.inl ⟨by rfl,?_⟩) (by assumption) ?_;rotate_left
   ·intro w hSw;(try dsimp only at hSw);(try obtain⟨s0,s1,s2,s3,s4,s5,s6,s7,s8,s9,s10⟩:=hSw);(first|(go_simp;done)|(go_simp;with_reducible rfl))
   try simp only [pkA]
   refine wpAnyH_take (i:=28) (oi:={ dst:=some 73,op:=Go.Op.load 27 (Go.Operand.tmp 3),type:=27,pos:=_,after:=_,guard:=some (27,true) }) (v:=?_) rfl (by kernel_rfl) (by kernel_rfl) (by kernel_rfl) (fun _ _ _ h=>h) (Or.inl ⟨by rfl,?_⟩) (by assumption) ?_;rotate_left
   ·intro w hSw;(try dsimp only at hSw);(try obtain⟨s0,s1,s2,s3,s4,s5,s6,s7,s8,s9,s10⟩:=hSw);(first|(go_simp;done)|(go_simp;with_reducible rfl))
   try simp only [pkA]
   refine wpAnyH_take (i:=30) (oi:={ dst:=some 75,op:=Go.Op.load 27 (Go.Operand.tmp 4),type:=27,pos:=_,after:=_,guard:=some (27,true) }) (v:=?_) rfl (by kernel_rfl) (by kernel_rfl) (by kernel_rfl) (fun _ _ _ h=>h) (Or.inl ⟨by rfl,?_⟩) (by assumption) ?_;rotate_left
   ·intro w hSw;(try dsimp only at hSw);(try obtain⟨s0,s1,s2,s3,s4,s5,s6,s7,s8,s9,s10⟩:=hSw);(first|(go_simp;done)|(go_simp;with_reducible rfl))
   try simp only [pkA]
   refine wpAnyH_take (i:=33) (oi:={ dst:=some 78,op:=Go.Op.load 27 (Go.Operand.tmp 3),type:=27,pos:=_,after:=_,guard:=some (27,true) }) (v:=?_) rfl (by kernel_rfl) (by kernel_rfl) (by kernel_rfl) (fun _ _ _ h=>h) (Or.inl ⟨by rfl,?_⟩) (by assumption) ?_;rotate_left
   ·intro w hSw;(try dsimp only at hSw);(try obtain⟨s0,s1,s2,s3,s4,s5,s6,s7,s8,s9,s10⟩:=hSw);(first|(go_simp;done)|(go_simp;with_reducible rfl))
   try simp only [pkA]
   refine wpAnyH_take (i:=34) (oi:={ dst:=some 79,op:=Go.Op.load 27 (Go.Operand.tmp 4),type:=27,pos:=_,after:=_,guard:=some (27,true) }) (v:=?_) rfl (by kernel_rfl) (by kernel_rfl) (by kernel_rfl) (fun _ _ _ h=>h) (Or.inl ⟨by rfl,?_⟩) (by assumption) ?_;rotate_left
   ·intro w hSw;(try dsimp only at hSw);(try obtain⟨s0,s1,s2,s3,s4,s5,s6,s7,s8,s9,s10⟩:=hSw);(first|(go_simp;done)|(go_simp;with_reducible rfl))
   try simp only [pkA]
   refine wpAnyH_ready (rs:=[29]) (by kernel_rfl) (by simp) ?_;refine AllReadyH.cons (o:={ dst:=some 74,op:=Go.Op.call { callee:=Go.Callee.value (Go.Operand.func 10),args:=#[Go.Operand.tmp 73],argTypes:=#[27] },type:=36,pos:=_,after:=_,guard:=some (27,true) }) rfl (fun K hK=>?_) AllReadyH.nil;go_simp;(go_at_call 10;refine(HTA.out _).mono ?_;rintro e y3 ⟨rfl,hy3⟩;have HY3:=kf (Chg.trans HY2.out hy3 (fun _ _ e=>e));clear hy3)
   refine hK.out _ _ (HHE.out _ HY3.out) (fun hHeld=>?_);clear hK K;try simp only [pkA]
   refine wpAnyH_ready (rs:=[31]) (by kernel_rfl) (by simp) ?_;refine AllReadyH.cons (o:={ dst:=some 76,op:=Go.Op.call { callee:=Go.Callee.value (Go.Operand.func 10),args:=#[Go.Operand.tmp 75],argTypes:=#[27] },type:=36,pos:=_,after:=_,guard:=some (27,true) }) rfl (fun K hK=>?_) AllReadyH.nil;go_simp;(go_at_call 10;refine(HTB.out _).mono ?_;rintro e y4 ⟨rfl,hy4⟩;have HY4:=kf (Chg.trans HY3.out hy4 (fun _ _ e=>e));clear hy4)
   refine hK.out _ _ (HHE.out _ HY4.out) (fun hHeld=>?_);clear hK K;try simp only [pkA]
   refine wpAnyH_ready (rs:=[32]) (by kernel_rfl) (by simp) ?_;refine AllReadyH.cons (o:={ dst:=some 77,op:=Go.Op.call { callee:=Go.Callee.value (Go.Operand.func 16),args:=#[Go.Operand.tmp 74,Go.Operand.tmp 76],argTypes:=#[36,36] },type:=4,pos:=_,after:=_,guard:=some (27,true) }) rfl (fun K hK=>?_) AllReadyH.nil;go_simp;(go_at_call 16;refine(HSX.out _ (HC7.out.trans HY4.out (fun _ _ e=>e))).mono ?_;rintro e y5 ⟨rfl,hy5⟩;have HY5:=kf (Chg.trans HY4.out hy5 (fun _ _ e=>e));clear hy5)
   refine hK.out _ _ (HHE.out _ HY5.out) (fun hHeld=>?_);clear hK K;try simp only [pkA]
   refine wpAnyH_ready (rs:=[35]) (by kernel_rfl) (by simp) ?_;refine AllReadyH.cons (o:={ dst:=some 80,op:=Go.Op.call { callee:=Go.Callee.value (Go.Operand.func 17),args:=#[Go.Operand.tmp 78,Go.Operand.tmp 79],argTypes:=#[27,27] },type:=4,pos:=_,after:=_,guard:=some (27,true) }) rfl (fun K hK=>?_) AllReadyH.nil;go_simp;(go_at_call 17;refine(HSR.out _ (HC7.out.trans HY5.out (fun _ _ e=>e))).mono ?_;rintro e y6 ⟨rfl,hy6⟩;have HY6:=kf (Chg.trans HY5.out hy6 (fun _ _ e=>e));clear hy6)
   refine hK.out _ _ (HHE.out _ HY6.out) (fun hHeld=>?_);clear hK K;try simp only [pkA]
   refine wpAnyH_take (i:=36) (oi:={ dst:=some 81,op:=Go.Op.binOp Go.BinOp.eql 4 (Go.Operand.tmp 77) (Go.Operand.tmp 80) 4,type:=4,pos:=_,after:=_,guard:=some (27,true) }) (v:=?_) rfl (by kernel_rfl) (by kernel_rfl) (by kernel_rfl) (fun _ _ _ h=>h) (Or.inl ⟨by rfl,?_⟩) (by assumption) ?_;rotate_left
   ·intro w hSw;(try dsimp only at hSw);(try obtain⟨s0,s1,s2,s3,s4,s5,s6,s7,s8,s9,s10⟩:=hSw);(first|(go_simp;done)|(go_simp;with_reducible rfl))
   try simp only [pkA]
   refine wpAnyH_take (i:=37) (oi:={ dst:=some 82,op:=Go.Op.pick (Go.Operand.tmp 72) (Go.Operand.tmp 81) (Go.Operand.const (Go.Value.bool false)),type:=4,pos:=_,after:=_,guard:=none }) (v:=?_) rfl (by kernel_rfl) (by kernel_rfl) (by kernel_rfl) (fun _ _ _ h=>h) (Or.inl ⟨by rfl,?_⟩) (by assumption) ?_;rotate_left
   ·intro w hSw;(try dsimp only at hSw);(try obtain⟨s0,s1,s2,s3,s4,s5,s6,s7,s8,s9,s10⟩:=hSw);(first|(go_simp;done)|(go_simp;with_reducible rfl))
   try simp only [pkA]
   refine wpAnyH_take (i:=38) (oi:={ dst:=some 83,op:=Go.Op.move (Go.Operand.tmp 82),type:=4,pos:=_,after:=_,guard:=none }) (v:=?_) rfl (by kernel_rfl) (by kernel_rfl) (by kernel_rfl) (fun _ _ _ h=>h) (Or.inl ⟨by rfl,?_⟩) (by assumption) ?_;rotate_left
   ·intro w hSw;(try dsimp only at hSw);(try obtain⟨s0,s1,s2,s3,s4,s5,s6,s7,s8,s9,s10⟩:=hSw);(first|(go_simp;done)|(go_simp;with_reducible rfl))
   try simp only [pkA]
   refine wpAnyH_ready (rs:=[39]) (by kernel_rfl) (by simp) ?_;refine AllReadyH.cons (o:={ dst:=some 84,op:=Go.Op.call { callee:=Go.Callee.value (Go.Operand.func 8),args:=#[],argTypes:=#[] },type:=4,pos:=_,after:=_,guard:=some (38,true) }) rfl (fun K hK=>?_) AllReadyH.nil;go_simp;(go_at_call 8;refine(HW.out _ (HC7.out.trans HY6.out (fun _ _ e=>e))).mono ?_;rintro e y7 ⟨rfl,hy7⟩;have HY7:=kf (Chg.trans HY6.out hy7 (fun _ _ e=>e));clear hy7)
   refine hK.out _ _ (HHE.out _ HY7.out) (fun hHeld=>?_);clear hK K;try simp only [pkA]
   refine wpAnyH_take (i:=40) (oi:={ dst:=some 85,op:=Go.Op.pick (Go.Operand.tmp 83) (Go.Operand.tmp 84) (Go.Operand.const (Go.Value.bool false)),type:=4,pos:=_,after:=_,guard:=none }) (v:=?_) rfl (by kernel_rfl) (by kernel_rfl) (by kernel_rfl) (fun _ _ _ h=>h) (Or.inl ⟨by rfl,?_⟩) (by assumption) ?_;rotate_left
   ·intro w hSw;(try dsimp only at hSw);(try obtain⟨s0,s1,s2,s3,s4,s5,s6,s7,s8,s9,s10⟩:=hSw);(first|(go_simp;done)|(go_simp;with_reducible rfl))
   try simp only [pkA]
   refine wpAnyH_take (i:=41) (oi:={ dst:=some 6,op:=Go.Op.assign (Go.Operand.tmp 85),type:=4,pos:=_,after:=_,guard:=none }) (v:=?_) rfl (by kernel_rfl) (by kernel_rfl) (by kernel_rfl) (fun _ _ _ h=>h) (Or.inl ⟨by rfl,?_⟩) (by assumption) ?_;rotate_left
   ·intro w hSw;(try dsimp only at hSw);(try obtain⟨s0,s1,s2,s3,s4,s5,s6,s7,s8,s9,s10⟩:=hSw);(first|(go_simp;done)|(go_simp;with_reducible rfl))
   try simp only [pkA]
   refine wpAnyH_done (by kernel_rfl) ?_ _;go_wp2_with fail;go_ret;exact⟨by simp,HC7.out.trans HY7.out (fun _ _ e=>e)⟩
end Go.Proofs.YtnhlalkeaaiefaaGreatDoor
