import Derived.Test.YtnhlalkeaaiefaaGreatDoorE22
set_option linter.unusedVariables false
set_option maxHeartbeats 64000000
set_option maxRecDepth 100000
set_option linter.unusedSimpArgs false
namespace Go.Proofs.YtnhlalkeaaiefaaGreatDoor
open Go.RowKit
theorem y9u {w0:World} {bs:List Nat} {A:Option Addr} {c:Nat} (h:RSrc w0 bs A c) (p m:Nat) (hp:p+m<=bs.length):Src w0 1 (y95 A p c) m (c-p) (z08 ((bs.drop p).take m))/\((bs.drop p).take m).length=m/\∀ x∈(bs.drop p).take m,x<256:=by
 have hl:((bs.drop p).take m).length=m:=by rw [List.length_take,List.length_drop];omega
 have h1:=y2e (lo:=p) (m:=m) h.src h.cap hp;have e:((z08 bs).drop p).take m=z08 ((bs.drop p).take m):=by unfold z08;rw [List.map_take,List.map_drop]
 rw [e] at h1;exact⟨h1,hl,fun x hx=>h.byt x (List.mem_of_mem_drop (List.mem_of_mem_take hx))⟩
theorem y6a (l:List Nat) (a b:Nat):(sb l).extract a b=sb ((l.drop a).take (b-a)):=by
 unfold sb;apply ByteArray.ext;rw [ByteArray.data_extract];simp only [List.extract_toArray,List.extract_eq_take_drop,List.map_drop,List.map_take]
theorem z3g (w:World) (g:Nat) (a b c:Value):Chg (fun i=>i=g) w (((w.setCell ⟨g,0,none⟩ a).setCell ⟨g,1,none⟩ b).setCell ⟨g,2,none⟩ c) :=
 Chg.setCell (S:=fun i=>i=g) (Chg.setCell (S:=fun i=>i=g) (Chg.setCell (S:=fun i=>i=g) (Chg.refl _ w) (p:=⟨g,0,none⟩) (fun _=>rfl) a) (p:=⟨g,1,none⟩) (fun _=>rfl) b) (p:=⟨g,2,none⟩) (fun _=>rfl) c
theorem Blk.cl3 {w:World} {g:Nat} {T:TypeId} {x0 x1 x2:Value} (h:Blk w g T #[x0,x1,x2]):w.cell? ⟨g,0,none⟩=some x0/\w.cell? ⟨g,1,none⟩=some x1/\w.cell? ⟨g,2,none⟩=some x2/\w.frozen? ⟨g,0,none⟩=false/\w.frozen? ⟨g,1,none⟩=false/\w.frozen? ⟨g,2,none⟩=false :=
 ⟨h.cell 0,h.cell 1,h.cell 2,h.frozen 0,h.frozen 1,h.frozen 2⟩
theorem v6q {x y:Nat} (hx:x<256) (hy:y<256):((sb [x]).toList==[UInt8.ofNat y])=decide (x=y):=by
 rw [show(sb [x]).toList=[UInt8.ofNat x] from by kernel_rfl];by_cases h:x=y
 ·subst h;simp
 ·rw [decide_eq_false h]
  have h2:¬UInt8.ofNat x=UInt8.ofNat y:=fun e=>h (by
   have:=congrArg UInt8.toNat e;rw [UInt8.toNat_ofNat',UInt8.toNat_ofNat'] at this;omega)
  simpa using h2
structure LineS (l:List Nat) (S S1 S2 S3:ByteArray) (x10 x16 x17 x18:Nat):Prop where
 siz:S.size=19
 e1:S.extract 0 10=S1
 e2:S.extract 11 16=S2
 e3:S.extract 17 18=S3
 s1:sl S1=l.take 10
 s2:sl S2=(l.drop 11).take 5
 z1:S1.size=10
 z2:S2.size=5
 g10:∀ h:10<S.size,(S[10]'h).toNat=x10
 g16:∀ h:16<S.size,(S[16]'h).toNat=x16
 g18:∀ h:18<S.size,(S[18]'h).toNat=x18
 l10:l.getD 10 0=x10
 l16:l.getD 16 0=x16
 l17:l.getD 17 0=x17
 l18:l.getD 18 0=x18
 c3:S3=sb [x17]
 b17:x17<256
 b18:x18<256
theorem v7j {l:List Nat} (hl:l.length=19) (hb:∀ x∈l,x<256):∃ S1 S2 S3 x10 x16 x17 x18,LineS l (sb l) S1 S2 S3 x10 x16 x17 x18:=by
 have hz:(sb l).size=19:=by rw [z01,hl]
 have hg:∀ k,k<19->l.getD k 0<256:=fun k hk=>by
  rw [List.getD_eq_getElem?_getD,List.getElem?_eq_getElem (by omega)];exact hb _ (List.getElem_mem _)
 have hat:∀ k (h:k<(sb l).size),((sb l)[k]'h).toNat=l.getD k 0:=fun k h=>by rw [z5t,z6f l hb]
 have e3:(l.drop 17).take 1=[l.getD 17 0]:=by
  rw [List.drop_eq_getElem_cons (by omega),List.getD_eq_getElem?_getD,List.getElem?_eq_getElem (by omega)];rfl
 refine⟨sb (l.take 10),sb ((l.drop 11).take 5),sb [l.getD 17 0],l.getD 10 0,l.getD 16 0,l.getD 17 0,l.getD 18 0,⟨hz,?_,?_,?_,z6f _ (fun x hx=>hb x (List.mem_of_mem_take hx)),z6f _ (fun x hx=>hb x (List.mem_of_mem_drop (List.mem_of_mem_take hx))),?_,?_,hat 10,hat 16,hat 18,rfl,rfl,rfl,rfl,rfl,hg 17 (by omega),hg 18 (by omega)⟩⟩
 ·rw [y6a,List.drop_zero]
 ·rw [y6a]
 ·rw [y6a,e3]
 ·rw [z01,List.length_take];omega
 ·rw [z01,List.length_take,List.length_drop];omega
theorem y9y {w0 wi:World} {bs:List Nat} {A:Option Addr} {c R:Nat} {last:Bool} {p:Nat} (hB:RSrc w0 bs A c) (hi:XB w0 bs A c R last ((p:Nat),0) wi) (hp:p<=bs.length) :
  Calls Tryz.prog 111 #[.pointer (some ⟨R,0,none⟩)] wi (XTo w0 bs A c R last wi (.agg (y1r bs last p).1.cells.toArray) (y1r bs last p).2):=by
 have hlen:=hB.len;have hcap:=hB.cap;have HB:=kf hB;have HLTi:Hid (R<wi.heap.size):=hi.lt;have h:=hi.call ((Chg.refl NoS wi).alloc (.cells #[.int .i64 0,.int .i64 0,.bool false] 29));have hb2:=Blk.new wi 29 #[.int .i64 0,.int .i64 0,.bool false];have hci:=(Chg.refl NoS wi).alloc (.cells #[.int .i64 0,.int .i64 0,.bool false] 29);have hge2:w0.heap.size<=wi.heap.size:=hi.chg.size;have HX:∀ y,y1r bs last p=y->Hid (y1r bs last p=y):=fun _ h=>h;obtain⟨n,hn⟩:∃ n,n=bs.length:=⟨_,rfl⟩
 have HNL:=kf hn;rw [<- hn] at hp hlen hcap;by_cases hlt:n<p+19
 ·have HY:=HX (⟨0,0,false⟩,((p:Int),v5x last)) (by unfold y1r;rw [if_pos (by omega)]);rw [HY.out];have HE:=kf (fun W=>y3x A n c (p:Nat) last W);have d1:decide ((n:Int)-(p:Int)<19)=true:=by simp;omega
  obtain⟨ee,hee⟩:∃ ee,ee=v5x last:=⟨_,rfl⟩
  rw [<- hee] at HE ⊢;clear hee HX HY hlt hn HB hB;go_enter Tryz.func111,Tryz.ntmps111;go_upto_region 1 with fail;obtain⟨w,hw⟩:∃ w,w=wi.alloc (.cells #[.int .i64 0,.int .i64 0,.bool false] 29):=⟨_,rfl⟩
  obtain⟨g2,hg2⟩:∃ g2,g2=wi.heap.size:=⟨_,rfl⟩
  have HG2:Hid (g2<w.heap.size/\R≠g2/\g2=wi.heap.size/\w0.heap.size<=g2):=by
   show _/\_/\_/\_;have:=HLTi.out;rw [hw,World.size_alloc];omega
  rw [<- hw] at h hb2 hci ⊢;rw [<- hg2] at hb2 ⊢;have HR:=kf h;have HB2:=kf hb2;have HCI:=kf hci;obtain⟨q0,q1,q2,q3,z1,z3⟩:=h.cells;simp only [] at q1 q3;rw [<- HNL.out] at q0;clear hw hg2 hi HLTi hge2 h hb2 hci;go_quiet (fail);go_upto_region 3 with(go_at_call 152;refine(HE.out _).mono ?_;rintro e w2 ⟨rfl,hc2⟩;have HC2:=kf hc2;have HR2:=kf ((HR.out.call ((Chg.refl NoS w).drewN nq)).call hc2);obtain⟨x0,x1,x2,x3,y1,y3⟩:=HR2.out.cells;simp only [] at x1 x3;clear hc2);have HR3:=kf (HR2.out.setE ee);have HB3:=kf (((HB2.out.drewN nq).chg HC2.out (fun e=>e)).far (p:=⟨R,3,none⟩) (fun e=>HG2.out.2.1 e.symm) (.int .i64 ee));have HO3:=kf (z09 (z13 (HCI.out.trans (((Chg.refl NoS w).drewN nq).trans HC2.out (fun _ _ e=>e)) (fun _ _ e=>e))) (z10 w2 R 3 (.int .i64 ee)));obtain⟨W3,hW3⟩:∃ W3,W3=w2.setCell ⟨R,3,none⟩ (.int .i64 ee):=⟨_,rfl⟩
  rw [<- hW3] at HR3 HB3 HO3 ⊢;clear hW3 x0 x1 x2 x3 y1 y3 q0 q1 q2 q3 z1 z3;obtain⟨r0,r1,r2,u0,u1,u2⟩:=HB3.out.cl3;go_wp2_with fail;refine bodyPost_ret (v:=.agg #[.int .i64 0,.int .i64 0,.bool false]) (by simp [results,Tryz.results111,go_sem,r0,r1,r2]) rfl ?_;refine⟨rfl,HR3.out.far (z3g W3 g2 _ _ _) HG2.out.2.1 (fun i hi e=>by have:=HG2.out.2.2.2;omega),HO3.out.trans (z3g W3 g2 _ _ _) (fun i hi e=>by have:=HG2.out.2.2.1;omega)⟩
 ·obtain⟨q,hq⟩:∃ q,q=p+19:=⟨_,rfl⟩
  obtain⟨l,hl⟩:∃ l,l=(bs.drop p).take 19:=⟨_,rfl⟩
  have HY:=HX (y7k l,(((q:Nat):Int),y7l l)) (by unfold y1r;rw [if_neg (by omega),<- hl,hq]);rw [HY.out];obtain⟨hc1,hc2,hc3⟩:=y9u hB p 19 (by omega);rw [<- hl] at hc1 hc2 hc3;obtain⟨b,off,hA,-⟩:=z5x hB.src (Chg.refl NoS w0) (by omega);subst hA;obtain⟨S1,S2,S3,x10,x16,x17,x18,hLS⟩:=v7j hc2 hc3
  have hcv:∀ W,Chg NoS w0 W->(convert 32 9 (.slice (if c=p then some ⟨b,off,none⟩ else some ⟨b,off+p,none⟩) (q-p) (c-p))).run Tryz.prog W=.ok (.string (sb l)) W:=fun W hW=>by
   have h1:=y98 (Src.below (w0:=w0) hc1 hW);rw [z4s] at h1;rw [show q-p=19 by omega];exact h1
  have hncp:¬c=p:=by omega
  simp only [if_neg hncp] at hcv;obtain⟨S,hS⟩:∃ S,S=sb l:=⟨_,rfl⟩
  rw [<- hS] at hcv hLS;have HCV:=kf hcv;have HLS:=kf hLS;have eq1:(p:Int)+19=(q:Nat):=by omega
  have EQ1:=kf eq1;have d1:decide ((n:Int)-(p:Int)<19)=false:=by simp;omega
  have p1:p<=q:=by omega
  have p2:q<=c:=by omega
  have p3:q<=400000:=by omega
  have ncp:(c==p)=false:=by simpa using hncp
  have HD1:=kf (fun W=>z85 S1 W (by rw [hLS.z1];omega));have HD2:=kf (fun W=>z85 S2 W (by rw [hLS.z2];omega));rw [hLS.s1] at HD1;rw [hLS.s2] at HD2;have HLX:=kf (show y7k l=⟨(z77 (l.take 10)).1,(z77 ((l.drop 11).take 5)).1,decide (x17=110)⟩ from by unfold y7k;rw [hLS.l17]);have HLE:=kf (show y7l l=z3q (z3q (z3q (z3q 0 (decide ((z77 (l.take 10)).2=0)&&(decide ((z77 ((l.drop 11).take 5)).2=0)&&decide ((z77 ((l.drop 11).take 5)).1<=65535)))) (decide (x10=32)&&decide (x16=32))) (decide (x17=110) || decide (x17=102))) (decide (x18=32) || (decide (x18=10) || decide (x18=13))) from by unfold y7l;rw [hLS.l10,hLS.l16,hLS.l17,hLS.l18]);obtain⟨P1,hP1⟩:∃ P,P=z77 (l.take 10):=⟨_,rfl⟩
  obtain⟨P2,hP2⟩:∃ P,P=z77 ((l.drop 11).take 5):=⟨_,rfl⟩
  rw [<- hP1] at HD1 HLX HLE;rw [<- hP2] at HD2 HLX HLE;obtain⟨D1,E1⟩:=P1;obtain⟨D2,E2⟩:=P2;simp only [] at HD1 HD2 HLX HLE;obtain⟨B1,hB1⟩:∃ B1,B1=(decide (E1=0)&&(decide (E2=0)&&decide (D2<=65535))):=⟨_,rfl⟩
  obtain⟨B2,hB2⟩:∃ B2,B2=(decide (x10=32)&&decide (x16=32)):=⟨_,rfl⟩
  obtain⟨B3,hB3⟩:∃ B3,B3=(decide (x17=110) || decide (x17=102)):=⟨_,rfl⟩
  rw [<- hB1,<- hB2,<- hB3] at HLE;have HB1z:=kf hB1;have HB2z:=kf hB2;have HB3z:=kf hB3;rw [HLX.out,HLE.out];clear hB1 hB2 hB3 HX HY hlt hn hl hq hc1 hc2 hc3 hcv hS hP1 hP2 hLS hncp HLX HLE hB;go_enter Tryz.func111,Tryz.ntmps111;go_upto_region 1 with fail;obtain⟨w,hw⟩:∃ w,w=wi.alloc (.cells #[.int .i64 0,.int .i64 0,.bool false] 29):=⟨_,rfl⟩
  obtain⟨g2,hg2⟩:∃ g2,g2=wi.heap.size:=⟨_,rfl⟩
  have HG2:Hid (g2<w.heap.size/\R≠g2/\g2=wi.heap.size/\w0.heap.size<=g2):=by
   show _/\_/\_/\_;have:=HLTi.out;rw [hw,World.size_alloc];omega
  rw [<- hw] at h hb2 hci ⊢;rw [<- hg2] at hb2 ⊢;have HR:=kf h;have HB2:=kf hb2;have HCI:=kf hci;obtain⟨q0,q1,q2,q3,z1,z3⟩:=h.cells;simp only [] at q1 q3;rw [<- HNL.out] at q0;clear hw hg2 hi HLTi hge2 h hb2 hci;go_quiet (fail);have HR1:=kf (HR.out.call ((Chg.refl NoS w).drewN nq));have HB1:=kf (HB2.out.drewN nq);have HC1:=kf (HCI.out.trans ((Chg.refl NoS w).drewN nq) (fun _ _ e=>e));obtain⟨W1,hW1⟩:∃ W1,W1=w.drewN nq:=⟨_,rfl⟩
  rw [<- hW1] at HR1 HB1 HC1 ⊢;clear hW1 q0 q1 q2 q3 z1 z3 HR HB2 HCI;obtain⟨q0,q1,q2,q3,z1,z3⟩:=HR1.out.cells;simp only [] at q1 q3;have cv1:=HCV.out W1 HR1.out.chg;have cv2:=fun m=>HCV.out (W1.drewN m) (HR1.out.chg.drewN m);have hsz:=HLS.out.siz;go_upto_region 4 with fail;go_quiet (fail);clear cv1 cv2;go_upto_region 6 with fail;try rw [EQ1.out]
  have HR2:=kf ((HR1.out.call ((Chg.refl NoS W1).drewN nq)).setA (q:Nat));have HB3:=kf ((HB1.out.drewN nq).far (p:=⟨R,1,none⟩) (fun e=>HG2.out.2.1 e.symm) (.int .i64 (q:Nat)));have HO2:=kf (z09 (z13 (HC1.out.trans ((Chg.refl NoS W1).drewN nq) (fun _ _ e=>e))) (z10 _ R 1 (.int .i64 (q:Nat))));obtain⟨W2,hW2⟩:∃ W2,W2=(W1.drewN nq).setCell ⟨R,1,none⟩ (.int .i64 (q:Nat)):=⟨_,rfl⟩
  rw [<- hW2] at HR2 HB3 HO2 ⊢;clear hW2 q0 q1 q2 q3 z1 z3 HR1 HB1 HC1;have ex1:=HLS.out.e1;have ex2:=HLS.out.e2;have ex3:=HLS.out.e3;go_upto_region 7 with(go_at_call 153;refine(HD1.out _).mono ?_;rintro e w3 ⟨rfl,hc3⟩;have HR3:=kf (HR2.out.call hc3);have HB4:=kf (HB3.out.chg hc3 (fun e=>e));have HO3:=kf (z09 HO2.out (z13 hc3));clear hc3);go_upto_region 8 with(go_at_call 153;refine(HD2.out _).mono ?_;rintro e w4 ⟨rfl,hc4⟩;have HR4:=kf (HR3.out.call hc4);have HB5:=kf (HB4.out.chg hc4 (fun e=>e));have HO4:=kf (z09 HO3.out (z13 hc4));clear hc4);clear HR2 HR3 HB3 HB4 HO2 HO3 HD1 HD2;go_upto_region 9 with fail;clear ex1 ex2 ex3;go_cut [] from 72 to 83 (fun wx=>Hid (XB w0 bs (some ⟨b,off,none⟩) c R last (((q:Nat):Int),z3q 0 B1) wx/\Blk wx g2 29 #[.int .i64 0,.int .i64 0,.bool false]/\Chg (z88 R) wi wx))
  case first =>
   by_cases h1:E1=0
   ·have d1:(E1==0)=true:=by simpa using h1
    by_cases h2:E2=0
    ·have d2:(E2==0)=true:=by simpa using h2
     by_cases h3:D2<=65535
     ·have d3:decide (D2<=65535)=true:=by simpa using h3
      have HZ:Hid (B1=true):=by show B1=true;rw [HB1z.out];rw [decide_eq_true h1,decide_eq_true h2,decide_eq_true h3];rfl
      clear h1 h2 h3;go_wp2_with (go_at_call 77;refine(z0u HR4.out true).mono ?_;rintro e w9 ⟨rfl,hr9,hc9⟩;have HR9:=kf hr9;have HB9:=kf (HB5.out.chg hc9 (fun e=>HG2.out.2.1 e.symm));have HO9:=kf (z09 HO4.out hc9);clear hr9 hc9);go_meet;exact kf ⟨by rw [HZ.out];exact HR9.out,HB9.out,HO9.out⟩
     ·have d3:decide (D2<=65535)=false:=by simpa using h3
      have HZ:Hid (B1=false):=by show B1=false;rw [HB1z.out];rw [decide_eq_true h1,decide_eq_true h2,decide_eq_false h3];rfl
      clear h1 h2 h3;go_wp2_with (go_at_call 77;refine(z0u HR4.out false).mono ?_;rintro e w9 ⟨rfl,hr9,hc9⟩;have HR9:=kf hr9;have HB9:=kf (HB5.out.chg hc9 (fun e=>HG2.out.2.1 e.symm));have HO9:=kf (z09 HO4.out hc9);clear hr9 hc9);go_meet;exact kf ⟨by rw [HZ.out];exact HR9.out,HB9.out,HO9.out⟩
    ·have d2:(E2==0)=false:=by simpa using h2
     have HZ:Hid (B1=false):=by show B1=false;rw [HB1z.out];rw [decide_eq_true h1,decide_eq_false h2];rfl
     clear h1 h2;go_wp2_with (go_at_call 77;refine(z0u HR4.out false).mono ?_;rintro e w9 ⟨rfl,hr9,hc9⟩;have HR9:=kf hr9;have HB9:=kf (HB5.out.chg hc9 (fun e=>HG2.out.2.1 e.symm));have HO9:=kf (z09 HO4.out hc9);clear hr9 hc9);go_meet;exact kf ⟨by rw [HZ.out];exact HR9.out,HB9.out,HO9.out⟩
   ·have d1:(E1==0)=false:=by simpa using h1
    have HZ:Hid (B1=false):=by show B1=false;rw [HB1z.out];rw [decide_eq_false h1];rfl
    clear h1;go_wp2_with (go_at_call 77;refine(z0u HR4.out false).mono ?_;rintro e w9 ⟨rfl,hr9,hc9⟩;have HR9:=kf hr9;have HB9:=kf (HB5.out.chg hc9 (fun e=>HG2.out.2.1 e.symm));have HO9:=kf (z09 HO4.out hc9);clear hr9 hc9);go_meet;exact kf ⟨by rw [HZ.out];exact HR9.out,HB9.out,HO9.out⟩
  case rest =>
   have hx:=hcut.out;have HR1_:=kf hx.1;have HB1_:=kf hx.2.1;have HO1_:=kf hx.2.2;obtain⟨E_1,hE_1⟩:∃ E,E=z3q 0 B1:=⟨_,rfl⟩
   rw [<- hE_1] at HR1_;have HE_1:=kf hE_1;obtain⟨v1,hv1⟩:∃ v,v=wc:=⟨_,rfl⟩
   subst hv1;clear hx hcut hE_1;clear HR4 HB5 HO4;have g10:=HLS.out.g10;have g16:=HLS.out.g16;go_upto_region 10 with fail;go_cut [] from 84 to 93 (fun wx=>Hid (XB w0 bs (some ⟨b,off,none⟩) c R last (((q:Nat):Int),z3q E_1 B2) wx/\Blk wx g2 29 #[.int .i64 0,.int .i64 0,.bool false]/\Chg (z88 R) wi wx))
   case first =>
    by_cases h1:x10=32
    ·have d1:((x10:Int)==32)=true:=by simp;omega
     by_cases h2:x16=32
     ·have d2:((x16:Int)==32)=true:=by simp;omega
      have HZ:Hid (B2=true):=by show B2=true;rw [HB2z.out];rw [decide_eq_true h1,decide_eq_true h2];rfl
      clear h1 h2;go_wp2_with (go_at_call 77;refine(z0u HR1_.out true).mono ?_;rintro e w9 ⟨rfl,hr9,hc9⟩;have HR9:=kf hr9;have HB9:=kf (HB1_.out.chg hc9 (fun e=>HG2.out.2.1 e.symm));have HO9:=kf (z09 HO1_.out hc9);clear hr9 hc9);go_meet;exact kf ⟨by rw [HZ.out];exact HR9.out,HB9.out,HO9.out⟩
     ·have d2:((x16:Int)==32)=false:=by simp;omega
      have HZ:Hid (B2=false):=by show B2=false;rw [HB2z.out];rw [decide_eq_true h1,decide_eq_false h2];rfl
      clear h1 h2;go_wp2_with (go_at_call 77;refine(z0u HR1_.out false).mono ?_;rintro e w9 ⟨rfl,hr9,hc9⟩;have HR9:=kf hr9;have HB9:=kf (HB1_.out.chg hc9 (fun e=>HG2.out.2.1 e.symm));have HO9:=kf (z09 HO1_.out hc9);clear hr9 hc9);go_meet;exact kf ⟨by rw [HZ.out];exact HR9.out,HB9.out,HO9.out⟩
    ·have d1:((x10:Int)==32)=false:=by simp;omega
     have HZ:Hid (B2=false):=by show B2=false;rw [HB2z.out];rw [decide_eq_false h1];rfl
     clear h1;go_wp2_with (go_at_call 77;refine(z0u HR1_.out false).mono ?_;rintro e w9 ⟨rfl,hr9,hc9⟩;have HR9:=kf hr9;have HB9:=kf (HB1_.out.chg hc9 (fun e=>HG2.out.2.1 e.symm));have HO9:=kf (z09 HO1_.out hc9);clear hr9 hc9);go_meet;exact kf ⟨by rw [HZ.out];exact HR9.out,HB9.out,HO9.out⟩
   case rest =>
    have hx:=hcut.out;have HR2_:=kf hx.1;have HB2_:=kf hx.2.1;have HO2_:=kf hx.2.2;obtain⟨E_2,hE_2⟩:∃ E,E=z3q E_1 B2:=⟨_,rfl⟩
    rw [<- hE_2] at HR2_;have HE_2:=kf hE_2;obtain⟨v2,hv2⟩:∃ v,v=wc:=⟨_,rfl⟩
    subst hv2;clear hx hcut hE_2 HR1_ HB1_ HO1_;clear g10 g16;have HS3:=kf (fun y (hy:y<256)=>(show(S3.toList==[UInt8.ofNat y])=decide (x17=y) from by rw [HLS.out.c3];exact v6q HLS.out.b17 hy));go_upto_region 11 with fail;go_cut [] from 94 to 101 (fun wx=>Hid (XB w0 bs (some ⟨b,off,none⟩) c R last (((q:Nat):Int),z3q E_2 B3) wx/\Blk wx g2 29 #[.int .i64 0,.int .i64 0,.bool false]/\Chg (z88 R) wi wx))
    case first =>
     have t1:=HS3.out 110 (by decide);have t2:=HS3.out 102 (by decide);by_cases h1:x17=110
     ·rw [decide_eq_true h1] at t1;have k1:(S3.toList==[110])=true:=t1;have k2:S3.toList=[110]:=by simpa using k1
      clear t1 t2;have HZ:Hid (B3=true):=by show B3=true;rw [HB3z.out];rw [decide_eq_true h1];rfl
      clear h1;go_wp2_with (go_at_call 77;refine(z0u HR2_.out true).mono ?_;rintro e w9 ⟨rfl,hr9,hc9⟩;have HR9:=kf hr9;have HB9:=kf (HB2_.out.chg hc9 (fun e=>HG2.out.2.1 e.symm));have HO9:=kf (z09 HO2_.out hc9);clear hr9 hc9);go_meet;exact kf ⟨by rw [HZ.out];exact HR9.out,HB9.out,HO9.out⟩
     ·rw [decide_eq_false h1] at t1;have k1:(S3.toList==[110])=false:=t1;have k2:¬S3.toList=[110]:=by simpa using k1
      by_cases h2:x17=102
      ·rw [decide_eq_true h2] at t2;have k3:(S3.toList==[102])=true:=t2;have k4:S3.toList=[102]:=by simpa using k3
       clear t1 t2;have HZ:Hid (B3=true):=by show B3=true;rw [HB3z.out];rw [decide_eq_false h1,decide_eq_true h2];rfl
       clear h1 h2;go_wp2_with (go_at_call 77;refine(z0u HR2_.out true).mono ?_;rintro e w9 ⟨rfl,hr9,hc9⟩;have HR9:=kf hr9;have HB9:=kf (HB2_.out.chg hc9 (fun e=>HG2.out.2.1 e.symm));have HO9:=kf (z09 HO2_.out hc9);clear hr9 hc9);go_meet;exact kf ⟨by rw [HZ.out];exact HR9.out,HB9.out,HO9.out⟩
      ·rw [decide_eq_false h2] at t2;have k3:(S3.toList==[102])=false:=t2;have k4:¬S3.toList=[102]:=by simpa using k3
       clear t1 t2;have HZ:Hid (B3=false):=by show B3=false;rw [HB3z.out];rw [decide_eq_false h1,decide_eq_false h2];rfl
       clear h1 h2;go_wp2_with (go_at_call 77;refine(z0u HR2_.out false).mono ?_;rintro e w9 ⟨rfl,hr9,hc9⟩;have HR9:=kf hr9;have HB9:=kf (HB2_.out.chg hc9 (fun e=>HG2.out.2.1 e.symm));have HO9:=kf (z09 HO2_.out hc9);clear hr9 hc9);go_meet;exact kf ⟨by rw [HZ.out];exact HR9.out,HB9.out,HO9.out⟩
    case rest =>
     have hx:=hcut.out;have HR3_:=kf hx.1;have HB3_:=kf hx.2.1;have HO3_:=kf hx.2.2;obtain⟨E_3,hE_3⟩:∃ E,E=z3q E_2 B3:=⟨_,rfl⟩
     rw [<- hE_3] at HR3_;have HE_3:=kf hE_3;obtain⟨v3,hv3⟩:∃ v,v=wc:=⟨_,rfl⟩
     subst hv3;clear hx hcut hE_3 HR2_ HB2_ HO2_;have g18:=HLS.out.g18;go_upto_region 13 with(first|(go_at_call 154;refine(y5g x18 _).mono ?_;rintro e w9 ⟨rfl,rfl⟩)|(go_at_call 77;refine(z0u HR3_.out (decide (x18=32) || (decide (x18=10) || decide (x18=13)))).mono ?_;rintro e w9 ⟨rfl,hr9,hc9⟩;have HRz:=kf hr9;have HBz:=kf (HB3_.out.chg hc9 (fun e=>HG2.out.2.1 e.symm));have HOz:=kf (z09 HO3_.out hc9);clear hr9 hc9));clear g18 HR3_ HB3_ HO3_;obtain⟨r0,r1,r2,u0,u1,u2⟩:=HBz.out.cl3;obtain⟨u,hu⟩:∃ u,u=decide (x17=110):=⟨_,rfl⟩
     have k1:(S3.toList==[110])=u:=by rw [HLS.out.c3,hu];exact v6q HLS.out.b17 (by decide)
     have HU:=kf hu;clear hu;go_wp2_with fail;refine bodyPost_ret (v:=.agg #[.int .i64 D1,.int .i64 D2,.bool u]) (by simp [results,Tryz.results111,go_sem,r0,r1,r2]) rfl ?_;refine⟨by rw [HU.out];rfl,by rw [<- HE_1.out,<- HE_2.out,<- HE_3.out];exact HRz.out.far (z3g w9 g2 _ _ _) HG2.out.2.1 (fun i hi e=>by have:=HG2.out.2.2.2;omega),HOz.out.trans (z3g w9 g2 _ _ _) (fun i hi e=>by have:=HG2.out.2.2.1;omega)⟩
def y9p (n:Int):List XGr->Option XEn
 |[]=>none
 |g::l=>if g.first<=n/\n-g.first<g.es.length then g.es[(n-g.first).toNat]? else y9p n l
theorem v1r {n:Int} {g:XGr} {l:List XGr} (h:g.first<=n/\n-g.first<g.es.length):∃ e,y9p n (g::l)=some e/\g.es[(n-g.first).toNat]?=some e:=by
 rw [y9p,if_pos h,List.getElem?_eq_getElem (by omega)];exact⟨_,rfl,rfl⟩
theorem y3c {n:Int} {g:XGr} {l:List XGr} (h:¬(g.first<=n/\n-g.first<g.es.length)):y9p n (g::l)=y9p n l:=by rw [y9p,if_neg h]
def q07:Option XEn->Value
 |none=>.tuple #[.agg #[.int .i64 0,.int .i64 0,.bool false],.bool false]
 |some e=>.tuple #[.agg e.cells.toArray,.bool true]
theorem y0g {xs:List GC} {k i:Nat} {x:GC} (h:xs[k]?=some x) (hi:i<2):(z2f xs)[k*2+i]?=x.cells[i]?:=y3d GC.cells 2 (fun _=>rfl) h hi
theorem z6z {es:List XEn} {k i:Nat} {e:XEn} (h:es[k]?=some e) (hi:i<3):(z2k es)[k*3+i]?=e.cells[i]?:=y3d XEn.cells 3 (fun _=>rfl) h hi
theorem z7e {xs:List GC} {B:Option Addr} {d:Nat} {W:World} (h:z4v xs B d W) (hn:0<xs.length):∃ b off,B=some ⟨b,off,none⟩/\∀ k x,xs[k]?=some x->W.cell? ⟨b,off+k*2,none⟩=some (.int .i64 x.g.first)/\W.cell? ⟨b,off+k*2+1,none⟩=some (.slice x.A x.g.es.length x.c):=by
 obtain⟨b,off,rfl,hcell⟩:=h.1.1.plain (by rw [z2f,y0l GC.cells 2 (fun _=>rfl)];omega);refine⟨b,off,rfl,fun k x hx=>⟨?_,?_⟩⟩
 ·exact hcell (k*2) _ (by have:=y0g hx (show 0<2 by decide);rw [Nat.add_zero] at this;rw [this];rfl)
 ·rw [Nat.add_assoc];exact hcell (k*2+1) _ (by rw [y0g hx (show 1<2 by decide)];rfl)
theorem z8x {es:List XEn} {B:Option Addr} {d:Nat} {W:World} (h:EnS es B d W) (hn:0<es.length):∃ b off,B=some ⟨b,off,none⟩/\∀ k e,es[k]?=some e->W.cell? ⟨b,off+k*3,none⟩=some (.int .i64 e.pl)/\W.cell? ⟨b,off+k*3+1,none⟩=some (.int .i64 e.gen)/\W.cell? ⟨b,off+k*3+2,none⟩=some (.bool e.us):=by
 obtain⟨b,off,rfl,hcell⟩:=h.1.plain (by rw [z2k,y0l XEn.cells 3 (fun _=>rfl)];omega);refine⟨b,off,rfl,fun k e he=>⟨?_,?_,?_⟩⟩
 ·exact hcell (k*3) _ (by have:=z6z he (show 0<3 by decide);rw [Nat.add_zero] at this;rw [this];rfl)
 ·rw [Nat.add_assoc];exact hcell (k*3+1) _ (by rw [z6z he (show 1<3 by decide)];rfl)
 ·rw [Nat.add_assoc];exact hcell (k*3+2) _ (by rw [z6z he (show 2<3 by decide)];rfl)
def v8g (n:Int) (T:Option XEn) (gs:List XGr):Prop:=T=y9p n gs
theorem y5e (xs:List GC) (B:Option Addr) (d:Nat) (vk vn:Int) (vs:ByteArray) (vA:Option Addr) (vl vc:Nat) (n:Int) (w:World) (hG:Ev NoS w (z4v xs B d)) (hl:xs.length<=1000000) (hes:∀ x∈xs,x.g.es.length<=1000000/\-1000000<=x.g.first/\x.g.first<=1000000) (hn:-1000000<=n/\n<=1000000) :
  Calls Tryz.prog 21 #[.agg #[.slice B xs.length d,.int .i64 vk,.int .i64 vn,.string vs,.slice vA vl vc],.int .i64 n] w fun e w'=>e=.returned (q07 (y9p n (xs.map GC.g)))/\Chg NoS w w':=by
 have HG:=kf hG;have HES:=kf hes;obtain⟨T,hT⟩:∃ T,T=y9p n (xs.map GC.g):=⟨_,rfl⟩
 rw [<- hT];have HT:=kf hT;obtain⟨m,hm⟩:∃ m,m=xs.length:=⟨_,rfl⟩
 rw [<- hm] at hl ⊢;have HM:=kf hm;have HB:=kf ((Blk.new w 36 #[.slice B m d,.int .i64 vk,.int .i64 vn,.string vs,.slice vA vl vc]).alloc (.cells #[.int .i64 0,.int .i64 0,.bool false] 29));have HE:=kf (Blk.new (w.alloc (.cells #[.slice B m d,.int .i64 vk,.int .i64 vn,.string vs,.slice vA vl vc] 36)) 29 #[.int .i64 0,.int .i64 0,.bool false]);have HC:=kf (((Chg.refl NoS w).alloc (.cells #[.slice B m d,.int .i64 vk,.int .i64 vn,.string vs,.slice vA vl vc] 36)).alloc (.cells #[.int .i64 0,.int .i64 0,.bool false] 29));rw [World.size_alloc] at HE;obtain⟨g4,hg4⟩:∃ g4,g4=w.heap.size+1:=⟨_,rfl⟩
 rw [<- hg4] at HE;have HG4:Hid (w.heap.size<=g4/\g4=w.heap.size+1):=⟨by omega,hg4⟩
 clear hG hes hT hm hg4;go_enter Tryz.func21,Tryz.ntmps21;go_upto_region 1 with fail;rw [<- HG4.out.2];obtain⟨W1,hW1⟩:∃ W1,W1=(w.alloc (.cells #[.slice B m d,.int .i64 vk,.int .i64 vn,.string vs,.slice vA vl vc] 36)).alloc (.cells #[.int .i64 0,.int .i64 0,.bool false] 29):=⟨_,rfl⟩
 obtain⟨g2,hg2⟩:∃ g2,g2=w.heap.size:=⟨_,rfl⟩
 rw [<- hW1] at HB HE HC ⊢;rw [<- hg2] at HB ⊢;clear hW1 hg2;have c0:W1.cell? ⟨g2,0,none⟩=some (.slice B m d):=HB.out.cell 0;go_wp2_with fail;clear c0;go_loopw [12] (fun vi wr=>∃ k:Nat,k<=m/\vi=.int .i64 (k:Nat)/\Hid (Chg NoS W1 wr)/\Hid (v8g n T ((xs.drop k).map GC.g))) (fun vi _=>m-(intOf vi).toNat)
 case atStart=>exact⟨0,Nat.zero_le _,rfl,kf (Chg.refl _ _),HT⟩
 case round =>
  obtain⟨k,hk,rfl,HCk,HTk⟩:=hrel;by_cases hlt:k<m
  ·obtain⟨x,hx⟩:∃ x,xs[k]?=some x:=⟨_,List.getElem?_eq_getElem (by have:=HM.out;omega)⟩
   have hGr:=HG.out wr (HC.out.trans HCk.out (fun _ _ e=>e));obtain⟨b,off,rfl,hcell⟩:=z7e hGr (by have:=HM.out;omega);obtain⟨c0,c1⟩:=hcell k x hx;have hmem:x∈xs:=List.mem_of_getElem? hx;have hEx:=kf (hGr.2 x hmem);obtain⟨hb1,hb2⟩:=HES.out x hmem
   have hd:(xs.drop k).map GC.g=x.g::(xs.drop (k+1)).map GC.g:=by
    have hkx:k<xs.length:=by have:=HM.out;omega
    rw [List.drop_eq_getElem_cons hkx,List.map_cons];rw [List.getElem?_eq_getElem hkx] at hx;cases hx
    rfl
   have HTk2:=kf (show v8g n T (x.g::(xs.drop (k+1)).map GC.g) from hd ▸ HTk.out);obtain⟨⟨first,es⟩,xA,xc⟩:=x;simp only [] at c0 c1 hEx hb1 hb2 HTk2;obtain⟨ln,hln⟩:∃ ln,ln=es.length:=⟨_,rfl⟩
   have HLN:=kf hln;rw [<- hln] at c1 hb1;clear hcell hGr hmem hd hx hln;have HCA:=kf (HCk.out.alloc (.cells #[.int .i64 first,.slice xA ln xc] 56));have HBA:=kf (Blk.new wr 56 #[.int .i64 first,.slice xA ln xc]);go_upto_region 4 with fail;obtain⟨W3,hW3⟩:∃ W3,W3=wr.alloc (.cells #[.int .i64 first,.slice xA ln xc] 56):=⟨_,rfl⟩
   obtain⟨g7,hg7⟩:∃ g7,g7=wr.heap.size:=⟨_,rfl⟩
   have HEX:=kf (show EnS es xA xc W3 from by rw [hW3];exact⟨Src.below (w0:=wr) hEx.out.1 ((Chg.refl NoS wr).alloc _),hEx.out.2⟩);rw [<- hW3] at HCA HBA ⊢;rw [<- hg7] at HBA ⊢;clear hW3 hg7 hEx c0 c1 HTk HCk;have r0:W3.cell? ⟨g7,0,none⟩=some (.int .i64 first):=HBA.out.cell 0;have r1:W3.cell? ⟨g7,1,none⟩=some (.slice xA ln xc):=HBA.out.cell 1;have HE3:=kf (HE.out.chg HCA.out (fun e=>e));by_cases h1:first<=n
   ·obtain⟨j,hj⟩:∃ j:Nat,n-first=(j:Nat):=⟨(n-first).toNat,by omega⟩
    have hw:IntKind.u64.wrap (IntKind.u64.wrap n-IntKind.u64.wrap first)=(j:Nat):=by simp only [IntKind.wrap_u64];omega
    have hw2:IntKind.u64.wrap (ln:Int)=ln:=by simp only [IntKind.wrap_u64];omega
    have hj7:j<=2000000:=by omega
    have HJ:=kf hj;clear hj;by_cases h2:j<ln
    ·have hsm:first<=n/\n-first<(⟨first,es⟩:XGr).es.length:=⟨h1,by rw [HJ.out];show(j:Int)<(es.length:Nat);have:=HLN.out;omega⟩
     obtain⟨e,hfe,hee⟩:=v1r (n:=n) (g:=⟨first,es⟩) (l:=(xs.drop (k+1)).map GC.g) hsm;have HZ:=kf (HTk2.out.trans hfe);simp only [] at hee;rw [HJ.out,Int.toNat_natCast] at hee;obtain⟨b2,off2,rfl,hc2⟩:=z8x HEX.out (by have:=HLN.out;omega);obtain⟨e0,e1,e2⟩:=hc2 j e hee;obtain⟨ep,eg,eu⟩:=e;simp only [] at e0 e1 e2;obtain⟨y0,y1,y2,y3,y4,y5⟩:=HE3.out.cl3;clear hfe hee hc2 hsm;go_wp2_with fail;refine bodyPost_ret (v:=.tuple #[.agg #[.int .i64 ep,.int .i64 eg,.bool eu],.bool true]) (by simp [results,Tryz.results21,go_sem,y0,y1,y2]) rfl ?_;rw [HZ.out];exact⟨rfl,(HC.out.trans HCA.out (fun _ _ e=>e)).trans (z3g W3 g4 _ _ _) (fun i hi e=>by have:=HG4.out;omega)⟩
    ·have HN2:=kf (HTk2.out.trans (y3c (n:=n) (g:=⟨first,es⟩) (show ¬(first<=n/\n-first<(⟨first,es⟩:XGr).es.length) from fun h=>by have h3:=h.2;rw [HJ.out] at h3;have h4:(j:Int)<(es.length:Nat):=h3;have:=HLN.out;omega)));have d2:decide (j<ln)=false:=by simpa using h2
     go_wp2_with fail;go_roundw
     case rel=>exact⟨k+1,by omega,by go_num,HCA,HN2⟩
     case measure=>simp [intOf];omega
   ·have d1:decide (first<=n)=false:=by simpa using h1
    have HN2:=kf (HTk2.out.trans (y3c (n:=n) (g:=⟨first,es⟩) (show ¬(first<=n/\n-first<(⟨first,es⟩:XGr).es.length) from fun h=>h1 h.1)));clear h1;go_wp2_with fail;go_roundw
    case rel=>exact⟨k+1,by omega,by go_num,HCA,HN2⟩
    case measure=>simp [intOf];omega
  ·have hkm:k=m:=by omega
   have HZ:=kf (show T=none from by rw [HTk.out,List.drop_of_length_le (by have:=HM.out;omega)];rfl);obtain⟨y0,y1,y2,y3,y4,y5⟩:=(HE.out.chg HCk.out (fun e=>e)).cl3;have d1:decide ((k:Int)<m)=false:=by simp;omega
   have d2:decide (k<m)=false:=by simp;omega
   clear hkm;go_wp2_with fail;refine bodyPost_ret (v:=.tuple #[.agg #[.int .i64 0,.int .i64 0,.bool false],.bool false]) (by simp [results,Tryz.results21,go_sem,y0,y1,y2]) rfl ?_;rw [HZ.out];exact⟨rfl,(HC.out.trans HCk.out (fun _ _ e=>e)).trans (z3g wr g4 _ _ _) (fun i hi e=>by have:=HG4.out;omega)⟩
def v9c (g:Nat) (p:XGr->Bool) (xs:List GC) (w:World):Prop :=
 ∀ x,x∈xs->∀ W,Chg NoS w W->Calls Tryz.prog g #[.agg #[.int .i64 x.g.first,.slice x.A x.g.es.length x.c]] W fun e w'=>e=.returned (.bool (p x.g))/\Chg NoS W w'
def v38 (p:XGr->Bool) (xs:List GC):Int:=if xs.any (fun x=>p x.g) then(xs.findIdx (fun x=>p x.g):Nat) else -1
theorem v1i {p:XGr->Bool} {xs:List GC} {k:Nat} {x:GC} (h:∀ y∈xs.take k,p y.g=false) (hx:xs[k]?=some x) (hp:p x.g=true):v38 p xs=(k:Nat):=by
 obtain⟨hk,rfl⟩:=List.getElem?_eq_some_iff.1 hx;have ha:xs.any (fun x=>p x.g)=true:=List.any_eq_true.2 ⟨_,List.getElem_mem hk,hp⟩;unfold v38;rw [if_pos ha];congr 1;refine(List.findIdx_eq hk).2 ⟨hp,fun j hj=>h _ ?_⟩;rw [List.mem_take_iff_getElem];exact⟨j,by omega,rfl⟩
theorem y7v {p:XGr->Bool} {xs:List GC} (h:∀ y∈xs,p y.g=false):v38 p xs=-1:=by
 unfold v38;rw [if_neg];intro ha;obtain⟨x,hx,hp⟩:=List.any_eq_true.1 ha;rw [h x hx] at hp;cases hp
theorem y4t (g:Nat) (eg:∀ args w,(callFunc g args).run Tryz.prog w=.ok (.enter g args) w) (p:XGr->Bool) (xs:List GC) (B:Option Addr) (d:Nat) (w:World)
  (hS:Ev NoS w (z4v xs B d)) (hL:xs.length<=1000000) (hp:v9c g p xs w) :
  Calls Tryz.prog 64 #[.slice B xs.length d,.func (.func g) #[] #[]] w fun e w'=>e=.returned (.int .i64 (v38 p xs))/\Chg NoS w w':=by
 have H:=kf hS;have HP:=kf hp;clear hS hp;obtain⟨n,hn⟩:∃ n,n=xs.length:=⟨_,rfl⟩
 have HN:=kf hn;rw [<- hn] at hL ⊢;clear hn;go_enter Tryz.func64,Tryz.ntmps64;go_wp2_with fail;go_loopw [8] (fun vi wr=>∃ k:Nat,k<=n/\vi=.int .i64 k/\Hid (Chg NoS w wr)/\Hid (∀ y∈xs.take k,p y.g=false)) (fun vi _=>n-(intOf vi).toNat)
 case atStart=>exact⟨0,Nat.zero_le _,rfl,kf (Chg.refl _ _),fun y hy=>by simp at hy⟩
 case round =>
  obtain⟨k,hk,rfl,HCk,HT⟩:=hrel;by_cases hlt:k<n
  ·obtain⟨x,hx⟩:∃ x,xs[k]?=some x:=⟨_,List.getElem?_eq_getElem (by have:=HN.out;omega)⟩
   obtain⟨b,off,rfl,hcell⟩:=z7e (H.out wr HCk.out) (by have:=HN.out;omega);obtain⟨c0,c1⟩:=hcell k x hx;have HX:=kf hx;have HQ:=kf (HP.out x (List.mem_of_getElem? hx) wr HCk.out);clear hx hcell;obtain⟨q,hq⟩:∃ q,q=p x.g:=⟨_,rfl⟩
   rw [<- hq] at HQ;have HH:=kf hq;clear hq;cases q with
   |true =>
    go_wp2_with (go_at_fn g;refine HQ.out.mono ?_;rintro e w' ⟨rfl,hc4⟩;have HC4:=kf (HCk.out.trans hc4 (fun _ _ e=>e));clear hc4);refine bodyPost_ret (v:=.int .i64 (k:Nat)) (by simp [results,Tryz.results64,go_sem]) rfl ?_;exact⟨by rw [v1i HT.out HX.out HH.out.symm],HC4.out⟩
   |false =>
    go_wp2_with (go_at_fn g;refine HQ.out.mono ?_;rintro e w' ⟨rfl,hc4⟩;have HC4:=kf (HCk.out.trans hc4 (fun _ _ e=>e));clear hc4);go_roundw
    case rel =>
     refine⟨k+1,by omega,by go_num,HC4,fun y hy=>?_⟩;rw [List.take_add_one,HX.out,List.mem_append] at hy;rcases hy with hy|hy
     ·exact HT.out y hy
     ·simp at hy;subst hy;exact HH.out.symm
    case measure=>simp [intOf];omega
  ·have hkn:k=n:=by omega
   have HZ:=kf (y7v (p:=p) (xs:=xs) (fun y hy=>HT.out y (by rw [List.take_of_length_le (by have:=HN.out;omega)];exact hy)));have d1:decide ((k:Int)<n)=false:=by simp;omega
   have d2:decide (k<n)=false:=by simp;omega
   clear hkn;go_wp2_with fail;refine bodyPost_ret (v:=.int .i64 (-1)) (by simp [results,Tryz.results64,go_sem]) rfl ?_;exact⟨by rw [HZ.out],HCk.out⟩
theorem z8y (g:Nat) (eg:∀ args w,(callFunc g args).run Tryz.prog w=.ok (.enter g args) w) (p:XGr->Bool) (xs:List GC) (B:Option Addr) (d:Nat) (w:World)
  (hS:Ev NoS w (z4v xs B d)) (hL:xs.length<=1000000) (hp:v9c g p xs w) :
  Calls Tryz.prog 33 #[.slice B xs.length d,.func (.func g) #[] #[]] w fun e w'=>e=.returned (.bool (xs.any (fun x=>p x.g)))/\Chg NoS w w':=by
 have HI:=kf (y4t g eg p xs B d w hS hL hp)
 have hd:decide (0<=v38 p xs)=xs.any (fun x=>p x.g):=by
  unfold v38;split
  ·rename_i h;rw [h];simp
  ·rename_i h;cases h2:xs.any (fun x=>p x.g) with
   |true=>exact absurd h2 h
   |false=>rfl
 obtain⟨r,hr⟩:∃ r,r=v38 p xs:=⟨_,rfl⟩
 rw [<- hr] at HI hd;have HD:=kf hd;clear hS hp hr hd;go_enter Tryz.func33,Tryz.ntmps33;go_wp2_with (go_at_call 64;refine HI.out.mono ?_;rintro e w' ⟨rfl,hc4⟩;have HC4:=kf hc4;clear hc4);go_ret;exact⟨by rw [HD.out];rfl,HC4.out⟩
open Classical in
noncomputable def eqB {α:Type} (a b:α):Bool:=decide (a=b)
theorem y52 {α:Type} {a b:α} (h:a=b):eqB a b=true:=by unfold eqB;simp [h]
theorem y53 {α:Type} {a b:α} (h:a≠b):eqB a b=false:=by unfold eqB;simp [h]
theorem y2b {α:Type} {a b:List α} {n:Nat} (h:a.take n=b.take n) (ha:a.length<=n) (hb:b.length<=n):a=b:=by rwa [List.take_of_length_le ha,List.take_of_length_le hb] at h
theorem z9k {α:Type} {a b:List α} {k:Nat} {x y:α} (h:a.take k=b.take k) (hx:a[k]?=some x) (hy:b[k]?=some y) (he:x=y):a.take (k+1)=b.take (k+1):=by rw [List.take_add_one,List.take_add_one,h,hx,hy,he]
theorem v7g {α:Type} {a b:List α} {k:Nat} {x y:α} (hx:a[k]?=some x) (hy:b[k]?=some y) (he:x≠y):a≠b:=fun h=>by
 rw [h,hy] at hx;exact he (Option.some.inj hx).symm
theorem v2q {p g p2 g2:Int} {u u2:Bool} (h:¬(p=p2/\g=g2/\u=u2)):(⟨p,g,u⟩:XEn)≠⟨p2,g2,u2⟩:=fun e=>h (by injection e with a b c;exact⟨a,b,c⟩)
theorem y51 (es fs:List XEn) (A:Option Addr) (c:Nat) (A':Option Addr) (c':Nat) (w:World) (hE:Ev NoS w (EnS es A c)) (hF:Ev NoS w (EnS fs A' c')) (hl:es.length<=1000000) (hl':fs.length<=1000000) :
  Calls Tryz.prog 72 #[.slice A es.length c,.slice A' fs.length c'] w fun e w'=>e=.returned (.bool (eqB es fs))/\Chg NoS w w':=by
 have HE:=kf hE;have HF:=kf hF;have HX1:=kf (fun h=>y53 (a:=es) (b:=fs) h);have HX2:=kf (fun h=>y52 (a:=es) (b:=fs) h);obtain⟨R,hR⟩:∃ R,R=eqB es fs:=⟨_,rfl⟩
 rw [<- hR] at HX1 HX2 ⊢;obtain⟨m,hm⟩:∃ m,m=es.length:=⟨_,rfl⟩
 obtain⟨n,hn⟩:∃ n,n=fs.length:=⟨_,rfl⟩
 rw [<- hm] at hl ⊢;rw [<- hn] at hl' ⊢;have HM:=kf hm;have HN:=kf hn;clear hE hF hR hm hn;go_enter Tryz.func72,Tryz.ntmps72;by_cases hmn:m=n;rotate_left
 ·have HZ:=kf (HX1.out (fun h=>hmn (by rw [HM.out,HN.out,h])));have d1:decide ((m:Int)=(n:Int))=false:=by simp;omega
  have d2:decide (m=n)=false:=by simpa using hmn
  have d3:((m:Int) != (n:Int))=true:=by simp;omega
  clear hmn;go_wp2_with fail;go_ret;exact⟨by rw [HZ.out];rfl,Chg.refl _ _⟩
 subst hmn;go_wp2_with fail;go_loopw [13] (fun i wr=>∃ k:Nat,k<=m/\i=.int .i64 k/\Hid (Chg NoS w wr)/\Hid (es.take k=fs.take k)) (fun i _=>m-(intOf i).toNat)
 case atStart=>exact⟨0,Nat.zero_le _,rfl,kf (Chg.refl _ _),rfl⟩
 case round =>
  obtain⟨k,hk,rfl,HCk,HT⟩:=hrel;by_cases hlt:k<m;rotate_left
  ·have hkm:k=m:=by omega
   have HZ:=kf (HX2.out (y2b HT.out (by have:=HM.out;omega) (by have:=HN.out;omega)));clear hlt;have d1:decide ((k:Int)<m)=false:=by simp;omega
   have d2:decide (k<m)=false:=by simp;omega
   clear hkm;go_wp2_with fail;refine bodyPost_ret (v:=.bool true) (by simp [results,Tryz.results72,go_sem]) rfl ?_;exact⟨by rw [HZ.out],HCk.out⟩
  obtain⟨x,hx⟩:∃ x,es[k]?=some x:=⟨_,List.getElem?_eq_getElem (by have:=HM.out;omega)⟩
  obtain⟨y,hy⟩:∃ y,fs[k]?=some y:=⟨_,List.getElem?_eq_getElem (by have:=HN.out;omega)⟩
  obtain⟨b,off,rfl,hc⟩:=z8x (HE.out wr HCk.out) (by have:=HM.out;omega);obtain⟨b',off',rfl,hc'⟩:=z8x (HF.out wr HCk.out) (by have:=HN.out;omega);obtain⟨c0,c1,c2⟩:=hc k x hx;obtain⟨e0,e1,e2⟩:=hc' k y hy;have HX:=kf hx;have HY:=kf hy;obtain⟨p,g,u⟩:=x;obtain⟨p2,g2,u2⟩:=y;simp only [] at c0 c1 c2 e0 e1 e2;clear hx hy hc hc';have HZ:=kf (fun h=>HX1.out (v7g HX.out HY.out (v2q (p:=p) (p2:=p2) (g:=g) (g2:=g2) (u:=u) (u2:=u2) h)));by_cases hp:p=p2;rotate_left
  ·have HZ:=kf (HZ.out (fun h=>hp h.1));have d1:(p==p2)=false:=by simpa using hp
   clear hp;go_upto_region 6 with fail;go_quiet (fail);go_wp2_with fail;refine bodyPost_ret (v:=.bool false) (by simp [results,Tryz.results72,go_sem]) rfl ?_;exact⟨by rw [HZ.out],HCk.out.drewN _⟩
  by_cases hg:g=g2;rotate_left
  ·have HZ:=kf (HZ.out (fun h=>hg h.2.1));have d1:(g==g2)=false:=by simpa using hg
   clear hg;go_upto_region 6 with fail;go_quiet (fail);go_wp2_with fail;refine bodyPost_ret (v:=.bool false) (by simp [results,Tryz.results72,go_sem]) rfl ?_;exact⟨by rw [HZ.out],HCk.out.drewN _⟩
  by_cases hu:u=u2;rotate_left
  ·have HZ:=kf (HZ.out (fun h=>hu h.2.2));have d1:(u==u2)=false:=by simpa using hu
   clear hu;go_upto_region 6 with fail;go_quiet (fail);go_wp2_with fail;refine bodyPost_ret (v:=.bool false) (by simp [results,Tryz.results72,go_sem]) rfl ?_;exact⟨by rw [HZ.out],HCk.out.drewN _⟩
  subst hp hg hu;have HNx:=kf (z9k HT.out HX.out HY.out rfl);go_upto_region 6 with fail;go_quiet (fail);go_wp2_with fail;go_roundw
  case rel=>exact⟨k+1,by omega,by go_num,kf (HCk.out.drewN _),HNx⟩
  case measure=>simp [intOf];omega
end Go.Proofs.YtnhlalkeaaiefaaGreatDoor
