import Derived.Test.YtmibnkddappgiaaGreatDoorK07
import Derived.Test.YtmibnkddappgiaaGreatDoorK12
set_option linter.unusedVariables false
set_option maxHeartbeats 64000000
set_option maxRecDepth 100000
set_option linter.unusedSimpArgs false
namespace Go.Proofs.YtmibnkddappgiaaGreatDoor
open Go.RowKit
theorem TxR.step {V w X X':World} {A:Option Addr} {bs:List Nat} {c:Nat} {last:Bool} {R g p k deep k' deep':Nat} {out out':List Nat} (h:TxR V w A bs c last R g p k deep out X) (h':RD X w X' A bs.length c last R k' out') (hg:g≠R) (hb:∀ d∈out',d<256):TxR V w A bs c last R g p k' deep' out' X' :=
 ⟨h'.base (h.1.kb.trans h'.kb),h'.kb _ _ _ hg (by decide) h.2.1,hb⟩
theorem z1e {out:List Nat} {x:Nat} (h:∀ d∈out,d<256) (hx:x<256):∀ d∈out++[x],d<256:=by
 intro d hd;rcases List.mem_append.1 hd with h1|h1
 ·exact h d h1
 ·rw [List.mem_singleton.1 h1];exact hx
theorem y24 {kind:Nat} {er:Int} {l:List Nat} (h:er≠0):TkV kind (er,l)=.tuple #[.agg #[.int .i64 0,.int .i64 0,.string ⟨#[]⟩,.slice none 0 0],.int .i64 er]:=by
 unfold TkV;rw [if_neg h]
theorem y64 {V w W:World} {A:Option Addr} {bs:List Nat} {c R p:Nat} {last:Bool} (h:RD V w W A bs.length c last R p []) (hS:Src w 1 A bs.length c (z09 bs)) (hl:bs.length<=500000) (hc:bs.length<=c) (hp:p<=bs.length) (hb:∀ d∈bs,d<256) :
  Calls Tryz.prog 133 #[.pointer (some ⟨R,0,none⟩)] W (PTo V w R 4 (z13 last 1 [] p (bs.drop p))):=by
 have hl6:bs.length<=1000000:=by omega
 have HTE:=kf (fun X out (hX:RD X w X A bs.length c last R bs.length out)=>z6p hX);have HTA:=kf (fun X out k x (hX:RD X w X A bs.length c last R k out) (hx:bs[k]?=some x)=>z8o hX hS hl6 hc hx);have HPE:=kf (fun X out (hX:RD X w X A bs.length c last R bs.length out)=>z6q hX 10);have HPN:=kf (fun X out k x (hX:RD X w X A bs.length c last R k out) (hx:bs[k]?=some x) (hy:x≠10)=>z8p hX hS hl6 hc hx 10 hy);have HPA:=kf (fun X out k (hX:RD X w X A bs.length c last R k out) (hx:bs[k]?=some 10)=>z8q hX hS hl6 hc hx);have HWB:=kf (fun X out k y (hX:RD X w X A bs.length c last R k out) (ho:out.length<=1000000)=>z5a hX y ho);have HOC:=kf (fun X out k y (hX:RD X w X A bs.length c last R k out) (hk:k<=bs.length) (hy:y<8)=>y4a hX hS hl6 hc hk hb y hy);have HCU:=kf (fun X out k (hX:RD X w X A bs.length c last R k out)=>z4l hX 10);have HBU:=kf (fun X out k (hX:RD X w X A bs.length c last R k out) (ho:∀ d∈out,d<256) (hm:out.length<=1000000)=>z5d hX ho hm 4);have HME:=kf (fun y X=>y4b y X);have HB:=kf hb;have HKB:=kf h.kb;have HR0:=kf h.here;have hRW:=h.lt;have hwW:=h.chg.size;obtain⟨g,hg⟩:∃ g,g=W.heap.size:=⟨_,rfl⟩
 have HG:=kf hg;have hgR:g≠R:=by omega
 have hgW:W.heap.size<=g:=by omega
 have hgw:w.heap.size<=g:=by omega
 have HTR:=kf (fun(X X':World) (k k' deep deep':Nat) (out out':List Nat) (h:TxR W w A bs c last R g p k deep out X) (h':RD X w X' A bs.length c last R k' out') (hb:∀ d∈out',d<256)=>TxR.step (deep':=deep') h h' hgR hb);have HL6:=kf hl6;clear h hS hb hc hl6 hg hwW hRW;go_enter Tryz.func133,Tryz.ntmps133;go_wp2;refine y4y (q10 W w A bs c last R g p) (q0z W w A bs c last R g p) (q0y W w A bs c last R g p) rfl rfl rfl ?pass0 ?pass1 ?pass2 ?first
 case first =>
  intro hpass;have HPass:=kf hpass;clear hpass;go_wp2;go_step3;rename_i hK;refine hK _ _ (HPass.out _ _ _ ⟨rfl,rfl,rfl,by rw [HG.out];rfl,p,1,[],rfl,rfl,hp,Nat.le_refl _,by omega,Nat.zero_le _,kf ⟨⟨HR0.out.call ((Chg.refl NoS W).alloc _),by rw [HG.out];exact Blk.new _ _ _,fun d hd=>by cases hd⟩,rfl⟩⟩)
 case pass1 =>
  intro n x w1 hx;obtain⟨h1,h2,h3,h4,k,deep,out,rfl,HT⟩:=hx;refine z8i h1 h2 h3 h4 (C:=fun y=>Code.wp _ _ _ y w1) ?_;intro f _;obtain⟨r0,r1,r2,r3,z0,z1,z2,z3⟩:=HT.out.1.2.1.cl4;have HRD:=kf HT.out.1.1;have HV:=kf HT.out.2;clear h1 h2 h3 h4 HT;have hec:(if last then(10:Int) else 6)=y3j last:=rfl;have hne:=y21 last;obtain⟨er,her⟩:∃ er,er=y3j last:=⟨_,rfl⟩
  have HCU1:=kf (HCU.out w1 _ _ HRD.out.here);rw [hec,<- her] at HCU1;rw [<- her] at HV hne;have HNE:=kf hne;clear hec her hne;go_wp2_with (go_at_call 131;refine HCU1.out.mono ?_;rintro e w3 ⟨rfl,rfl⟩);simp only [z2a];refine bodyPost_ret (v:=.tuple #[.agg #[.int .i64 0,.int .i64 0,.string ⟨#[]⟩,.slice none 0 0],.int .i64 er]) (by simp [results,Tryz.results133,go_sem,r0,r1,r2,r3]) rfl ?_;refine⟨by rw [HV.out,y24 HNE.out],k,fun e=>absurd (by rw [HV.out] at e;exact e) HNE.out,?_⟩;exact(HRD.out.re.set4 hgR hgW hgw _ _ _ _).back HKB.out
 case pass0 =>
  intro n x w1 hx;obtain⟨h1,h2,h3,h4,k,deep,out,h5,rfl,hk,hd1,hd2,hm,HT⟩:=hx;refine z8i h1 h2 h3 h4 (C:=fun y=>Code.wp _ _ _ y w1) ?_;intro f hf;rw [h5] at hf;simp only [hf];clear h1 h2 h3 h4 h5 hf;by_cases hkn:k=bs.length
  ·subst hkn;have HV:=kf (show z13 last 1 [] p (bs.drop p)=(y3j last,[],0) from by rw [HT.out.2,List.drop_of_length_le (Nat.le_refl _),z2d]);go_wp2_with (go_at_call 130;refine(HTE.out _ _ HT.out.1.1.here).mono ?_;rintro e w3 ⟨rfl,h3⟩;have HT3:=kf (HTR.out _ _ _ _ _ deep _ _ HT.out.1 h3 HT.out.1.2.2);clear h3);go_step3;exact⟨0,by omega,.inr (.inl ⟨rfl,rfl,rfl,rfl,rfl,_,deep,_,rfl,kf ⟨HT3.out,HV.out⟩⟩)⟩
  obtain⟨x,hx,hd⟩:=z1f (bs:=bs) (k:=k) (by omega);have hx256:=HB.out x (List.mem_of_getElem? hx);have HX:=kf hx;have HV:=kf (show z13 last 1 [] p (bs.drop p)=z13 last deep out k (x::bs.drop (k+1)) from by rw [HT.out.2,hd]);have HLX:=kf (show(bs.drop (k+1)).length=bs.length-(k+1) from List.length_drop);have hk1:k+1<=bs.length:=by omega
  clear hx hd;by_cases h92:x=92
  ·subst h92;go_wp2_with (go_at_call 130;refine(HTA.out _ _ _ _ HT.out.1.1.here HX.out).mono ?_;rintro e w3 ⟨rfl,h3⟩;have HT3:=kf (HTR.out _ _ _ _ _ deep _ _ HT.out.1 h3 HT.out.1.2.2);clear h3);go_step3;exact⟨2*(bs.length-(k+1))+2,by omega,.inr (.inr ⟨rfl,rfl,rfl,rfl,rfl,k,deep,out,rfl,rfl,hk1,hd1,hd2,hm,kf ⟨HT3.out,HV.out⟩⟩)⟩
  have e92:((x:Int)==92)=false:=by simp;omega
  by_cases h40:x=40
  ·subst h40;have d0:((deep:Int)+1==0)=false:=by simp;omega
   clear h92 e92;go_wp2_with first|(go_at_call 130;refine(HTA.out _ _ _ _ HT.out.1.1.here HX.out).mono ?_;rintro e w3 ⟨rfl,h3⟩;have HT3:=kf (HTR.out _ _ _ _ _ deep _ _ HT.out.1 h3 HT.out.1.2.2);clear h3)|(go_at_call 156;refine(HWB.out _ _ _ 40 HT3.out.1.here (by omega)).mono ?_;rintro e w4 ⟨rfl,h4⟩;have HT4:=kf (HTR.out _ _ _ _ _ (deep+1) _ _ HT3.out h4 (z1e HT3.out.2.2 (by decide)));clear h4)
   go_step3;refine⟨2*(bs.length-(k+1))+1,by omega,.inl ⟨rfl,rfl,rfl,rfl,rfl,k+1,deep+1,out++[40],rfl,rfl,by omega,by omega,by omega,by(try simp only [List.length_append,List.length_cons,List.length_nil]);omega,kf ⟨HT4.out,by rw [HV.out,v6f]⟩⟩⟩
  have e40:((x:Int)==40)=false:=by simp;omega
  by_cases h41:x=41
  ·subst h41;clear h92 e92 h40 e40;by_cases hd:deep=1
   ·subst hd;have HE:=kf (v32 (last:=last) (deep:=1) (k:=k) (out:=out) (l:=bs.drop (k+1)) rfl);go_upto_region 14 with(go_at_call 130;refine(HTA.out _ _ _ _ HT.out.1.1.here HX.out).mono ?_;rintro e w3 ⟨rfl,h3⟩;have HT3:=kf (HTR.out _ _ _ _ _ 1 _ _ HT.out.1 h3 HT.out.1.2.2);clear h3);have hKB3:=HT3.out.1.here;go_upto_region 24 with(go_at_call 166;refine(HBU.out _ _ _ HT3.out.1.here HT3.out.2.2 (by omega)).mono ?_;rintro e w4 ⟨rfl,h4⟩;obtain⟨r0,r1,r2,r3,z0,z1,z2,z3⟩:=(h4.kb _ _ _ hgR (by decide) HT3.out.2.1).cl4;have HRE:=kf (h4.back HT3.out.1.kb);clear h4);simp only [z2a];refine bodyPost_ret (v:=.tuple #[.agg #[.int .i64 4,.int .i64 0,.string (sb out),.slice none 0 0],.int .i64 0]) (by simp [results,Tryz.results133,go_sem,r0,r1,r2,r3]) rfl ?_;refine⟨by rw [HV.out,HE.out];rfl,k+1,fun e=>by rw [HV.out,HE.out],?_⟩;exact(HRE.out.set4 hgR hgW hgw _ _ _ _).back HKB.out
   ·have d0:((deep:Int)-1==0)=false:=by simp;omega
    have d1:(0:Int)<=(deep:Int)-1:=by omega
    go_wp2_with first|(go_at_call 130;refine(HTA.out _ _ _ _ HT.out.1.1.here HX.out).mono ?_;rintro e w3 ⟨rfl,h3⟩;have HT3:=kf (HTR.out _ _ _ _ _ deep _ _ HT.out.1 h3 HT.out.1.2.2);clear h3)|(go_at_call 156;refine(HWB.out _ _ _ 41 HT3.out.1.here (by omega)).mono ?_;rintro e w4 ⟨rfl,h4⟩;have HT4:=kf (HTR.out _ _ _ _ _ (deep-1) _ _ HT3.out h4 (z1e HT3.out.2.2 (by decide)));clear h4)
    go_step3;refine⟨2*(bs.length-(k+1))+1,by omega,.inl ⟨rfl,rfl,rfl,rfl,rfl,k+1,deep-1,out++[41],congrArg (Value.int .i64) (by omega),rfl,by omega,by omega,by omega,by(try simp only [List.length_append,List.length_cons,List.length_nil]);omega,kf ⟨HT4.out,by rw [HV.out,v6e hd]⟩⟩⟩
  have e41:((x:Int)==41)=false:=by simp;omega
  have d0:((deep:Int)==0)=false:=by simp;omega
  by_cases h13:x=13
  ·subst h13;clear h92 e92 h40 e40 h41 e41;by_cases hkz:k+1=bs.length
   ·have HZ:=kf (show bs.drop (k+1)=[] from List.drop_of_length_le (by omega));have HT3E:=kf (fun X out (hX:RD X w X A bs.length c last R (k+1) out)=>HPE.out X out (by rw [<- hkz];rw [<- hkz] at hX;exact hX));go_wp2_with first|(go_at_call 134;refine(HT3E.out _ _ HT3.out.1.here).mono ?_;rintro e w5 ⟨rfl,h5⟩;have HT5:=kf (HTR.out _ _ _ _ _ deep _ _ HT3.out (by rw [<- hkz];rw [<- hkz] at h5;exact h5) HT3.out.2.2);clear h5)|(go_at_call 130;refine(HTA.out _ _ _ _ HT.out.1.1.here HX.out).mono ?_;rintro e w3 ⟨rfl,h3⟩;have HT3:=kf (HTR.out _ _ _ _ _ deep _ _ HT.out.1 h3 HT.out.1.2.2);clear h3)|(go_at_call 156;refine(HWB.out _ _ _ 10 HT5.out.1.here (by omega)).mono ?_;rintro e w4 ⟨rfl,h4⟩;have HT4:=kf (HTR.out _ _ _ _ _ deep _ _ HT5.out h4 (z1e HT5.out.2.2 (by decide)));clear h4)
    go_step3;refine⟨2*(bs.length-(k+1))+1,by omega,.inl ⟨rfl,rfl,rfl,rfl,rfl,k+1,deep,out++[10],rfl,rfl,by omega,by omega,by omega,by(try simp only [List.length_append,List.length_cons,List.length_nil]);omega,kf ⟨HT4.out,by rw [HV.out,HZ.out,v33]⟩⟩⟩
   obtain⟨y,hy,hdy⟩:=z1f (bs:=bs) (k:=k+1) (by omega);have HY:=kf hy;have HDY:=kf hdy;have hk2:k+2<=bs.length:=by omega
   clear hy hdy;by_cases hy10:y=10
   ·subst hy10;go_wp2_with first|(go_at_call 134;refine(HPA.out _ _ _ HT3.out.1.here HY.out).mono ?_;rintro e w5 ⟨rfl,h5⟩;have HT5:=kf (HTR.out _ _ _ _ _ deep _ _ HT3.out h5 HT3.out.2.2);clear h5)|(go_at_call 130;refine(HTA.out _ _ _ _ HT.out.1.1.here HX.out).mono ?_;rintro e w3 ⟨rfl,h3⟩;have HT3:=kf (HTR.out _ _ _ _ _ deep _ _ HT.out.1 h3 HT.out.1.2.2);clear h3)|(go_at_call 156;refine(HWB.out _ _ _ 10 HT5.out.1.here (by omega)).mono ?_;rintro e w4 ⟨rfl,h4⟩;have HT4:=kf (HTR.out _ _ _ _ _ deep _ _ HT5.out h4 (z1e HT5.out.2.2 (by decide)));clear h4)
    go_step3;refine⟨2*(bs.length-(k+2))+1,by omega,.inl ⟨rfl,rfl,rfl,rfl,rfl,k+2,deep,out++[10],rfl,rfl,by omega,by omega,by omega,by(try simp only [List.length_append,List.length_cons,List.length_nil]);omega,kf ⟨HT4.out,by rw [HV.out,v35 (by rw [HDY.out];simp) (by rw [HDY.out];rfl),List.drop_drop]⟩⟩⟩
   ·go_wp2_with first|(go_at_call 134;refine(HPN.out _ _ _ _ HT3.out.1.here HY.out hy10).mono ?_;rintro e w5 ⟨rfl,h5⟩;have HT5:=kf (HTR.out _ _ _ _ _ deep _ _ HT3.out h5 HT3.out.2.2);clear h5)|(go_at_call 130;refine(HTA.out _ _ _ _ HT.out.1.1.here HX.out).mono ?_;rintro e w3 ⟨rfl,h3⟩;have HT3:=kf (HTR.out _ _ _ _ _ deep _ _ HT.out.1 h3 HT.out.1.2.2);clear h3)|(go_at_call 156;refine(HWB.out _ _ _ 10 HT5.out.1.here (by omega)).mono ?_;rintro e w4 ⟨rfl,h4⟩;have HT4:=kf (HTR.out _ _ _ _ _ deep _ _ HT5.out h4 (z1e HT5.out.2.2 (by decide)));clear h4)
    go_step3;refine⟨2*(bs.length-(k+1))+1,by omega,.inl ⟨rfl,rfl,rfl,rfl,rfl,k+1,deep,out++[10],rfl,rfl,by omega,by omega,by omega,by(try simp only [List.length_append,List.length_cons,List.length_nil]);omega,kf ⟨HT4.out,by rw [HV.out,y57 (by rw [HDY.out];simp) (by rw [HDY.out];simpa using hy10)]⟩⟩⟩
  have e13:((x:Int)==13)=false:=by simp;omega
  go_wp2_with first|(go_at_call 130;refine(HTA.out _ _ _ _ HT.out.1.1.here HX.out).mono ?_;rintro e w3 ⟨rfl,h3⟩;have HT3:=kf (HTR.out _ _ _ _ _ deep _ _ HT.out.1 h3 HT.out.1.2.2);clear h3)|(go_at_call 156;refine(HWB.out _ _ _ x HT3.out.1.here (by omega)).mono ?_;rintro e w4 ⟨rfl,h4⟩;have HT4:=kf (HTR.out _ _ _ _ _ deep _ _ HT3.out h4 (z1e HT3.out.2.2 hx256));clear h4)
  go_step3;refine⟨2*(bs.length-(k+1))+1,by omega,.inl ⟨rfl,rfl,rfl,rfl,rfl,k+1,deep,out++[x],rfl,rfl,by omega,by omega,by omega,by(try simp only [List.length_append,List.length_cons,List.length_nil]);omega,kf ⟨HT4.out,by rw [HV.out,v8y h92 h13 h40 h41]⟩⟩⟩
 case pass2 =>
  intro n x w1 hx;obtain⟨h1,h2,h3,h4,k,deep,out,h5,rfl,hk,hd1,hd2,hm,HT⟩:=hx;refine z8i h1 h2 h3 h4 (C:=fun y=>Code.wp _ _ _ y w1) ?_;intro f hf;rw [h5] at hf;simp only [hf];clear h1 h2 h3 h4 h5 hf;by_cases hkn:k+1=bs.length
  ·have HV:=kf (show z13 last 1 [] p (bs.drop p)=(y3j last,[],0) from by rw [HT.out.2,List.drop_of_length_le (by omega),v6c]);have HTE1:=kf (fun X out (hX:RD X w X A bs.length c last R (k+1) out)=>HTE.out X out (by rw [<- hkn];rw [<- hkn] at hX;exact hX));go_wp2_with (go_at_call 130;refine(HTE1.out _ _ HT.out.1.1.here).mono ?_;rintro e w3 ⟨rfl,h3⟩;have HT3:=kf (HTR.out _ _ _ _ _ deep _ _ HT.out.1 h3 HT.out.1.2.2);clear h3);go_step3;exact⟨0,by omega,.inr (.inl ⟨rfl,rfl,rfl,rfl,rfl,_,deep,_,rfl,kf ⟨HT3.out,HV.out⟩⟩)⟩
  obtain⟨x,hx,hd⟩:=z1f (bs:=bs) (k:=k+1) (by omega);have hx256:=HB.out x (List.mem_of_getElem? hx);have HX:=kf hx;have HV:=kf (show z13 last 1 [] p (bs.drop p)=z13 last deep out k (92::x::bs.drop (k+2)) from by rw [HT.out.2,hd]);have hk1:k+2<=bs.length:=by omega
  clear hx hd;by_cases h13:x=13
  ·subst h13;by_cases hkz:k+2=bs.length
   ·have HZ:=kf (show bs.drop (k+2)=[] from List.drop_of_length_le (by omega));have HT3E:=kf (fun X out (hX:RD X w X A bs.length c last R (k+1+1) out)=>HPE.out X out (by rw [<- hkz];rw [<- hkz] at hX;exact hX));go_wp2_with first|(go_at_call 134;refine(HT3E.out _ _ HT3.out.1.here).mono ?_;rintro e w5 ⟨rfl,h5⟩;have HT4:=kf (HTR.out _ _ _ _ _ deep _ _ HT3.out (by rw [<- hkz];rw [<- hkz] at h5;exact h5) HT3.out.2.2);clear h5)|(go_at_call 130;refine(HTA.out _ _ _ _ HT.out.1.1.here HX.out).mono ?_;rintro e w3 ⟨rfl,h3⟩;have HT3:=kf (HTR.out _ _ _ _ _ deep _ _ HT.out.1 h3 HT.out.1.2.2);clear h3)
    go_step3;refine⟨2*(bs.length-(k+2))+1,by omega,.inl ⟨rfl,rfl,rfl,rfl,rfl,k+2,deep,out,rfl,rfl,by omega,by omega,by omega,by(try simp only [List.length_append,List.length_cons,List.length_nil]);omega,kf ⟨HT4.out,by rw [HV.out,HZ.out,y8u]⟩⟩⟩
   obtain⟨y,hy,hdy⟩:=z1f (bs:=bs) (k:=k+2) (by omega);have HY:=kf hy;have HDY:=kf hdy;have hk2:k+3<=bs.length:=by omega
   clear hy hdy;by_cases hy10:y=10
   ·subst hy10;go_wp2_with first|(go_at_call 134;refine(HPA.out _ _ _ HT3.out.1.here HY.out).mono ?_;rintro e w5 ⟨rfl,h5⟩;have HT4:=kf (HTR.out _ _ _ _ _ deep _ _ HT3.out h5 HT3.out.2.2);clear h5)|(go_at_call 130;refine(HTA.out _ _ _ _ HT.out.1.1.here HX.out).mono ?_;rintro e w3 ⟨rfl,h3⟩;have HT3:=kf (HTR.out _ _ _ _ _ deep _ _ HT.out.1 h3 HT.out.1.2.2);clear h3)
    go_step3;refine⟨2*(bs.length-(k+3))+1,by omega,.inl ⟨rfl,rfl,rfl,rfl,rfl,k+3,deep,out,rfl,rfl,by omega,by omega,by omega,by(try simp only [List.length_append,List.length_cons,List.length_nil]);omega,kf ⟨HT4.out,by rw [HV.out,y8w (by rw [HDY.out];rfl),List.drop_drop]⟩⟩⟩
   ·go_wp2_with first|(go_at_call 134;refine(HPN.out _ _ _ _ HT3.out.1.here HY.out hy10).mono ?_;rintro e w5 ⟨rfl,h5⟩;have HT4:=kf (HTR.out _ _ _ _ _ deep _ _ HT3.out h5 HT3.out.2.2);clear h5)|(go_at_call 130;refine(HTA.out _ _ _ _ HT.out.1.1.here HX.out).mono ?_;rintro e w3 ⟨rfl,h3⟩;have HT3:=kf (HTR.out _ _ _ _ _ deep _ _ HT.out.1 h3 HT.out.1.2.2);clear h3)
    go_step3;refine⟨2*(bs.length-(k+2))+1,by omega,.inl ⟨rfl,rfl,rfl,rfl,rfl,k+2,deep,out,rfl,rfl,by omega,by omega,by omega,by(try simp only [List.length_append,List.length_cons,List.length_nil]);omega,kf ⟨HT4.out,by rw [HV.out,y8v (by rw [HDY.out];simpa using hy10) (by rw [HDY.out];simp)]⟩⟩⟩
  have e13:((x:Int)==13)=false:=by simp;omega
  by_cases h10:x=10
  ·subst h10;go_wp2_with (go_at_call 130;refine(HTA.out _ _ _ _ HT.out.1.1.here HX.out).mono ?_;rintro e w3 ⟨rfl,h3⟩;have HT4:=kf (HTR.out _ _ _ _ _ deep _ _ HT.out.1 h3 HT.out.1.2.2);clear h3);go_step3;refine⟨2*(bs.length-(k+2))+1,by omega,.inl ⟨rfl,rfl,rfl,rfl,rfl,k+2,deep,out,rfl,rfl,by omega,by omega,by omega,by(try simp only [List.length_append,List.length_cons,List.length_nil]);omega,kf ⟨HT4.out,by rw [HV.out,v30]⟩⟩⟩
  have e10:((x:Int)==10)=false:=by simp;omega
  by_cases hoct:48<=x/\x<=55
  ·have HO:=kf (y8t (last:=last) (deep:=deep) (k:=k) (out:=out) (l:=bs.drop (k+2)) hoct);have hle:=y1j 2 (x-48) (bs.drop (k+2));rw [List.length_drop] at hle;obtain⟨u,hu⟩:∃ u,u=x-48:=⟨_,rfl⟩
   have hu8:u<8:=by omega
   have w2:IntKind.u8.wrap ((x:Int)-48)=(u:Int):=by rw [IntKind.wrap_u8];omega
   have m1:decide ((48:Int)<=x)=true:=by simp;omega
   have m2:decide ((x:Int)<=55)=true:=by simp;omega
   have m3:decide (48<=x)=true:=by simp;omega
   have m4:decide (x<=55)=true:=by simp;omega
   rw [<- hu] at HO hle;obtain⟨v,hv⟩:∃ v,(z2c 2 u (bs.drop (k+2))).1%256=v:=⟨_,rfl⟩
   obtain⟨q,hq⟩:∃ q,(z2c 2 u (bs.drop (k+2))).2=q:=⟨_,rfl⟩
   have HOC1:=kf (fun X out (hX:RD X w X A bs.length c last R (k+1+1) out)=>HOC.out X out (k+1+1) u hX hk1 hu8);have hv256:v<256:=by rw [<- hv];exact Nat.mod_lt _ (by decide)
   have hvq:(z2c 2 u (bs.drop (k+1+1))).1%256=v/\(z2c 2 u (bs.drop (k+1+1))).2=q:=⟨hv,hq⟩
   rw [hvq.1,hvq.2] at HOC1;rw [hv,hq] at HO;rw [hq] at hle;have hq2:=hle.2;clear hle hv hq hvq hu hoct;go_upto_region 22 with(go_at_call 130;refine(HTA.out _ _ _ _ HT.out.1.1.here HX.out).mono ?_;rintro e w3 ⟨rfl,h3⟩;have HT3:=kf (HTR.out _ _ _ _ _ deep _ _ HT.out.1 h3 HT.out.1.2.2);clear h3);have hRR:=HT3.out.1.new
   first
    |(go_loud (go_region_held3 (fun _=>True) (first|trivial|(go_keep;done))
      (first
       |(go_at_call 167;refine(HOC1.out _ _ (HT3.out.1.call ((Chg.refl NoS _).drew)).here).mono ?_;rintro e w5 ⟨rfl,h5⟩;have HT5:=kf (HTR.out _ _ _ _ _ deep _ _ HT3.out (h5.base ((KB.chg ((Chg.refl NoS _).drew)).trans h5.kb)) HT3.out.2.2);clear h5)
       |(go_at_call 156;refine(HWB.out _ _ _ v HT5.out.1.here (by omega)).mono ?_;rintro e w4 ⟨rfl,h4⟩;have HT4:=kf (HTR.out _ _ _ _ _ deep _ _ HT5.out h4 (z1e HT5.out.2.2 hv256));clear h4))))
    |fail "region"
   go_wp2_with fail;go_step3;refine⟨2*(bs.length-(k+2+q))+1,by omega,.inl ⟨rfl,rfl,rfl,rfl,rfl,k+2+q,deep,out++[v],rfl,rfl,by omega,by omega,by omega,by(try simp only [List.length_append,List.length_cons,List.length_nil]);omega,kf ⟨HT4.out,by rw [HV.out,HO.out,List.drop_drop]⟩⟩⟩
  have HM:=kf (v6d (last:=last) (deep:=deep) (k:=k) (out:=out) (l:=bs.drop (k+2)) h10 h13 hoct);have hm256:mnt x<256:=v7e hx256;have HME1:=kf (fun X=>HME.out x X);obtain⟨v,hv⟩:∃ v,mnt x=v:=⟨_,rfl⟩
  rw [hv] at HM HME1 hm256;have m0:(decide ((48:Int)<=x)&&decide ((x:Int)<=55))=false:=by simp;omega
  clear hv;by_cases hlo:48<=x
  ·have hhi:¬x<=55:=by omega
   have m1:decide ((48:Int)<=x)=true:=by simp;omega
   have m2:decide ((x:Int)<=55)=false:=by simp;omega
   have m3:decide (48<=x)=true:=by simp;omega
   have m4:decide (x<=55)=false:=by simp;omega
   clear hoct;go_upto_region 23 with(go_at_call 130;refine(HTA.out _ _ _ _ HT.out.1.1.here HX.out).mono ?_;rintro e w3 ⟨rfl,h3⟩;have HT3:=kf (HTR.out _ _ _ _ _ deep _ _ HT.out.1 h3 HT.out.1.2.2);clear h3)
   first
    |(go_loud (go_region_held3 (fun _=>True) (first|trivial|(go_keep;done))
      (first
       |(go_at_call 168;refine(HME1.out _).mono ?_;rintro e w5 ⟨rfl,rfl⟩;have HT5:=kf (HTR.out _ _ _ _ _ deep _ _ HT3.out (HT3.out.1.here.call ((Chg.refl NoS _).drew)) HT3.out.2.2))
       |(go_at_call 156;refine(HWB.out _ _ _ v HT5.out.1.here (by omega)).mono ?_;rintro e w4 ⟨rfl,h4⟩;have HT4:=kf (HTR.out _ _ _ _ _ deep _ _ HT5.out h4 (z1e HT5.out.2.2 hm256));clear h4))))
    |fail "region"
   go_wp2_with fail;go_step3;refine⟨2*(bs.length-(k+2))+1,by omega,.inl ⟨rfl,rfl,rfl,rfl,rfl,k+2,deep,out++[v],rfl,rfl,by omega,by omega,by omega,by(try simp only [List.length_append,List.length_cons,List.length_nil]);omega,kf ⟨HT4.out,by rw [HV.out,HM.out]⟩⟩⟩
  ·have m1:decide ((48:Int)<=x)=false:=by simp;omega
   have m3:decide (48<=x)=false:=by simp;omega
   clear hoct;go_upto_region 23 with(go_at_call 130;refine(HTA.out _ _ _ _ HT.out.1.1.here HX.out).mono ?_;rintro e w3 ⟨rfl,h3⟩;have HT3:=kf (HTR.out _ _ _ _ _ deep _ _ HT.out.1 h3 HT.out.1.2.2);clear h3)
   first
    |(go_loud (go_region_held3 (fun _=>True) (first|trivial|(go_keep;done))
      (first
       |(go_at_call 168;refine(HME1.out _).mono ?_;rintro e w5 ⟨rfl,rfl⟩;have HT5:=kf (HTR.out _ _ _ _ _ deep _ _ HT3.out (HT3.out.1.here.call ((Chg.refl NoS _).drew)) HT3.out.2.2))
       |(go_at_call 156;refine(HWB.out _ _ _ v HT5.out.1.here (by omega)).mono ?_;rintro e w4 ⟨rfl,h4⟩;have HT4:=kf (HTR.out _ _ _ _ _ deep _ _ HT5.out h4 (z1e HT5.out.2.2 hm256));clear h4))))
    |fail "region"
   go_wp2_with fail;go_step3;refine⟨2*(bs.length-(k+2))+1,by omega,.inl ⟨rfl,rfl,rfl,rfl,rfl,k+2,deep,out++[v],rfl,rfl,by omega,by omega,by omega,by(try simp only [List.length_append,List.length_cons,List.length_nil]);omega,kf ⟨HT4.out,by rw [HV.out,HM.out]⟩⟩⟩
def RuJ (w w0:World) (A:Option Addr) (bs:List Nat) (c:Nat) (last:Bool) (R p:Nat) (out:List Nat) (n:Nat) (x:Act) (w':World):Prop :=
 x.defers=[]/\x.tmps.size=60/\x.tmps.getD 0 undef=.pointer (some ⟨R,0,none⟩)/\x.tmps.getD 4 undef=.int .i64 (p:Nat)/\x.tmps.getD 5 undef=.int .i64 0/\∃ k:Nat,n=(bs.length-k)+1/\k<=bs.length/\p<=k /\
  Hid (RD w w0 w' A bs.length c last R k out/\p+rgs (bs.drop p)=k+rgs (bs.drop k))
theorem y99 {x:Act} {v0 v4 v5:Value} {C:Act->Prop} (h1:x.defers=[]) (h2:x.tmps.size=60) (h3:x.tmps.getD 0 undef=v0) (h4:x.tmps.getD 4 undef=v4) (h5:x.tmps.getD 5 undef=v5)
  (k:∀ f:Nat->Value,C { tmps:=#[v0,f 1,f 2,f 3,v4,v5,f 6,f 7,f 8,f 9,f 10,f 11,f 12,f 13,f 14,f 15,f 16,f 17,f 18,f 19,f 20,f 21,f 22,f 23,f 24,f 25,f 26,f 27,f 28,f 29,f 30,f 31,f 32,f 33,f 34,f 35,f 36,f 37,f 38,f 39,f 40,f 41,f 42,f 43,f 44,f 45,f 46,f 47,f 48,f 49,f 50,f 51,f 52,f 53,f 54,f 55,f 56,f 57,f 58,f 59],defers:=[] }):C x:=by
 obtain⟨t,d⟩:=x;simp only at h1 h2 h3 h4 h5;subst h1;have h6:=k (fun i=>t.getD i undef);rw [<- h3,<- h4,<- h5] at h6;rw [z2s t 60 h2];exact h6
theorem y9k {x:Nat} {l:List Nat} (h:y0h x=false):rgs (x::l)=0:=by rw [rgs,if_neg (by rw [h];decide)]
theorem y03 {x:Nat} {l:List Nat} (h:y0h x=true):rgs (x::l)=rgs l+1:=by rw [rgs,if_pos h]
def z9e (last:Bool) (l:List Nat):Int:=if rgs l=l.length/\last=false then 6 else 0
theorem y2r {V w W:World} {A:Option Addr} {bs:List Nat} {c R p:Nat} {last:Bool} {out:List Nat} (h:RD V w W A bs.length c last R p out) (hS:Src w 1 A bs.length c (z09 bs)) (hl:bs.length<=500000) (hc:bs.length<=c) (hp:p<=bs.length) (hn0:0<bs.length) :
  Calls Tryz.prog 170 #[.pointer (some ⟨R,0,none⟩)] W fun e W'=>e=.returned (.tuple #[.string (sb ((bs.drop p).take (rgs (bs.drop p)))),.int .i64 (z9e last (bs.drop p))])/\RD V w W' A bs.length c last R (p+rgs (bs.drop p)) out:=by
 have HSP:=kf (fun y X=>z5b y X);have HDL:=kf (fun y X=>z7y y X);have HCU:=kf (fun X k (hX:RD V w X A bs.length c last R k out)=>z4l hX 0);have HR0:=kf h;have HS:=kf hS;obtain⟨c2,c3,c4,f3⟩:=h.cells;obtain⟨b,off,rfl,hcell⟩:=z7f hS (Chg.refl NoS w) hn0;have HCELL:=kf hcell;have HBR:=kf (fun(k x:Nat) (hx:bs[k]?=some x)=>(show b≠R from by have h1:=z05 (hcell k x hx);have h2:=h.new;simp only at h1;omega))
 have HCV:=kf (fun(X:World) (hX:Chg NoS w X) (m:Nat) (hm:p+m<=bs.length)=>(show(convert 37 9 (.slice (y14 (some ⟨b,off,none⟩) p c) m (c-p))).run Tryz.prog X=.ok (.string (sb ((bs.drop p).take m))) X from by
  have h1:=y2f (lo:=p) (m:=m) (Src.below (w0:=w) hS hX) hc hm;have e:((z09 bs).drop p).take m=z09 ((bs.drop p).take m):=by unfold z09;rw [<- List.map_drop,<- List.map_take]
  rw [e] at h1;exact z74 h1))
 obtain⟨L,hL⟩:∃ L,L=rgs (bs.drop p):=⟨_,rfl⟩
 have HLen:=kf (show p+L<=bs.length from by have:=y5s (bs.drop p);rw [List.length_drop,<- hL] at this;omega);obtain⟨S,hS2⟩:∃ S,S=sb ((bs.drop p).take L):=⟨_,rfl⟩
 have HS2:=kf hS2;have HL:=kf hL
 have HEr:=kf (show z9e last (bs.drop p)=if p+L=bs.length/\last=false then 6 else 0 from by
  unfold z9e;rw [<- hL,List.length_drop];by_cases h1:p+L=bs.length
  ·by_cases h2:last=false
   ·rw [if_pos ⟨by omega,h2⟩,if_pos ⟨h1,h2⟩]
   ·rw [if_neg (fun e=>h2 e.2),if_neg (fun e=>h2 e.2)]
  ·rw [if_neg (fun e=>h1 (by omega)),if_neg (fun e=>h1 e.1)])
 rw [<- hL,<- hS2];obtain⟨E,hE⟩:∃ E,E=z9e last (bs.drop p):=⟨_,rfl⟩
 rw [<- hE];rw [<- hE] at HEr;clear h hS hcell hE hL hS2;go_enter Tryz.func170,Tryz.ntmps170;go_wp2;refine z9i (RuJ V w (some ⟨b,off,none⟩) bs c last R p out) rfl ?pass0 ?first
 case first =>
  intro hpass;have HPass:=kf hpass;clear hpass;go_wp2;go_step3;rename_i hK;refine hK _ _ (HPass.out _ _ _ ⟨rfl,rfl,rfl,rfl,rfl,p,rfl,hp,Nat.le_refl _,kf ⟨HR0.out,rfl⟩⟩)
 case pass0 =>
  intro n x w1 hx;obtain⟨h1,h2,h3,h4,h5,k,rfl,hk,hpk,HT⟩:=hx;refine y99 h1 h2 h3 h4 h5 (C:=fun y=>Code.wp _ _ _ y w1) ?_;intro f;clear h1 h2 h3 h4 h5 c2 c3 c4 f3;obtain⟨c2,c3,c4,f3⟩:=HT.out.1.cells;by_cases hkn:k=bs.length
  ·have HK:=kf (show p+L=k from by rw [HL.out,HT.out.2,hkn,List.drop_of_length_le (Nat.le_refl _)];rfl);have HE1:=kf (show(if last then(0:Int) else 6)=E from by rw [HEr.out,HK.out];cases last<;>simp [hkn]);have HCU1:=kf (fun X hX=>HCU.out X k hX);rw [HE1.out] at HCU1;have hcv:=fun m m2=>HCV.out ((w1.drewN m).drewN m2) ((HT.out.1.chg.drewN m).drewN m2) L HLen.out;have hcv1:=fun m=>HCV.out (w1.drewN m) (HT.out.1.chg.drewN m) L HLen.out;have hLk:L=k-p:=by have:=HK.out;omega
   rw [<- HS2.out,hLk] at hcv hcv1;have HNK:=kf hkn;have k2:((k:Int)==bs.length)=true:=by simp;omega
   have k3:(k==bs.length)=true:=by simp;omega
   clear hkn HCU;have p1:(p:Int)<=k:=by omega
   have p2:(k:Int)<=c:=by omega
   have p3:(k:Int)<=bs.length:=by omega
   rw [z73] at hcv hcv1;go_upto_region 2 with fail;go_quiet (fail);go_upto_region 7 with first|(go_at_call 131;refine(HCU1.out _ (HT.out.1.drewN _)).mono ?_;rintro e w5 ⟨rfl,rfl⟩)|(go_at_call 129;refine(HSP1.out _).mono ?_;rintro e w5 ⟨rfl,rfl⟩)|(go_at_call 157;refine(HDL1.out _).mono ?_;rintro e w5 ⟨rfl,rfl⟩)
   go_quiet (fail);go_wp2_with fail;all_goals (try simp only [z2a])
   all_goals (go_ret2;exact⟨rfl,by rw [HK.out];exact HT.out.1.drewN _⟩)
  obtain⟨x,hx,hd⟩:=z1f (bs:=bs) (k:=k) (by omega);have hbR:=HBR.out k x hx;have c0:w1.cell? ⟨b,off+k,none⟩=some (.int .u8 (x:Nat)):=(HT.out.1.chg.cell (p:=⟨b,off+k,none⟩) (z05 (HCELL.out k x hx)) (fun h=>h)).trans (HCELL.out k x hx);have k1:(k:Int)<bs.length:=by omega
  have k2:((k:Int)==bs.length)=false:=by simp;omega
  have k3:(k==bs.length)=false:=by simp;omega
  have HD:=kf hd;have HSP1:=kf (fun X=>HSP.out x X);have HDL1:=kf (fun X=>HDL.out x X);clear hx hd;by_cases hr:y0h x=true
  ·have HV:=kf (show p+rgs (bs.drop p)=k+1+rgs (bs.drop (k+1)) from by rw [HT.out.2,HD.out,y03 hr];omega)
   have hs1:z5u x=false:=by
    cases h7:z5u x with
    |false=>rfl
    |true=>rw [y0h,h7] at hr;cases hr
   have hd1:z6b x=false:=by
    cases h7:z6b x with
    |false=>rfl
    |true=>rw [y0h,hs1,h7] at hr;cases hr
   rw [hs1] at HSP1;rw [hd1] at HDL1;clear hs1 hd1 hr;go_upto_region 2 with fail;go_quiet (fail);go_upto_region 4 with fail;go_quiet (fail);go_wp2_with first|(go_at_call 129;refine(HSP1.out _).mono ?_;rintro e w5 ⟨rfl,rfl⟩)|(go_at_call 157;refine(HDL1.out _).mono ?_;rintro e w5 ⟨rfl,rfl⟩)
   go_step3;exact⟨(bs.length-(k+1))+1,by omega,rfl,rfl,rfl,rfl,rfl,rfl,k+1,rfl,by omega,by omega,kf ⟨(HT.out.1.drewN _).at_ _,HV.out⟩⟩
  ·have hr2:y0h x=false:=by simpa using hr
   have HK:=kf (show p+L=k from by rw [HL.out,HT.out.2,HD.out,y9k hr2];rfl);have HE1:=kf (show E=0 from by rw [HEr.out,if_neg (fun e=>by have:=HK.out;omega)]);have hcv:=fun m m2=>HCV.out ((w1.drewN m).drewN m2) ((HT.out.1.chg.drewN m).drewN m2) L HLen.out;have hcv1:=fun m=>HCV.out (w1.drewN m) (HT.out.1.chg.drewN m) L HLen.out;have hLk:L=k-p:=by have:=HK.out;omega
   rw [<- HS2.out,hLk] at hcv hcv1;clear hr;cases h7:z5u x with
   |true =>
    rw [h7] at HSP1;clear h7 hr2;have p1:(p:Int)<=k:=by omega
    have p2:(k:Int)<=c:=by omega
    have p3:(k:Int)<=bs.length:=by omega
    rw [z73] at hcv hcv1;go_upto_region 2 with fail;go_quiet (fail);go_upto_region 4 with fail;go_quiet (fail);go_upto_region 7 with first|(go_at_call 131;refine(HCU1.out _ (HT.out.1.drewN _)).mono ?_;rintro e w5 ⟨rfl,rfl⟩)|(go_at_call 129;refine(HSP1.out _).mono ?_;rintro e w5 ⟨rfl,rfl⟩)|(go_at_call 157;refine(HDL1.out _).mono ?_;rintro e w5 ⟨rfl,rfl⟩)
    go_quiet (fail);go_wp2_with fail;all_goals (try simp only [z2a])
    all_goals (go_ret2;exact⟨by rw [HE1.out];rfl,by rw [HK.out];exact HT.out.1.drewN _⟩)
   |false =>
    have h8:z6b x=true:=by
     cases h9:z6b x with
     |true=>rfl
     |false=>rw [y0h,h7,h9] at hr2;cases hr2
    rw [h7] at HSP1;rw [h8] at HDL1;clear h7 h8 hr2;have p1:(p:Int)<=k:=by omega
    have p2:(k:Int)<=c:=by omega
    have p3:(k:Int)<=bs.length:=by omega
    rw [z73] at hcv hcv1;go_upto_region 2 with fail;go_quiet (fail);go_upto_region 4 with fail;go_quiet (fail);go_upto_region 7 with first|(go_at_call 131;refine(HCU1.out _ (HT.out.1.drewN _)).mono ?_;rintro e w5 ⟨rfl,rfl⟩)|(go_at_call 129;refine(HSP1.out _).mono ?_;rintro e w5 ⟨rfl,rfl⟩)|(go_at_call 157;refine(HDL1.out _).mono ?_;rintro e w5 ⟨rfl,rfl⟩)
    go_quiet (fail);go_wp2_with fail;all_goals (try simp only [z2a])
    all_goals (go_ret2;exact⟨by rw [HE1.out];rfl,by rw [HK.out];exact HT.out.1.drewN _⟩)
theorem z5e:∀ (ds l:List Nat),ds.length%2=0->z42 (ds++l)=z42 ds++z42 l
 |[],_,_=>rfl
 |[a],_,h=>by simp at h
 |a::b::ds,l,h=>by
  have:=z5e ds l (by simp only [List.length_cons] at h;omega);rw [List.cons_append,List.cons_append,z42,z42,this];rfl
def HxS (ds:List Nat) (odd:Bool) (h:Nat) (out:List Nat):Prop :=
 if odd then ∃ es a,ds=es++[a]/\es.length%2=0/\out=z42 es/\h=16*a/\a<16 else ds.length%2=0/\out=z42 ds
theorem HxS.nil (h:Nat):HxS [] false h []:=⟨rfl,rfl⟩
theorem HxS.one {ds out:List Nat} {h d:Nat} (k:HxS ds false h out) (hd:d<16):HxS (ds++[d]) true (16*d) out:=⟨ds,d,rfl,k.1,k.2,rfl,hd⟩
theorem HxS.two {ds out:List Nat} {h d h':Nat} (k:HxS ds true h out):HxS (ds++[d]) false h' (out++[h+d]):=by
 obtain⟨es,a,rfl,e1,rfl,rfl,_⟩:=k;refine⟨by simp;omega,?_⟩;rw [List.append_assoc,z5e _ _ e1];rfl
theorem HxS.end0 {ds out:List Nat} {h:Nat} (k:HxS ds false h out):z42 ds=out:=k.2.symm
theorem HxS.end1 {ds out:List Nat} {h:Nat} (k:HxS ds true h out):z42 ds=out++[h]:=by
 obtain⟨es,a,rfl,e1,rfl,rfl,_⟩:=k;rw [z5e _ _ e1];rfl
theorem HxS.lt {ds out:List Nat} {h:Nat} (k:HxS ds true h out):∃ a,h=16*a/\a<16:=by
 obtain⟨es,a,rfl,e1,rfl,rfl,h3⟩:=k;exact⟨a,rfl,h3⟩
theorem v77 {h a d:Nat} (hh:h=16*a) (ha:a<16) (hd:d<16):bits BinOp.or IntKind.u8 (h:Int) (d:Int)=((h+d:Nat):Int):=by
 rw [u8_or_nat h d (by omega) (by omega),hh];have:=(Nat.two_pow_add_eq_or_of_lt (i:=4) (b:=d) (by omega) a).symm;exact congrArg Nat.cast this
section
variable {last:Bool} {ds l:List Nat} {p c d:Nat}
theorem v4y:z2l last ds p (62::l)=(0,z42 ds,p+1):=by rw [z2l,if_pos rfl]
theorem v7l (h1:c≠62) (h2:z5u c=true):z2l last ds p (c::l)=z2l last ds (p+1) l:=by rw [z2l,if_neg h1,if_pos h2]
theorem v50 (h1:c≠62) (h2:z5u c=false) (h3:z3q c=none):z2l last ds p (c::l)=(11,[],0):=by rw [z2l,if_neg h1,if_neg (by rw [h2];decide),h3]
theorem v4z (h1:c≠62) (h2:z5u c=false) (h3:z3q c=some d):z2l last ds p (c::l)=z2l last (ds++[d]) (p+1) l:=by rw [z2l,if_neg h1,if_neg (by rw [h2];decide),h3]
end
def q16 (V w:World) (A:Option Addr) (bs:List Nat) (c:Nat) (last:Bool) (R g p:Nat) (n:Nat) (x:Act) (w':World):Prop :=
 x.defers=[]/\x.tmps.size=57/\x.tmps.getD 0 undef=.pointer (some ⟨R,0,none⟩)/\x.tmps.getD 2 undef=.pointer (some ⟨g,0,none⟩)/\∃ (k h:Nat) (odd:Bool) (ds out:List Nat),x.tmps.getD 4 undef=.bool odd/\x.tmps.getD 5 undef=.int .u8 (h:Nat)/\n=(bs.length-k)+1/\k<=bs.length/\out.length<=k /\
  Hid (TxR V w A bs c last R g p k 0 out w'/\z2l last [] p (bs.drop p)=z2l last ds k (bs.drop k)/\HxS ds odd h out)
def q15 (V w:World) (A:Option Addr) (bs:List Nat) (c:Nat) (last:Bool) (R g p:Nat) (n:Nat) (x:Act) (w':World):Prop :=
 x.defers=[]/\x.tmps.size=57/\x.tmps.getD 0 undef=.pointer (some ⟨R,0,none⟩)/\x.tmps.getD 2 undef=.pointer (some ⟨g,0,none⟩)/\∃ (k h:Nat) (odd:Bool) (ds out:List Nat),x.tmps.getD 4 undef=.bool odd/\x.tmps.getD 5 undef=.int .u8 (h:Nat)/\n=0/\k<=bs.length/\out.length<=k /\
  Hid (TxR V w A bs c last R g p k 0 out w'/\z2l last [] p (bs.drop p)=(0,z42 ds,k)/\HxS ds odd h out)
theorem y2h {x:Act} {v0 v2:Value} {C:Act->Prop} (h1:x.defers=[]) (h2:x.tmps.size=57) (h3:x.tmps.getD 0 undef=v0) (h4:x.tmps.getD 2 undef=v2)
  (k:∀ f:Nat->Value,f 4=x.tmps.getD 4 undef->f 5=x.tmps.getD 5 undef->C { tmps:=#[v0,f 1,v2,f 3,f 4,f 5,f 6,f 7,f 8,f 9,f 10,f 11,f 12,f 13,f 14,f 15,f 16,f 17,f 18,f 19,f 20,f 21,f 22,f 23,f 24,f 25,f 26,f 27,f 28,f 29,f 30,f 31,f 32,f 33,f 34,f 35,f 36,f 37,f 38,f 39,f 40,f 41,f 42,f 43,f 44,f 45,f 46,f 47,f 48,f 49,f 50,f 51,f 52,f 53,f 54,f 55,f 56],defers:=[] }):C x:=by
 obtain⟨t,d⟩:=x;simp only at h1 h2 h3 h4;subst h1;have h5:=k (fun i=>t.getD i undef) rfl rfl;rw [<- h3,<- h4] at h5;rw [z2s t 57 h2];exact h5
theorem y9x {V w W:World} {A:Option Addr} {bs:List Nat} {c R p:Nat} {last:Bool} (h:RD V w W A bs.length c last R p []) (hS:Src w 1 A bs.length c (z09 bs)) (hl:bs.length<=500000) (hc:bs.length<=c) (hp:p<=bs.length) (hb:∀ d∈bs,d<256) :
  Calls Tryz.prog 135 #[.pointer (some ⟨R,0,none⟩)] W (PTo V w R 4 (z2l last [] p (bs.drop p))):=by
 have hl6:bs.length<=1000000:=by omega
 have HTE:=kf (fun X out (hX:RD X w X A bs.length c last R bs.length out)=>z6p hX);have HTA:=kf (fun X out k x (hX:RD X w X A bs.length c last R k out) (hx:bs[k]?=some x)=>z8o hX hS hl6 hc hx);have HWB:=kf (fun X out k y (hX:RD X w X A bs.length c last R k out) (ho:out.length<=1000000)=>z5a hX y ho);have HCU:=kf (fun X out k (hX:RD X w X A bs.length c last R k out)=>z4l hX 10);have HBU:=kf (fun X out k (hX:RD X w X A bs.length c last R k out) (ho:∀ d∈out,d<256) (hm:out.length<=1000000)=>z5d hX ho hm 4);have HDG:=kf (fun y (hy:y<256) X=>z5c y hy X);have HSP:=kf (fun y X=>z5b y X);have HB:=kf hb;have HKB:=kf h.kb;have HR0:=kf h.here;have hRW:=h.lt;have hwW:=h.chg.size;obtain⟨g,hg⟩:∃ g,g=W.heap.size:=⟨_,rfl⟩
 have HG:=kf hg;have hgR:g≠R:=by omega
 have hgW:W.heap.size<=g:=by omega
 have hgw:w.heap.size<=g:=by omega
 have HTR:=kf (fun(X X':World) (k k' deep deep':Nat) (out out':List Nat) (h:TxR W w A bs c last R g p k deep out X) (h':RD X w X' A bs.length c last R k' out') (hb:∀ d∈out',d<256)=>TxR.step (deep':=deep') h h' hgR hb);have HL6:=kf hl6;clear h hS hb hc hl6 hg hwW hRW;go_enter Tryz.func135,Tryz.ntmps135;go_wp2;refine z6f (q16 W w A bs c last R g p) (q15 W w A bs c last R g p) rfl rfl ?pass0 ?pass1 ?first
 case first =>
  intro hpass _;have HPass:=kf hpass;clear hpass;go_wp2;go_step3;rename_i hK;refine hK _ _ (HPass.out _ _ _ ⟨rfl,rfl,rfl,by rw [HG.out];rfl,p,0,false,[],[],rfl,rfl,rfl,hp,Nat.zero_le _,kf ⟨⟨HR0.out.call ((Chg.refl NoS W).alloc _),by rw [HG.out];exact Blk.new _ _ _,fun d hd=>by cases hd⟩,rfl,HxS.nil 0⟩⟩)
 case pass1 =>
  intro n x w1 hx;obtain⟨h1,h2,h3,h4,k,h,odd,ds,out,h5,h6,rfl,hk,hm,HT⟩:=hx;refine y2h h1 h2 h3 h4 (C:=fun y=>Code.wp _ _ _ y w1) ?_;intro f hf hf2;rw [h5] at hf;rw [h6] at hf2;simp only [hf,hf2];clear h1 h2 h3 h4 h5 h6 hf hf2;have HV:=kf HT.out.2.1;have HT1:=kf HT.out.1;cases odd
  ·have HE:=kf HT.out.2.2.end0;go_wp2_with (go_at_call 166;refine(HBU.out _ _ _ HT1.out.1.here HT1.out.2.2 (by(try simp only [List.length_append,List.length_cons,List.length_nil]);omega)).mono ?_;rintro e w4 ⟨rfl,h4⟩;obtain⟨r0,r1,r2,r3,z0,z1,z2,z3⟩:=(h4.kb _ _ _ hgR (by decide) HT1.out.2.1).cl4;have HRE:=kf (h4.back HT1.out.1.kb);clear h4);simp only [z2a];refine bodyPost_ret (v:=.tuple #[.agg #[.int .i64 4,.int .i64 0,.string (sb (out)),.slice none 0 0],.int .i64 0]) (by simp [results,Tryz.results135,go_sem,r0,r1,r2,r3]) rfl ?_;refine⟨by rw [HV.out,HE.out];rfl,k,fun e=>by rw [HV.out],?_⟩;exact(HRE.out.set4 hgR hgW hgw _ _ _ _).back HKB.out
  ·have HE:=kf HT.out.2.2.end1;have hh256:h<256:=by obtain⟨a,h7,h8⟩:=HT.out.2.2.lt;omega
   go_wp2_with first
    |(go_at_call 156;refine(HWB.out _ _ _ h HT1.out.1.here (by omega)).mono ?_;rintro e w3 ⟨rfl,h3⟩;have HT2:=kf (HTR.out _ _ _ _ _ 0 _ _ HT1.out h3 (z1e HT1.out.2.2 hh256));clear h3)
    |(go_at_call 166;refine(HBU.out _ _ _ HT2.out.1.here HT2.out.2.2 (by(try simp only [List.length_append,List.length_cons,List.length_nil]);omega)).mono ?_;rintro e w4 ⟨rfl,h4⟩;obtain⟨r0,r1,r2,r3,z0,z1,z2,z3⟩:=(h4.kb _ _ _ hgR (by decide) HT2.out.2.1).cl4;have HRE:=kf (h4.back HT2.out.1.kb);clear h4)
   simp only [z2a];refine bodyPost_ret (v:=.tuple #[.agg #[.int .i64 4,.int .i64 0,.string (sb (out++[h])),.slice none 0 0],.int .i64 0]) (by simp [results,Tryz.results135,go_sem,r0,r1,r2,r3]) rfl ?_;refine⟨by rw [HV.out,HE.out];rfl,k,fun e=>by rw [HV.out],?_⟩;exact(HRE.out.set4 hgR hgW hgw _ _ _ _).back HKB.out
 case pass0 =>
  intro n x w1 hx;obtain⟨h1,h2,h3,h4,k,h,odd,ds,out,h5,h6,rfl,hk,hm,HT⟩:=hx;refine y2h h1 h2 h3 h4 (C:=fun y=>Code.wp _ _ _ y w1) ?_;intro f hf hf2;rw [h5] at hf;rw [h6] at hf2;simp only [hf,hf2];clear h1 h2 h3 h4 h5 h6 hf hf2;by_cases hkn:k=bs.length
  ·subst hkn;have HV:=kf (show z2l last [] p (bs.drop p)=(y3j last,[],0) from by rw [HT.out.2.1,List.drop_of_length_le (Nat.le_refl _),z2l]);have hec:(if last then(10:Int) else 6)=y3j last:=rfl;have hne:=y21 last;obtain⟨er,her⟩:∃ er,er=y3j last:=⟨_,rfl⟩
   have HCU1:=kf (fun X hX=>HCU.out X out bs.length hX);rw [hec,<- her] at HCU1;rw [<- her] at HV hne;have HNE:=kf hne;clear hec her hne
   go_wp2_with first
    |(go_at_call 130;refine(HTE.out _ _ HT.out.1.1.here).mono ?_;rintro e w3 ⟨rfl,h3⟩;have HT3:=kf (HTR.out _ _ _ _ _ 0 _ _ HT.out.1 h3 HT.out.1.2.2);clear h3;obtain⟨r0,r1,r2,r3,z0,z1,z2,z3⟩:=HT3.out.2.1.cl4)
    |(go_at_call 131;refine(HCU1.out _ HT3.out.1.here).mono ?_;rintro e w4 ⟨rfl,rfl⟩)
   simp only [z2a];refine bodyPost_ret (v:=.tuple #[.agg #[.int .i64 0,.int .i64 0,.string ⟨#[]⟩,.slice none 0 0],.int .i64 er]) (by simp [results,Tryz.results135,go_sem,r0,r1,r2,r3]) rfl ?_;refine⟨by rw [HV.out,y24 HNE.out],bs.length,fun e=>absurd (by rw [HV.out] at e;exact e) HNE.out,?_⟩;exact(HT3.out.1.re.set4 hgR hgW hgw _ _ _ _).back HKB.out
  obtain⟨x,hx,hd⟩:=z1f (bs:=bs) (k:=k) (by omega);have hx256:=HB.out x (List.mem_of_getElem? hx);have HX:=kf hx;have HV:=kf (show z2l last [] p (bs.drop p)=z2l last ds k (x::bs.drop (k+1)) from by rw [HT.out.2.1,hd]);have hk1:k+1<=bs.length:=by omega
  have HDG1:=kf (fun X=>HDG.out x hx256 X);have HSP1:=kf (fun X=>HSP.out x X);have hv16:=z6x x;clear hx hd;by_cases hs:z5u x=true
  ·have HGS:=kf hs;have hx62:x≠62:=by rintro rfl;cases hs
   have HV2:=kf (v7l (last:=last) (ds:=ds) (p:=k) (l:=bs.drop (k+1)) hx62 hs);rw [hs] at HSP1;obtain⟨v,hv⟩:∃ v,z30 x=v:=⟨_,rfl⟩
   obtain⟨b,hb⟩:∃ b,(z3q x).isSome=b:=⟨_,rfl⟩
   rw [hv,hb] at HDG1;clear hs hv hb hx62;go_wp2_with first|(go_at_call 130;refine(HTA.out _ _ _ _ HT.out.1.1.here HX.out).mono ?_;rintro e w3 ⟨rfl,h3⟩;have HT3:=kf (HTR.out _ _ _ _ _ 0 _ _ HT.out.1 h3 HT.out.1.2.2);clear h3)|(go_at_call 169;refine(HDG1.out _).mono ?_;rintro e w5 ⟨rfl,rfl⟩)|(go_at_call 129;refine(HSP1.out _).mono ?_;rintro e w5 ⟨rfl,rfl⟩)
   go_step3;exact⟨(bs.length-(k+1))+1,by omega,.inl ⟨rfl,rfl,rfl,rfl,rfl,k+1,h,odd,ds,out,rfl,rfl,rfl,hk1,by omega,kf ⟨HT3.out,by rw [HV.out,HV2.out],HT.out.2.2⟩⟩⟩
  have HGS:=kf (show z5u x=false from by simpa using hs);rw [HGS.out] at HSP1;clear hs;by_cases h62:x=62
  ·subst h62;have HV2:=kf (v4y (last:=last) (ds:=ds) (p:=k) (l:=bs.drop (k+1)));obtain⟨v,hv⟩:∃ v,z30 62=v:=⟨_,rfl⟩
   obtain⟨b,hb⟩:∃ b,(z3q 62).isSome=b:=⟨_,rfl⟩
   rw [hv,hb] at HDG1;clear hv hb;go_wp2_with first|(go_at_call 130;refine(HTA.out _ _ _ _ HT.out.1.1.here HX.out).mono ?_;rintro e w3 ⟨rfl,h3⟩;have HT3:=kf (HTR.out _ _ _ _ _ 0 _ _ HT.out.1 h3 HT.out.1.2.2);clear h3)|(go_at_call 169;refine(HDG1.out _).mono ?_;rintro e w5 ⟨rfl,rfl⟩)|(go_at_call 129;refine(HSP1.out _).mono ?_;rintro e w5 ⟨rfl,rfl⟩)
   go_step3;exact⟨0,by omega,.inr ⟨rfl,rfl,rfl,rfl,rfl,k+1,h,odd,ds,out,rfl,rfl,rfl,hk1,by omega,kf ⟨HT3.out,by rw [HV.out,HV2.out],HT.out.2.2⟩⟩⟩
  have e62:((x:Int)==62)=false:=by simp;omega
  cases hD:z3q x with
  |none =>
   have HV2:=kf (v50 (last:=last) (ds:=ds) (p:=k) (l:=bs.drop (k+1)) h62 HGS.out hD);have hv:z30 x=0:=by unfold z30;rw [hD];rfl
   rw [hv,hD] at HDG1;clear hv hD hv16;simp only [Option.isSome_none] at HDG1
   go_wp2_with first
    |(go_at_call 130;refine(HTA.out _ _ _ _ HT.out.1.1.here HX.out).mono ?_;rintro e w3 ⟨rfl,h3⟩;have HT3:=kf (HTR.out _ _ _ _ _ 0 _ _ HT.out.1 h3 HT.out.1.2.2);clear h3;obtain⟨r0,r1,r2,r3,z0,z1,z2,z3⟩:=HT3.out.2.1.cl4)
    |(go_at_call 169;refine(HDG1.out _).mono ?_;rintro e w5 ⟨rfl,rfl⟩)
    |(go_at_call 129;refine(HSP1.out _).mono ?_;rintro e w5 ⟨rfl,rfl⟩)
   simp only [z2a];refine bodyPost_ret (v:=.tuple #[.agg #[.int .i64 0,.int .i64 0,.string ⟨#[]⟩,.slice none 0 0],.int .i64 11]) (by simp [results,Tryz.results135,go_sem,r0,r1,r2,r3]) rfl ?_;refine⟨by rw [HV.out,HV2.out,y24 (by decide)],k+1,fun e=>absurd (by rw [HV.out,HV2.out] at e;exact e) (by decide),?_⟩;exact(HT3.out.1.re.set4 hgR hgW hgw _ _ _ _).back HKB.out
  |some d =>
   have HV2:=kf (v4z (last:=last) (ds:=ds) (p:=k) (l:=bs.drop (k+1)) h62 HGS.out hD);have hv:z30 x=d:=by unfold z30;rw [hD];rfl
   rw [hv,hD] at HDG1;rw [hv] at hv16;clear hv hD;simp only [Option.isSome_some] at HDG1;have hsh:((d:Int)*2 ^ 4%256)=((16*d:Nat):Int):=by omega
   have hsh2:((d:Int)*16%256)=((16*d:Nat):Int):=by omega
   cases odd
   ·have HN:=kf (HT.out.2.2.one hv16);go_wp2_with first|(go_at_call 130;refine(HTA.out _ _ _ _ HT.out.1.1.here HX.out).mono ?_;rintro e w3 ⟨rfl,h3⟩;have HT3:=kf (HTR.out _ _ _ _ _ 0 _ _ HT.out.1 h3 HT.out.1.2.2);clear h3)|(go_at_call 169;refine(HDG1.out _).mono ?_;rintro e w5 ⟨rfl,rfl⟩)|(go_at_call 129;refine(HSP1.out _).mono ?_;rintro e w5 ⟨rfl,rfl⟩)
    go_step3;exact⟨(bs.length-(k+1))+1,by omega,.inl ⟨rfl,rfl,rfl,rfl,rfl,k+1,16*d,true,ds++[d],out,rfl,by first|rfl|exact congrArg (Value.int .u8) (by simp;omega),rfl,hk1,by omega,kf ⟨HT3.out,by rw [HV.out,HV2.out],HN.out⟩⟩⟩
   ·have HN:=kf (fun h'=>HT.out.2.2.two (d:=d) (h':=h'));obtain⟨a,ha,ha2⟩:=HT.out.2.2.lt;have hor:=v77 ha ha2 hv16;have hy256:h+d<256:=by omega
    obtain⟨y,hy⟩:∃ y,y=h+d:=⟨_,rfl⟩
    rw [<- hy] at hor hy256 HN;clear hy ha ha2;go_wp2_with first|(go_at_call 130;refine(HTA.out _ _ _ _ HT.out.1.1.here HX.out).mono ?_;rintro e w3 ⟨rfl,h3⟩;have HT3:=kf (HTR.out _ _ _ _ _ 0 _ _ HT.out.1 h3 HT.out.1.2.2);clear h3)|(go_at_call 169;refine(HDG1.out _).mono ?_;rintro e w5 ⟨rfl,rfl⟩)|(go_at_call 129;refine(HSP1.out _).mono ?_;rintro e w5 ⟨rfl,rfl⟩)|(go_at_call 156;refine(HWB.out _ _ _ y HT3.out.1.here (by omega)).mono ?_;rintro e w4 ⟨rfl,h4⟩;have HT4:=kf (HTR.out _ _ _ _ _ 0 _ _ HT3.out h4 (z1e HT3.out.2.2 hy256));clear h4)
    go_step3;exact⟨(bs.length-(k+1))+1,by omega,.inl ⟨rfl,rfl,rfl,rfl,rfl,k+1,16*d,false,ds++[d],out++[y],rfl,by first|rfl|exact congrArg (Value.int .u8) (by simp;omega),rfl,hk1,by simp only [List.length_append,List.length_cons,List.length_nil];omega,kf ⟨HT4.out,by rw [HV.out,HV2.out],HN.out _⟩⟩⟩
theorem v5n {c:Nat}:∀ {m:List Nat},(z4c c m).2.2=false->(z4c c m)=(m,[],false):=by
 intro m;induction m with
 |nil=>intro _;rfl
 |cons x l ih =>
  intro h;rw [z4c] at h ⊢;by_cases hx:x=c
  ·rw [if_pos hx] at h;cases h
  ·rw [if_neg hx] at h ⊢;rw [ih h]
theorem z87 {c:Nat}:∀ {m:List Nat},c ∉ (z4c c m).1:=by
 intro m;induction m with
 |nil=>simp [z4c]
 |cons x l ih =>
  rw [z4c];by_cases hx:x=c
  ·rw [if_pos hx];simp
  ·rw [if_neg hx];simp only [List.mem_cons,not_or];exact⟨fun e=>hx e.symm,ih⟩
theorem v1v {c:Nat}:∀ {m:List Nat},(z4c c m).2.2=true->m=(z4c c m).1++c::(z4c c m).2.1:=by
 intro m;induction m with
 |nil=>intro h;cases h
 |cons x l ih =>
  intro h;rw [z4c] at h ⊢;by_cases hx:x=c
  ·rw [if_pos hx];rw [hx];rfl
  ·rw [if_neg hx] at h ⊢;rw [List.cons_append];exact congrArg (x::·) (ih h)
theorem z4r:∀ (a l:List Nat),35 ∉ a->nameF (a++l)=(nameF l).map (a++·)
 |[],l,_=>by cases h:nameF l<;>simp [h]
 |x::a,l,h=>by
  have hx:x≠35:=fun e=>h (by rw [e];exact List.mem_cons_self ..);have ih:=z4r a l (fun e=>h (List.mem_cons_of_mem _ e));have e:∀ r,nameF (x::r)=(nameF r).map (x::·):=fun r=>by rw [nameF.eq_def];simp [hx]
  rw [List.cons_append,e,ih];cases nameF l<;>rfl
theorem y1o {a:List Nat} (h:35 ∉ a):nameF a=some a:=by
 have:=z4r a [] h;rw [List.append_nil] at this;rw [this];simp [nameF]
def nmR (out m:List Nat):Int × List Nat:=match nameF m with
 |none=>(17,[])
 |some o=>if 0∈out++o\/127<(out++o).length then(17,[]) else(0,out++o)
theorem v4g (w:List Nat):nmR [] w=z5l w:=rfl
theorem v4h {out m:List Nat} (h:35 ∉ m) (h0:0 ∉ out) (h1:0 ∉ m):nmR out m=if 127<(out++m).length then(17,[]) else(0,out++m):=by
 have h2:¬0∈out++m:=fun e=>by rcases List.mem_append.1 e with e|e;exact h0 e;exact h1 e
 unfold nmR;rw [y1o h];simp only [];by_cases h3:127<(out++m).length
 ·rw [if_pos (.inr h3),if_pos h3]
 ·rw [if_neg (by rintro(e|e);exact h2 e;exact h3 e),if_neg h3]
def z98 (m:List Nat):Nat:=match m with
 |x::y::_=>16*z30 x+z30 y
 |_=>0
def z99 (m:List Nat):Bool:=match m with
 |x::y::_=>(z3q x).isSome&&((z3q y).isSome&&decide (16*z30 x+z30 y≠0))
 |_=>false
theorem v1w (m:List Nat):z98 m<256:=by
 rcases m with _|⟨x,_|⟨y,r⟩⟩
 ·decide
 ·exact Nat.zero_lt_succ _
 ·have h1:=z6x x;have h2:=z6x y;show 16*z30 x+z30 y<256;omega
theorem v4i {out a m:List Nat} (h:35 ∉ a) (hb:z99 m=false):nmR out (a++35::m)=(17,[]):=by
 unfold nmR;rw [z4r _ _ h];rcases m with _|⟨x,_|⟨y,r⟩⟩
 ·rfl
 ·rfl
 ·cases hx:z3q x with
  |none=>simp [nameF,hx]
  |some u =>
   cases hy:z3q y with
   |none=>simp [nameF,hx,hy]
   |some v =>
    have e1:z30 x=u:=by unfold z30;rw [hx];rfl
    have e2:z30 y=v:=by unfold z30;rw [hy];rfl
    simp only [z99,hx,hy,e1,e2,Option.isSome_some,Bool.true_and,decide_eq_false_iff_not,Decidable.not_not] at hb;cases hr:nameF r with
    |none=>simp [nameF,hx,hy,hr]
    |some o=>simp [nameF,hx,hy,hr,hb]
theorem v07 {out a m:List Nat} (h:35 ∉ a) (hb:z99 m=true):2<=m.length/\z98 m≠0/\nmR out (a++35::m)=nmR (out++a++[z98 m]) (m.drop 2):=by
 rcases m with _|⟨x,_|⟨y,r⟩⟩
 ·cases hb
 ·cases hb
 ·cases hx:z3q x with
  |none=>simp [z99,hx] at hb
  |some u =>
   cases hy:z3q y with
   |none=>simp [z99,hx,hy] at hb
   |some v =>
    have e1:z30 x=u:=by unfold z30;rw [hx];rfl
    have e2:z30 y=v:=by unfold z30;rw [hy];rfl
    simp only [z99,hx,hy,e1,e2,Option.isSome_some,Bool.true_and,decide_eq_true_eq] at hb;refine⟨by simp,by show 16*z30 x+z30 y≠0;rw [e1,e2];exact hb,?_⟩;unfold nmR;rw [z4r _ _ h];have e3:nameF (35::x::y::r)=(nameF r).map ((16*u+v)::·):=by simp [nameF,hx,hy]
    rw [e3,z98,e1,e2];simp only [List.drop_succ_cons,List.drop_zero];cases hr:nameF r with
    |none=>rfl
    |some o=>simp
theorem y6b (m:List Nat) (hb:∀ d∈m,d<256) (hl:m.length<=1000000) (w:World) :
  Calls Tryz.prog 172 #[.string (sb m)] w fun e w'=>e=.returned (.tuple #[.int .u8 (z98 m:Nat),.bool (z99 m)])/\w=w':=by
 have hs:(sb m).size=m.length:=z0k m;have hsl:=z8j m hb;rcases m with _|⟨x,_|⟨y,r⟩⟩
 ·obtain⟨t,ht⟩:∃ t,sb []=t:=⟨_,rfl⟩
  rw [ht] at hs ⊢;clear hsl ht;simp only [List.length_nil] at hs;go_enter Tryz.func172,Tryz.ntmps172;go_wp2_with fail;go_ret2;exact⟨rfl,rfl⟩
 ·obtain⟨t,ht⟩:∃ t,sb [x]=t:=⟨_,rfl⟩
  rw [ht] at hs ⊢;clear hsl ht;simp only [List.length_cons,List.length_nil] at hs;go_enter Tryz.func172,Tryz.ntmps172;go_wp2_with fail;go_ret2;exact⟨rfl,rfl⟩
 ·have hx0:x<256:=hb x (List.mem_cons_self ..);have hy0:y<256:=hb y (List.mem_cons_of_mem _ (List.mem_cons_self ..));obtain⟨t,ht⟩:∃ t,sb (x::y::r)=t:=⟨_,rfl⟩
  rw [ht] at hs hsl ⊢;have g0:∀ h:0<t.size,(t[0]'h).toNat=x:=fun h=>by rw [z9x,hsl];rfl
  have g1:∀ h:1<t.size,(t[1]'h).toNat=y:=fun h=>by rw [z9x,hsl];rfl
  obtain⟨N,hN⟩:∃ N,t.size=N:=⟨_,rfl⟩
  have hN2:2<=N:=by rw [<- hN,hs];simp
  have hN3:N<=1000000:=by rw [<- hN,hs];exact hl
  have HX:=kf (fun W=>z5c x hx0 W);have HY:=kf (fun W=>z5c y hy0 W);have hvx:=z6x x;have hvy:=z6x y;have HB:=kf (show z99 (x::y::r)=((z3q x).isSome&&((z3q y).isSome&&decide (16*z30 x+z30 y≠0))) from rfl);have HV:=kf (show z98 (x::y::r)=16*z30 x+z30 y from rfl);obtain⟨u,hu⟩:∃ u,z30 x=u:=⟨_,rfl⟩
  obtain⟨v,hv⟩:∃ v,z30 y=v:=⟨_,rfl⟩
  obtain⟨p,hp⟩:∃ p,(z3q x).isSome=p:=⟨_,rfl⟩
  obtain⟨q,hq⟩:∃ q,(z3q y).isSome=q:=⟨_,rfl⟩
  rw [hu,hp] at HX;rw [hv,hq] at HY;rw [hu,hv,hp,hq] at HB;rw [hu,hv] at HV;rw [hu] at hvx;rw [hv] at hvy;have hor:=v77 (h:=16*u) (a:=u) (d:=v) rfl hvx hvy;have hsh:((u:Int)*2 ^ 4%256)=((16*u:Nat):Int):=by omega
  have hsh2:((u:Int)*16%256)=((16*u:Nat):Int):=by omega
  obtain⟨z,hz⟩:∃ z,16*u+v=z:=⟨_,rfl⟩
  rw [hz] at hor HB HV;have hor2:bits BinOp.or IntKind.u8 ((u:Int)*16) (v:Int)=((z:Nat):Int):=by rw [show(u:Int)*16=((16*u:Nat):Int) by omega];exact hor
  clear hor hsh hsh2;clear hs hsl ht hb hl hu hv hp hq hz;by_cases hz0:z=0
  ·subst hz0;cases p<;>cases q
   all_goals
    go_enter Tryz.func172,Tryz.ntmps172;go_wp2_with first|(have hdn:=HDone.out;go_at_call 169;refine(HY.out _).mono ?_;rintro e w4 ⟨rfl,rfl⟩)|(go_at_call 169;refine(HX.out _).mono ?_;rintro e w3 ⟨rfl,rfl⟩;have HDone:=kf True.intro)
    go_ret2;exact⟨by rw [HB.out,HV.out];rfl,rfl⟩
  ·have e0:((z:Int) != 0)=true:=by simp;omega
   have e1:decide (z≠0)=true:=by simp;omega
   rw [e1] at HB;clear hz0 e1;cases p<;>cases q
   all_goals
    go_enter Tryz.func172,Tryz.ntmps172;go_wp2_with first|(have hdn:=HDone.out;go_at_call 169;refine(HY.out _).mono ?_;rintro e w4 ⟨rfl,rfl⟩)|(go_at_call 169;refine(HX.out _).mono ?_;rintro e w3 ⟨rfl,rfl⟩;have HDone:=kf True.intro)
    go_ret2;exact⟨by rw [HB.out,HV.out];rfl,rfl⟩
theorem TxR.call {V w X X':World} {A:Option Addr} {bs:List Nat} {c:Nat} {last:Bool} {R g p k deep:Nat} {out:List Nat} (h:TxR V w A bs c last R g p k deep out X) (hc:Chg NoS X X'):TxR V w A bs c last R g p k deep out X' :=
 ⟨h.1.call hc,h.2.1.chg hc (fun h=>h),h.2.2⟩
theorem y5r:∀ (l:List Nat),∀ d∈l.take (rgs l),y0h d=true
 |[],d,h=>by simp at h
 |x::l,d,h=>by
  rw [rgs] at h;by_cases hx:y0h x=true
  ·rw [if_pos hx,List.take_succ_cons] at h;rcases List.mem_cons.1 h with rfl|h
   ·exact hx
   ·exact y5r l d h
  ·rw [if_neg hx] at h;simp at h
def y8o (last:Bool) (p:Nat) (l:List Nat):Int × List Nat × Nat:=if z9e last l≠0 then(6,[],0) else((z5l (l.take (rgs l))).1,(z5l (l.take (rgs l))).2,p+rgs l)
theorem y2l (last:Bool) (l:List Nat):z9e last l=0\/z9e last l=6:=by
 unfold z9e;split
 ·exact .inr rfl
 ·exact .inl rfl
def NmJ (V w:World) (A:Option Addr) (bs:List Nat) (c:Nat) (last:Bool) (R g k:Nat) (ws:List Nat) (n:Nat) (x:Act) (w':World):Prop :=
 x.defers=[]/\x.tmps.size=57/\x.tmps.getD 0 undef=.pointer (some ⟨R,0,none⟩)/\x.tmps.getD 2 undef=.pointer (some ⟨g,0,none⟩)/\∃ (m out:List Nat),x.tmps.getD 4 undef=.string (sb m)/\n=m.length+1/\out.length+m.length<=500000 /\
  Hid (TxR V w A bs c last R g 0 k 0 out w'/\nmR [] ws=nmR out m/\0 ∉ out/\0 ∉ m/\∀ d∈m,d<256)
theorem y5j {x:Act} {v0 v2 v4:Value} {C:Act->Prop} (h1:x.defers=[]) (h2:x.tmps.size=57) (h3:x.tmps.getD 0 undef=v0) (h4:x.tmps.getD 2 undef=v2) (h5:x.tmps.getD 4 undef=v4)
  (k:∀ f:Nat->Value,C { tmps:=#[v0,f 1,v2,f 3,v4,f 5,f 6,f 7,f 8,f 9,f 10,f 11,f 12,f 13,f 14,f 15,f 16,f 17,f 18,f 19,f 20,f 21,f 22,f 23,f 24,f 25,f 26,f 27,f 28,f 29,f 30,f 31,f 32,f 33,f 34,f 35,f 36,f 37,f 38,f 39,f 40,f 41,f 42,f 43,f 44,f 45,f 46,f 47,f 48,f 49,f 50,f 51,f 52,f 53,f 54,f 55,f 56],defers:=[] }):C x:=by
 obtain⟨t,d⟩:=x;simp only at h1 h2 h3 h4 h5;subst h1;have h6:=k (fun i=>t.getD i undef);rw [<- h3,<- h4,<- h5] at h6;rw [z2s t 57 h2];exact h6
theorem y6a {V w W:World} {A:Option Addr} {bs:List Nat} {c R p:Nat} {last:Bool} (h:RD V w W A bs.length c last R p []) (hS:Src w 1 A bs.length c (z09 bs)) (hl:bs.length<=500000) (hc:bs.length<=c) (hp:p<=bs.length) (hb:∀ d∈bs,d<256) (hn0:0<bs.length) :
  Calls Tryz.prog 137 #[.pointer (some ⟨R,0,none⟩)] W (PTo V w R 5 (y8o last p (bs.drop p))):=by
 have HRU:=kf (fun X (hX:RD X w X A bs.length c last R p [])=>y2r hX hS hl hc hp hn0);have HWB:=kf (fun X out k y (hX:RD X w X A bs.length c last R k out) (ho:out.length<=1000000)=>z5a hX y ho);have HWS:=kf (fun X out k m (hX:RD X w X A bs.length c last R k out) (hm:∀ d∈m,d<256) (ho:out.length<=1000000) (ho2:m.length<=1000000)=>y62 hX m hm ho ho2);have HLE:=kf (fun X out k (hX:RD X w X A bs.length c last R k out)=>y9w hX);have HBU:=kf (fun X out k (hX:RD X w X A bs.length c last R k out) (ho:∀ d∈out,d<256) (hm:out.length<=1000000)=>z5d hX ho hm 5);have HCT:=kf (fun m (hm:∀ d∈m,d<256) (ho:m.length<=1000000) X=>y3i 35 m hm ho X);have HCO:=kf (fun m (hm:∀ d∈m,d<256) (ho:m.length<=1000000) X=>y6b m hm ho X);have HKB:=kf h.kb;have HR0:=kf h.here;have hRW:=h.lt;have hwW:=h.chg.size;obtain⟨g,hg⟩:∃ g,g=W.heap.size:=⟨_,rfl⟩
 have HG:=kf hg;have hgR:g≠R:=by omega
 have hgW:W.heap.size<=g:=by omega
 have hgw:w.heap.size<=g:=by omega
 obtain⟨l,hl0⟩:∃ l,l=bs.drop p:=⟨_,rfl⟩
 have hll:l.length<=500000:=by rw [hl0,List.length_drop];omega
 have hlb:∀ d∈l,d<256:=fun d hd=>hb d (by rw [hl0] at hd;exact List.mem_of_mem_drop hd);obtain⟨ws,hws⟩:∃ ws,ws=l.take (rgs l):=⟨_,rfl⟩
 have hwl:ws.length<=500000:=by rw [hws,List.length_take];omega
 have HWB2:=kf (show ∀ d∈ws,d<256 from fun d hd=>hlb d (by rw [hws] at hd;exact List.mem_of_mem_take hd));have HW0:=kf (show 0 ∉ ws from fun hd=>by rw [hws] at hd;exact absurd (y5r l 0 hd) (by decide));obtain⟨L,hL⟩:∃ L,L=p+rgs l:=⟨_,rfl⟩
 have HTO:=kf (show y8o last p l=if z9e last l≠0 then(6,[],0) else((z5l ws).1,(z5l ws).2,L) from by unfold y8o;rw [hws,hL]);rw [<- hl0] at HRU ⊢;rw [<- hws,<- hL] at HRU;have HTR:=kf (fun(X X':World) (k k' deep deep':Nat) (out out':List Nat) (h:TxR W w A bs c last R g 0 k deep out X) (h':RD X w X' A bs.length c last R k' out') (hb:∀ d∈out',d<256)=>TxR.step (deep':=deep') h h' hgR hb);have HT0:=kf (show TxR W w A bs c last R g 0 p 0 [] (W.alloc (.cells #[.int .i64 0,.int .i64 0,.string ⟨#[]⟩,.slice none 0 0] 24)) from⟨HR0.out.alloc _,by rw [HG.out];exact Blk.new _ _ _,fun d hd=>by cases hd⟩);clear h hS hb hc hg hwW hRW hl0 hll hlb hws hL hl hp hn0;rcases y2l last l with hE|hE
 case inr =>
  rw [hE] at HRU HTO;clear hE;obtain⟨t,ht⟩:∃ t,sb ws=t:=⟨_,rfl⟩
  rw [ht] at HRU;clear ht;go_enter Tryz.func137,Tryz.ntmps137;go_wp2;go_step3;go_wp2_with (go_at_call 170;refine(HRU.out _ HT0.out.1.here).mono ?_;rintro e w3 ⟨rfl,h3⟩;have HT3:=kf (HTR.out _ _ _ _ _ 0 _ _ HT0.out h3 HT0.out.2.2);clear h3;obtain⟨r0,r1,r2,r3,z0,z1,z2,z3⟩:=HT3.out.2.1.cl4;rw [HG.out] at r0 r1 r2 r3 z0 z1 z2 z3);all_goals (try simp only [Exit.noGoto_ret])
  refine bodyPost_ret (v:=.tuple #[.agg #[.int .i64 0,.int .i64 0,.string ⟨#[]⟩,.slice none 0 0],.int .i64 6]) (by simp [results,Tryz.results137,go_sem,r0,r1,r2,r3]) rfl ?_;have HTO6:=kf (HTO.out.trans (if_pos (show(6:Int)≠0 by decide)));refine⟨by rw [HTO6.out];rfl,L,fun e=>absurd (by rw [HTO6.out] at e;exact e) (show ¬(6:Int)=0 by decide),?_⟩;exact(HT3.out.1.re.set4 (by have h9:=HG.out;omega) (Nat.le_refl _) (by have h9:=HG.out;omega) _ _ _ _).back HKB.out
 rw [hE] at HRU HTO;clear hE;have HTOK:=kf (show y8o last p l=((nmR [] ws).1,(nmR [] ws).2,L) from by rw [HTO.out,if_neg (fun h9=>h9 rfl),v4g]);go_enter Tryz.func137,Tryz.ntmps137;go_wp2;refine z9i (NmJ W w A bs c last R g L ws) rfl ?pass0 ?first
 case first =>
  intro hpass;have HPass:=kf hpass;clear hpass;obtain⟨t,ht⟩:∃ t,sb ws=t:=⟨_,rfl⟩
  have HTS:=kf ht;rw [ht] at HRU;clear ht
  ·go_wp2_with (go_at_call 170;refine(HRU.out _ HT0.out.1.here).mono ?_;rintro e w3 ⟨rfl,h3⟩;have HT3:=kf (HTR.out _ _ _ _ _ 0 _ _ HT0.out h3 HT0.out.2.2);clear h3);go_step3;rename_i hK;refine hK _ _ (HPass.out _ _ _ ⟨rfl,rfl,rfl,by rw [HG.out];rfl,ws,[],by rw [HTS.out];rfl,rfl,by simpa using hwl,kf ⟨HT3.out,rfl,by simp,HW0.out,HWB2.out⟩⟩)
 case pass0 =>
  intro n x w1 hx;obtain⟨h1,h2,h3,h4,m,out,h5,rfl,hm,HT⟩:=hx;refine y5j h1 h2 h3 h4 h5 (C:=fun y=>Code.wp _ _ _ y w1) ?_;intro f;clear h1 h2 h3 h4 h5;have HX:=kf HT.out.2;have HT1:=kf HT.out.1;have HCT1:=kf (HCT.out m HX.out.2.2.2 (by omega));rw [show(35:UInt8).toNat=35 from rfl] at HCT1;obtain⟨t,ht⟩:∃ t,sb m=t:=⟨_,rfl⟩
  rw [ht] at HCT1 ⊢;clear ht HT HCT;cases hf:(z4c 35 m).2.2 with
  |false =>
   have hcb:=v5n hf;have hnm:=z87 (c:=35) (m:=m);rw [hcb] at HCT1 hnm;simp only at HCT1 hnm;have HTO1:=kf (show nmR [] ws=if 127<(out++m).length then(17,[]) else(0,out++m) from by rw [HX.out.1,v4h hnm HX.out.2.1 HX.out.2.2.1]);have HWS1:=kf (fun X hX=>HWS.out X out L m hX HX.out.2.2.2 (by omega) (by omega));obtain⟨t1,ht1⟩:∃ t1,sb m=t1:=⟨_,rfl⟩
   rw [ht1] at HCT1 HWS1;obtain⟨N,hN⟩:∃ N,(out++m).length=N:=⟨_,rfl⟩
   have hN2:N<=500000:=by rw [<- hN,List.length_append];exact hm
   have HLE1:=kf (fun X hX=>HLE.out X (out++m) L hX);have HNN:=kf hN;rw [hN] at HLE1 HTO1;have HMB:=kf (show ∀ d∈out++m,d<256 from fun d hd=>by rcases List.mem_append.1 hd with h9|h9;exact HT1.out.2.2 d h9;exact HX.out.2.2.2 d h9);clear hf hcb hnm ht1 hN;by_cases h127:127<N
   ·have HTO2:=kf (HTO1.out.trans (if_pos h127));have d1:decide ((127:Int)<N)=true:=by simp;omega
    go_wp2_with first
     |(go_at_call 171;refine(HCT1.out _).mono ?_;rintro e w2 ⟨rfl,hc2⟩;have HT2:=kf (HT1.out.call hc2);clear hc2)
     |(go_at_call 113;refine(HWS1.out _ HT2.out.1.here).mono ?_;rintro e w3 ⟨rfl,h3⟩;have HT3:=kf (HTR.out _ _ _ _ _ 0 _ _ HT2.out h3 HMB.out);clear h3;obtain⟨r0,r1,r2,r3,z0,z1,z2,z3⟩:=HT3.out.2.1.cl4)
     |(go_at_call 173;refine(HLE1.out _ HT3.out.1.here).mono ?_;rintro e w4 ⟨rfl,rfl⟩)
    all_goals (try simp only [z2a])
    refine bodyPost_ret (v:=.tuple #[.agg #[.int .i64 0,.int .i64 0,.string ⟨#[]⟩,.slice none 0 0],.int .i64 17]) (by simp [results,Tryz.results137,go_sem,r0,r1,r2,r3]) rfl ?_;refine⟨by rw [HTOK.out,HTO2.out];rfl,L,fun e=>absurd (by rw [HTOK.out,HTO2.out] at e;exact e) (show ¬(17:Int)=0 by decide),?_⟩;exact(HT3.out.1.re.set4 hgR hgW hgw _ _ _ _).back HKB.out
   ·have HTO2:=kf (HTO1.out.trans (if_neg h127));have d1:decide ((127:Int)<N)=false:=by simp;omega
    have HBU1:=kf (fun X hX=>HBU.out X (out++m) L hX HMB.out (by rw [HNN.out];omega));obtain⟨u,hu⟩:∃ u,sb (out++m)=u:=⟨_,rfl⟩
    have HU:=kf hu;rw [hu] at HBU1;clear hu
    go_wp2_with first
     |(go_at_call 171;refine(HCT1.out _).mono ?_;rintro e w2 ⟨rfl,hc2⟩;have HT2:=kf (HT1.out.call hc2);clear hc2)
     |(go_at_call 113;refine(HWS1.out _ HT2.out.1.here).mono ?_;rintro e w3 ⟨rfl,h3⟩;have HT3:=kf (HTR.out _ _ _ _ _ 0 _ _ HT2.out h3 HMB.out);clear h3)
     |(go_at_call 173;refine(HLE1.out _ HT3.out.1.here).mono ?_;rintro e w4 ⟨rfl,rfl⟩)
     |(go_at_call 166;refine(HBU1.out _ HT3.out.1.here).mono ?_;rintro e w5 ⟨rfl,h5⟩;obtain⟨r0,r1,r2,r3,z0,z1,z2,z3⟩:=(h5.kb _ _ _ hgR (by decide) HT3.out.2.1).cl4;have HRE:=kf (h5.back HT3.out.1.kb);clear h5)
    all_goals (try simp only [z2a])
    refine bodyPost_ret (v:=.tuple #[.agg #[.int .i64 5,.int .i64 0,.string u,.slice none 0 0],.int .i64 0]) (by simp [results,Tryz.results137,go_sem,r0,r1,r2,r3]) rfl ?_;refine⟨by rw [HTOK.out,HTO2.out,<- HU.out];rfl,L,fun e=>by rw [HTOK.out],?_⟩;exact(HRE.out.set4 hgR hgW hgw _ _ _ _).back HKB.out
  |true =>
   have hcb:=v1v hf;have hnm:=z87 (c:=35) (m:=m);rw [hf] at HCT1;obtain⟨a,ha⟩:∃ a,(z4c 35 m).1=a:=⟨_,rfl⟩
   obtain⟨d,hd⟩:∃ d,(z4c 35 m).2.1=d:=⟨_,rfl⟩
   rw [ha,hd] at HCT1 hcb;rw [ha] at hnm;have hml:m.length=a.length+(d.length+1):=by rw [hcb,List.length_append,List.length_cons]
   have hab:∀ y∈a,y<256:=fun y hy=>HX.out.2.2.2 y (by rw [hcb];exact List.mem_append.2 (.inl hy));have hdb:∀ y∈d,y<256:=fun y hy=>HX.out.2.2.2 y (by rw [hcb];exact List.mem_append.2 (.inr (List.mem_cons_of_mem _ hy)));have ha0:0 ∉ a:=fun hy=>HX.out.2.2.1 (by rw [hcb];exact List.mem_append.2 (.inl hy));have hd0:0 ∉ d:=fun hy=>HX.out.2.2.1 (by rw [hcb];exact List.mem_append.2 (.inr (List.mem_cons_of_mem _ hy)));have HWS1:=kf (fun X hX=>HWS.out X out L a hX hab (by omega) (by omega));have HCO1:=kf (fun X=>HCO.out d hdb (by omega) X);have HOB:=kf (show ∀ y∈out++a,y<256 from fun y hy=>by rcases List.mem_append.1 hy with h9|h9;exact HT1.out.2.2 y h9;exact hab y h9);have HDB:=kf hdb;have HML:=kf hml;have hol:(out++a).length=out.length+a.length:=List.length_append;have HWBo:=kf (fun X y hX=>HWB.out X (out++a) L y hX (by omega));have HOL:=kf hol;obtain⟨u,hu⟩:∃ u,sb a=u:=⟨_,rfl⟩
   have hsd:=z0k d;have hdrop:=y0u (l:=d) 2 d.length rfl;obtain⟨v,hv⟩:∃ v,sb d=v:=⟨_,rfl⟩
   rw [hu,hv] at HCT1;rw [hu] at HWS1;rw [hv] at HCO1 hsd hdrop;have HC0:=kf hcb;have hm3:out.length+a.length+d.length+1<=500000:=by omega
   cases hcB:z99 d with
   |false =>
    have HTO2:=kf (show nmR [] ws=(17,[]) from by rw [HX.out.1,HC0.out,v4i hnm hcB]);rw [hcB] at HCO1;obtain⟨y,hy⟩:∃ y,z98 d=y:=⟨_,rfl⟩
    rw [hy] at HCO1;clear hcb hnm ha hd hml hab hdb ha0 hd0 hu hv hf hol hsd hdrop hcB hy
    go_wp2_with first
     |(go_at_call 171;refine(HCT1.out _).mono ?_;rintro e w2 ⟨rfl,hc2⟩;have HT2:=kf (HT1.out.call hc2);clear hc2)
     |(go_at_call 113;refine(HWS1.out _ HT2.out.1.here).mono ?_;rintro e w3 ⟨rfl,h3⟩;have HT3:=kf (HTR.out _ _ _ _ _ 0 _ _ HT2.out h3 HOB.out);clear h3;obtain⟨r0,r1,r2,r3,z0,z1,z2,z3⟩:=HT3.out.2.1.cl4)
     |(go_at_call 172;refine(HCO1.out _).mono ?_;rintro e w4 ⟨rfl,rfl⟩)
    all_goals (try simp only [z2a])
    refine bodyPost_ret (v:=.tuple #[.agg #[.int .i64 0,.int .i64 0,.string ⟨#[]⟩,.slice none 0 0],.int .i64 17]) (by simp [results,Tryz.results137,go_sem,r0,r1,r2,r3]) rfl ?_;refine⟨by rw [HTOK.out,HTO2.out];rfl,L,fun e=>absurd (by rw [HTOK.out,HTO2.out] at e;exact e) (show ¬(17:Int)=0 by decide),?_⟩;exact(HT3.out.1.re.set4 hgR hgW hgw _ _ _ _).back HKB.out
   |true =>
    obtain⟨k2,k0,kE⟩:=v07 (out:=out) hnm hcB;have HTO2:=kf (show nmR [] ws=nmR (out++a++[z98 d]) (d.drop 2) from by rw [HX.out.1,HC0.out,kE]);rw [hcB] at HCO1;have hy256:=v1w d;obtain⟨y,hy⟩:∃ y,z98 d=y:=⟨_,rfl⟩
    rw [hy] at HCO1 hy256 k0 HTO2
    have HN0:=kf (show 0 ∉ out++a++[y] from fun h9=>by
     rcases List.mem_append.1 h9 with h9|h9
     ·rcases List.mem_append.1 h9 with h9|h9
      ·exact HX.out.2.1 h9
      ·exact ha0 h9
     ·exact k0 (List.mem_singleton.1 h9).symm)
    have HD0:=kf (show 0 ∉ d.drop 2 from fun h9=>hd0 (List.mem_of_mem_drop h9));have HDB2:=kf (show ∀ z∈d.drop 2,z<256 from fun z hz=>HDB.out z (List.mem_of_mem_drop hz));obtain⟨b,hb2⟩:∃ b,sb (d.drop 2)=b:=⟨_,rfl⟩
    rw [hb2] at hdrop;have HB2:=kf hb2;obtain⟨D,hD⟩:∃ D,d.length=D:=⟨_,rfl⟩
    have HDL:=kf hD;have HD2:=kf (show(d.drop 2).length=D-2 from by rw [List.length_drop,hD]);have HMM:=kf (show m.length=a.length+(D+1) from by rw [hml,hD]);rw [hD] at hsd hdrop k2 hm3;have i2:(2:Int)<=D:=by omega
    clear hcb hnm ha hd hml hab hdb ha0 hd0 hu hv hf hol hcB hy k0 kE hb2 hD
    go_wp2_with first
     |(go_at_call 171;refine(HCT1.out _).mono ?_;rintro e w2 ⟨rfl,hc2⟩;have HT2:=kf (HT1.out.call hc2);clear hc2)
     |(go_at_call 113;refine(HWS1.out _ HT2.out.1.here).mono ?_;rintro e w3 ⟨rfl,h3⟩;have HT3:=kf (HTR.out _ _ _ _ _ 0 _ _ HT2.out h3 HOB.out);clear h3)
     |(go_at_call 172;refine(HCO1.out _).mono ?_;rintro e w4 ⟨rfl,rfl⟩)
     |(go_at_call 156;refine(HWBo.out _ y HT3.out.1.here).mono ?_;rintro e w5 ⟨rfl,h5⟩;have HT5:=kf (HTR.out _ _ _ _ _ 0 _ _ HT3.out h5 (z1e HOB.out hy256));clear h5)
    go_step3;exact⟨(d.drop 2).length+1,by rw [HMM.out,HD2.out];omega,rfl,rfl,rfl,rfl,rfl,d.drop 2,out++a++[y],by rw [HB2.out];rfl,rfl,by rw [HD2.out,List.length_append,HOL.out];simp only [List.length_cons,List.length_nil];omega,kf ⟨HT5.out,HTO2.out,HN0.out,HD0.out,HDB2.out⟩⟩
end Go.Proofs.YtmibnkddappgiaaGreatDoor
