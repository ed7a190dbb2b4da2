/- Merged by program. -/
import Derived.Test.YtcehpobjnbgpdaaGreatDoorC15
import Derived.Deep.RegionHeld3
set_option linter.unusedVariables false
set_option linter.unusedSimpArgs false
namespace Go.Proofs.YtcehpobjnbgpdaaGreatDoor
open Go.RowKit
theorem TxR.step {V w X X':World} {A:Option Addr} {bs:List Nat} {c:Nat} {last:Bool} {R g p k deep k' deep':Nat} {out out':List Nat} (h:TxR V w A bs c last R g p k deep out X) (h':RD X w X' A bs.length c last R k' out') (hg:g≠R) (hb:∀ d∈out',d<256):TxR V w A bs c last R g p k' deep' out' X' :=
 ⟨h'.base (h.1.kb.trans h'.kb),h'.kb _ _ _ hg (by decide) h.2.1,hb⟩
theorem mem_snoc {out:List Nat} {x:Nat} (h:∀ d∈out,d<256) (hx:x<256):∀ d∈out++[x],d<256:=by
 intro d hd
 rcases List.mem_append.1 hd with h1|h1
 ·exact h d h1
 ·rw [List.mem_singleton.1 h1];exact hx
theorem TkV_err {kind:Nat} {er:Int} {l:List Nat} (h:er≠0):TkV kind (er,l)=.tuple #[.agg #[.int .i64 0,.int .i64 0,.string ⟨#[]⟩,.slice none 0 0],.int .i64 er]:=by
 unfold TkV
 rw [if_neg h]
set_option maxHeartbeats 8000000 in
set_option maxRecDepth 100000 in
theorem ptext_any {V w W:World} {A:Option Addr} {bs:List Nat} {c R p:Nat} {last:Bool} (h:RD V w W A bs.length c last R p []) (hS:Src w 1 A bs.length c (lcells bs)) (hl:bs.length<=500000) (hc:bs.length<=c) (hp:p<=bs.length) (hb:∀ d∈bs,d<256) :
  Calls Tryz.prog 100 #[.pointer (some ⟨R,0,none⟩)] W (PTo V w R 4 (txtO last 1 [] p (bs.drop p))):=by
 have hl6:bs.length<=1000000:=by omega
 have HTE:=kf (fun X out (hX:RD X w X A bs.length c last R bs.length out)=>ptake_end hX)
 have HTA:=kf (fun X out k x (hX:RD X w X A bs.length c last R k out) (hx:bs[k]?=some x)=>ptake_at hX hS hl6 hc hx)
 have HPE:=kf (fun X out (hX:RD X w X A bs.length c last R bs.length out)=>ppass_end hX 10)
 have HPN:=kf (fun X out k x (hX:RD X w X A bs.length c last R k out) (hx:bs[k]?=some x) (hy:x≠10)=>ppass_no hX hS hl6 hc hx 10 hy)
 have HPA:=kf (fun X out k (hX:RD X w X A bs.length c last R k out) (hx:bs[k]?=some 10)=>ppass_at hX hS hl6 hc hx)
 have HWB:=kf (fun X out k y (hX:RD X w X A bs.length c last R k out) (ho:out.length<=1000000)=>pwbyte_any hX y ho)
 have HOC:=kf (fun X out k y (hX:RD X w X A bs.length c last R k out) (hk:k<=bs.length) (hy:y<8)=>poctal_any hX hS hl6 hc hk hb y hy)
 have HCU:=kf (fun X out k (hX:RD X w X A bs.length c last R k out)=>pcut_any hX 10)
 have HBU:=kf (fun X out k (hX:RD X w X A bs.length c last R k out) (ho:∀ d∈out,d<256) (hm:out.length<=1000000)=>pbuilt_any hX ho hm 4)
 have HME:=kf (fun y X=>pmeant_any y X)
 have HB:=kf hb
 have HKB:=kf h.kb
 have HR0:=kf h.here
 have hRW:=h.lt
 have hwW:=h.chg.size
 obtain⟨g,hg⟩:∃ g,g=W.heap.size:=⟨_,rfl⟩
 have HG:=kf hg
 have hgR:g≠R:=by omega
 have hgW:W.heap.size<=g:=by omega
 have hgw:w.heap.size<=g:=by omega
 have HTR:=kf (fun(X X':World) (k k' deep deep':Nat) (out out':List Nat) (h:TxR W w A bs c last R g p k deep out X) (h':RD X w X' A bs.length c last R k' out') (hb:∀ d∈out',d<256)=>TxR.step (deep':=deep') h h' hgR hb)
 have HL6:=kf hl6
 clear h hS hb hc hl6 hg hwW hRW
 go_enter Tryz.func100,Tryz.ntmps100
 go_wp2
 refine wp_scope3 (TxJ0 W w A bs c last R g p) (TxJ1 W w A bs c last R g p) (TxJ2 W w A bs c last R g p) rfl rfl rfl ?pass0 ?pass1 ?pass2 ?first
 case first =>
  intro hpass
  have HPass:=kf hpass
  clear hpass
  go_wp2
  go_step3
  rename_i hK
  refine hK _ _ (HPass.out _ _ _ ⟨rfl,rfl,rfl,by rw [HG.out];rfl,p,1,[],rfl,rfl,hp,Nat.le_refl _,by omega,Nat.zero_le _,kf ⟨⟨HR0.out.call ((Chg.refl NoS W).alloc _),by rw [HG.out];exact Blk.new _ _ _,fun d hd=>by cases hd⟩,rfl⟩⟩)
 case pass1 =>
  intro n x w1 hx
  obtain⟨h1,h2,h3,h4,k,deep,out,rfl,HT⟩:=hx
  refine slots_80 h1 h2 h3 h4 (C:=fun y=>Code.wp _ _ _ y w1) ?_
  intro f _
  obtain⟨r0,r1,r2,r3,z0,z1,z2,z3⟩:=HT.out.1.2.1.cl4
  have HRD:=kf HT.out.1.1
  have HV:=kf HT.out.2
  clear h1 h2 h3 h4 HT
  have hec:(if last then(10:Int) else 6)=cutE last:=rfl
  have hne:=cutE_ne last
  obtain⟨er,her⟩:∃ er,er=cutE last:=⟨_,rfl⟩
  have HCU1:=kf (HCU.out w1 _ _ HRD.out.here)
  rw [hec,<- her] at HCU1
  rw [<- her] at HV hne
  have HNE:=kf hne
  clear hec her hne
  go_wp2_with (go_at_call 98;refine HCU1.out.mono ?_;rintro e w3 ⟨rfl,rfl⟩)
  simp only [hops]
  refine bodyPost_ret (v:=.tuple #[.agg #[.int .i64 0,.int .i64 0,.string ⟨#[]⟩,.slice none 0 0],.int .i64 er]) (by simp [results,Tryz.results100,go_sem,r0,r1,r2,r3]) rfl ?_
  refine⟨by rw [HV.out,TkV_err HNE.out],k,fun e=>absurd (by rw [HV.out] at e;exact e) HNE.out,?_⟩
  exact(HRD.out.re.set4 hgR hgW hgw _ _ _ _).back HKB.out
 case pass0 =>
  intro n x w1 hx
  obtain⟨h1,h2,h3,h4,k,deep,out,h5,rfl,hk,hd1,hd2,hm,HT⟩:=hx
  refine slots_80 h1 h2 h3 h4 (C:=fun y=>Code.wp _ _ _ y w1) ?_
  intro f hf
  rw [h5] at hf
  simp only [hf]
  clear h1 h2 h3 h4 h5 hf
  by_cases hkn:k=bs.length
  ·subst hkn
   have HV:=kf (show txtO last 1 [] p (bs.drop p)=(cutE last,[],0) from by rw [HT.out.2,List.drop_of_length_le (Nat.le_refl _),txtO_nil])
   go_wp2_with (go_at_call 97;refine(HTE.out _ _ HT.out.1.1.here).mono ?_;rintro e w3 ⟨rfl,h3⟩;have HT3:=kf (HTR.out _ _ _ _ _ deep _ _ HT.out.1 h3 HT.out.1.2.2);clear h3)
   go_step3
   exact⟨0,by omega,.inr (.inl ⟨rfl,rfl,rfl,rfl,rfl,_,deep,_,rfl,kf ⟨HT3.out,HV.out⟩⟩)⟩
  obtain⟨x,hx,hd⟩:=drop_at (bs:=bs) (k:=k) (by omega)
  have hx256:=HB.out x (List.mem_of_getElem? hx)
  have HX:=kf hx
  have HV:=kf (show txtO last 1 [] p (bs.drop p)=txtO last deep out k (x::bs.drop (k+1)) from by rw [HT.out.2,hd])
  have HLX:=kf (show(bs.drop (k+1)).length=bs.length-(k+1) from List.length_drop)
  have hk1:k+1<=bs.length:=by omega
  clear hx hd
  by_cases h92:x=92
  ·subst h92
   go_wp2_with (go_at_call 97;refine(HTA.out _ _ _ _ HT.out.1.1.here HX.out).mono ?_;rintro e w3 ⟨rfl,h3⟩;have HT3:=kf (HTR.out _ _ _ _ _ deep _ _ HT.out.1 h3 HT.out.1.2.2);clear h3)
   go_step3
   exact⟨2*(bs.length-(k+1))+2,by omega,.inr (.inr ⟨rfl,rfl,rfl,rfl,rfl,k,deep,out,rfl,rfl,hk1,hd1,hd2,hm,kf ⟨HT3.out,HV.out⟩⟩)⟩
  have e92:((x:Int)==92)=false:=by simp;omega
  by_cases h40:x=40
  ·subst h40
   have d0:((deep:Int)+1==0)=false:=by simp;omega
   clear h92 e92
   go_wp2_with first|(go_at_call 97;refine(HTA.out _ _ _ _ HT.out.1.1.here HX.out).mono ?_;rintro e w3 ⟨rfl,h3⟩;have HT3:=kf (HTR.out _ _ _ _ _ deep _ _ HT.out.1 h3 HT.out.1.2.2);clear h3)|(go_at_call 86;refine(HWB.out _ _ _ 40 HT3.out.1.here (by omega)).mono ?_;rintro e w4 ⟨rfl,h4⟩;have HT4:=kf (HTR.out _ _ _ _ _ (deep+1) _ _ HT3.out h4 (mem_snoc HT3.out.2.2 (by decide)));clear h4)
   go_step3
   refine⟨2*(bs.length-(k+1))+1,by omega,.inl ⟨rfl,rfl,rfl,rfl,rfl,k+1,deep+1,out++[40],rfl,rfl,by omega,by omega,by omega,by(try simp only [List.length_append,List.length_cons,List.length_nil]);omega,kf ⟨HT4.out,by rw [HV.out,txt_40]⟩⟩⟩
  have e40:((x:Int)==40)=false:=by simp;omega
  by_cases h41:x=41
  ·subst h41
   clear h92 e92 h40 e40
   by_cases hd:deep=1
   ·subst hd
    have HE:=kf (txt_41e (last:=last) (deep:=1) (k:=k) (out:=out) (l:=bs.drop (k+1)) rfl)
    go_upto_region 14 with(go_at_call 97;refine(HTA.out _ _ _ _ HT.out.1.1.here HX.out).mono ?_;rintro e w3 ⟨rfl,h3⟩;have HT3:=kf (HTR.out _ _ _ _ _ 1 _ _ HT.out.1 h3 HT.out.1.2.2);clear h3)
    have hKB3:=HT3.out.1.here
    go_upto_region 24 with(go_at_call 124;refine(HBU.out _ _ _ HT3.out.1.here HT3.out.2.2 (by omega)).mono ?_;rintro e w4 ⟨rfl,h4⟩;obtain⟨r0,r1,r2,r3,z0,z1,z2,z3⟩:=(h4.kb _ _ _ hgR (by decide) HT3.out.2.1).cl4;have HRE:=kf (h4.back HT3.out.1.kb);clear h4)
    simp only [hops]
    refine bodyPost_ret (v:=.tuple #[.agg #[.int .i64 4,.int .i64 0,.string (sb out),.slice none 0 0],.int .i64 0]) (by simp [results,Tryz.results100,go_sem,r0,r1,r2,r3]) rfl ?_
    refine⟨by rw [HV.out,HE.out];rfl,k+1,fun e=>by rw [HV.out,HE.out],?_⟩
    exact(HRE.out.set4 hgR hgW hgw _ _ _ _).back HKB.out
   ·have d0:((deep:Int)-1==0)=false:=by simp;omega
    have d1:(0:Int)<=(deep:Int)-1:=by omega
    go_wp2_with first|(go_at_call 97;refine(HTA.out _ _ _ _ HT.out.1.1.here HX.out).mono ?_;rintro e w3 ⟨rfl,h3⟩;have HT3:=kf (HTR.out _ _ _ _ _ deep _ _ HT.out.1 h3 HT.out.1.2.2);clear h3)|(go_at_call 86;refine(HWB.out _ _ _ 41 HT3.out.1.here (by omega)).mono ?_;rintro e w4 ⟨rfl,h4⟩;have HT4:=kf (HTR.out _ _ _ _ _ (deep-1) _ _ HT3.out h4 (mem_snoc HT3.out.2.2 (by decide)));clear h4)
    go_step3
    refine⟨2*(bs.length-(k+1))+1,by omega,.inl ⟨rfl,rfl,rfl,rfl,rfl,k+1,deep-1,out++[41],congrArg (Value.int .i64) (by omega),rfl,by omega,by omega,by omega,by(try simp only [List.length_append,List.length_cons,List.length_nil]);omega,kf ⟨HT4.out,by rw [HV.out,txt_41 hd]⟩⟩⟩
  have e41:((x:Int)==41)=false:=by simp;omega
  have d0:((deep:Int)==0)=false:=by simp;omega
  by_cases h13:x=13
  ·subst h13
   clear h92 e92 h40 e40 h41 e41
   by_cases hkz:k+1=bs.length
   ·have HZ:=kf (show bs.drop (k+1)=[] from List.drop_of_length_le (by omega))
    have HT3E:=kf (fun X out (hX:RD X w X A bs.length c last R (k+1) out)=>HPE.out X out (by rw [<- hkz];rw [<- hkz] at hX;exact hX))
    go_wp2_with first|(go_at_call 101;refine(HT3E.out _ _ HT3.out.1.here).mono ?_;rintro e w5 ⟨rfl,h5⟩;have HT5:=kf (HTR.out _ _ _ _ _ deep _ _ HT3.out (by rw [<- hkz];rw [<- hkz] at h5;exact h5) HT3.out.2.2);clear h5)|(go_at_call 97;refine(HTA.out _ _ _ _ HT.out.1.1.here HX.out).mono ?_;rintro e w3 ⟨rfl,h3⟩;have HT3:=kf (HTR.out _ _ _ _ _ deep _ _ HT.out.1 h3 HT.out.1.2.2);clear h3)|(go_at_call 86;refine(HWB.out _ _ _ 10 HT5.out.1.here (by omega)).mono ?_;rintro e w4 ⟨rfl,h4⟩;have HT4:=kf (HTR.out _ _ _ _ _ deep _ _ HT5.out h4 (mem_snoc HT5.out.2.2 (by decide)));clear h4)
    go_step3
    refine⟨2*(bs.length-(k+1))+1,by omega,.inl ⟨rfl,rfl,rfl,rfl,rfl,k+1,deep,out++[10],rfl,rfl,by omega,by omega,by omega,by(try simp only [List.length_append,List.length_cons,List.length_nil]);omega,kf ⟨HT4.out,by rw [HV.out,HZ.out,txt_13z]⟩⟩⟩
   obtain⟨y,hy,hdy⟩:=drop_at (bs:=bs) (k:=k+1) (by omega)
   have HY:=kf hy
   have HDY:=kf hdy
   have hk2:k+2<=bs.length:=by omega
   clear hy hdy
   by_cases hy10:y=10
   ·subst hy10
    go_wp2_with first|(go_at_call 101;refine(HPA.out _ _ _ HT3.out.1.here HY.out).mono ?_;rintro e w5 ⟨rfl,h5⟩;have HT5:=kf (HTR.out _ _ _ _ _ deep _ _ HT3.out h5 HT3.out.2.2);clear h5)|(go_at_call 97;refine(HTA.out _ _ _ _ HT.out.1.1.here HX.out).mono ?_;rintro e w3 ⟨rfl,h3⟩;have HT3:=kf (HTR.out _ _ _ _ _ deep _ _ HT.out.1 h3 HT.out.1.2.2);clear h3)|(go_at_call 86;refine(HWB.out _ _ _ 10 HT5.out.1.here (by omega)).mono ?_;rintro e w4 ⟨rfl,h4⟩;have HT4:=kf (HTR.out _ _ _ _ _ deep _ _ HT5.out h4 (mem_snoc HT5.out.2.2 (by decide)));clear h4)
    go_step3
    refine⟨2*(bs.length-(k+2))+1,by omega,.inl ⟨rfl,rfl,rfl,rfl,rfl,k+2,deep,out++[10],rfl,rfl,by omega,by omega,by omega,by(try simp only [List.length_append,List.length_cons,List.length_nil]);omega,kf ⟨HT4.out,by rw [HV.out,txt_13b (by rw [HDY.out];simp) (by rw [HDY.out];rfl),List.drop_drop]⟩⟩⟩
   ·go_wp2_with first|(go_at_call 101;refine(HPN.out _ _ _ _ HT3.out.1.here HY.out hy10).mono ?_;rintro e w5 ⟨rfl,h5⟩;have HT5:=kf (HTR.out _ _ _ _ _ deep _ _ HT3.out h5 HT3.out.2.2);clear h5)|(go_at_call 97;refine(HTA.out _ _ _ _ HT.out.1.1.here HX.out).mono ?_;rintro e w3 ⟨rfl,h3⟩;have HT3:=kf (HTR.out _ _ _ _ _ deep _ _ HT.out.1 h3 HT.out.1.2.2);clear h3)|(go_at_call 86;refine(HWB.out _ _ _ 10 HT5.out.1.here (by omega)).mono ?_;rintro e w4 ⟨rfl,h4⟩;have HT4:=kf (HTR.out _ _ _ _ _ deep _ _ HT5.out h4 (mem_snoc HT5.out.2.2 (by decide)));clear h4)
    go_step3
    refine⟨2*(bs.length-(k+1))+1,by omega,.inl ⟨rfl,rfl,rfl,rfl,rfl,k+1,deep,out++[10],rfl,rfl,by omega,by omega,by omega,by(try simp only [List.length_append,List.length_cons,List.length_nil]);omega,kf ⟨HT4.out,by rw [HV.out,txt_13n (by rw [HDY.out];simp) (by rw [HDY.out];simpa using hy10)]⟩⟩⟩
  have e13:((x:Int)==13)=false:=by simp;omega
  go_wp2_with first|(go_at_call 97;refine(HTA.out _ _ _ _ HT.out.1.1.here HX.out).mono ?_;rintro e w3 ⟨rfl,h3⟩;have HT3:=kf (HTR.out _ _ _ _ _ deep _ _ HT.out.1 h3 HT.out.1.2.2);clear h3)|(go_at_call 86;refine(HWB.out _ _ _ x HT3.out.1.here (by omega)).mono ?_;rintro e w4 ⟨rfl,h4⟩;have HT4:=kf (HTR.out _ _ _ _ _ deep _ _ HT3.out h4 (mem_snoc HT3.out.2.2 hx256));clear h4)
  go_step3
  refine⟨2*(bs.length-(k+1))+1,by omega,.inl ⟨rfl,rfl,rfl,rfl,rfl,k+1,deep,out++[x],rfl,rfl,by omega,by omega,by omega,by(try simp only [List.length_append,List.length_cons,List.length_nil]);omega,kf ⟨HT4.out,by rw [HV.out,txt_x h92 h13 h40 h41]⟩⟩⟩
 case pass2 =>
  intro n x w1 hx
  obtain⟨h1,h2,h3,h4,k,deep,out,h5,rfl,hk,hd1,hd2,hm,HT⟩:=hx
  refine slots_80 h1 h2 h3 h4 (C:=fun y=>Code.wp _ _ _ y w1) ?_
  intro f hf
  rw [h5] at hf
  simp only [hf]
  clear h1 h2 h3 h4 h5 hf
  by_cases hkn:k+1=bs.length
  ·have HV:=kf (show txtO last 1 [] p (bs.drop p)=(cutE last,[],0) from by rw [HT.out.2,List.drop_of_length_le (by omega),txt_sz])
   have HTE1:=kf (fun X out (hX:RD X w X A bs.length c last R (k+1) out)=>HTE.out X out (by rw [<- hkn];rw [<- hkn] at hX;exact hX))
   go_wp2_with (go_at_call 97;refine(HTE1.out _ _ HT.out.1.1.here).mono ?_;rintro e w3 ⟨rfl,h3⟩;have HT3:=kf (HTR.out _ _ _ _ _ deep _ _ HT.out.1 h3 HT.out.1.2.2);clear h3)
   go_step3
   exact⟨0,by omega,.inr (.inl ⟨rfl,rfl,rfl,rfl,rfl,_,deep,_,rfl,kf ⟨HT3.out,HV.out⟩⟩)⟩
  obtain⟨x,hx,hd⟩:=drop_at (bs:=bs) (k:=k+1) (by omega)
  have hx256:=HB.out x (List.mem_of_getElem? hx)
  have HX:=kf hx
  have HV:=kf (show txtO last 1 [] p (bs.drop p)=txtO last deep out k (92::x::bs.drop (k+2)) from by rw [HT.out.2,hd])
  have hk1:k+2<=bs.length:=by omega
  clear hx hd
  by_cases h13:x=13
  ·subst h13
   by_cases hkz:k+2=bs.length
   ·have HZ:=kf (show bs.drop (k+2)=[] from List.drop_of_length_le (by omega))
    have HT3E:=kf (fun X out (hX:RD X w X A bs.length c last R (k+1+1) out)=>HPE.out X out (by rw [<- hkz];rw [<- hkz] at hX;exact hX))
    go_wp2_with first|(go_at_call 101;refine(HT3E.out _ _ HT3.out.1.here).mono ?_;rintro e w5 ⟨rfl,h5⟩;have HT4:=kf (HTR.out _ _ _ _ _ deep _ _ HT3.out (by rw [<- hkz];rw [<- hkz] at h5;exact h5) HT3.out.2.2);clear h5)|(go_at_call 97;refine(HTA.out _ _ _ _ HT.out.1.1.here HX.out).mono ?_;rintro e w3 ⟨rfl,h3⟩;have HT3:=kf (HTR.out _ _ _ _ _ deep _ _ HT.out.1 h3 HT.out.1.2.2);clear h3)
    go_step3
    refine⟨2*(bs.length-(k+2))+1,by omega,.inl ⟨rfl,rfl,rfl,rfl,rfl,k+2,deep,out,rfl,rfl,by omega,by omega,by omega,by(try simp only [List.length_append,List.length_cons,List.length_nil]);omega,kf ⟨HT4.out,by rw [HV.out,HZ.out,txt_s13z]⟩⟩⟩
   obtain⟨y,hy,hdy⟩:=drop_at (bs:=bs) (k:=k+2) (by omega)
   have HY:=kf hy
   have HDY:=kf hdy
   have hk2:k+3<=bs.length:=by omega
   clear hy hdy
   by_cases hy10:y=10
   ·subst hy10
    go_wp2_with first|(go_at_call 101;refine(HPA.out _ _ _ HT3.out.1.here HY.out).mono ?_;rintro e w5 ⟨rfl,h5⟩;have HT4:=kf (HTR.out _ _ _ _ _ deep _ _ HT3.out h5 HT3.out.2.2);clear h5)|(go_at_call 97;refine(HTA.out _ _ _ _ HT.out.1.1.here HX.out).mono ?_;rintro e w3 ⟨rfl,h3⟩;have HT3:=kf (HTR.out _ _ _ _ _ deep _ _ HT.out.1 h3 HT.out.1.2.2);clear h3)
    go_step3
    refine⟨2*(bs.length-(k+3))+1,by omega,.inl ⟨rfl,rfl,rfl,rfl,rfl,k+3,deep,out,rfl,rfl,by omega,by omega,by omega,by(try simp only [List.length_append,List.length_cons,List.length_nil]);omega,kf ⟨HT4.out,by rw [HV.out,txt_s13b (by rw [HDY.out];rfl),List.drop_drop]⟩⟩⟩
   ·go_wp2_with first|(go_at_call 101;refine(HPN.out _ _ _ _ HT3.out.1.here HY.out hy10).mono ?_;rintro e w5 ⟨rfl,h5⟩;have HT4:=kf (HTR.out _ _ _ _ _ deep _ _ HT3.out h5 HT3.out.2.2);clear h5)|(go_at_call 97;refine(HTA.out _ _ _ _ HT.out.1.1.here HX.out).mono ?_;rintro e w3 ⟨rfl,h3⟩;have HT3:=kf (HTR.out _ _ _ _ _ deep _ _ HT.out.1 h3 HT.out.1.2.2);clear h3)
    go_step3
    refine⟨2*(bs.length-(k+2))+1,by omega,.inl ⟨rfl,rfl,rfl,rfl,rfl,k+2,deep,out,rfl,rfl,by omega,by omega,by omega,by(try simp only [List.length_append,List.length_cons,List.length_nil]);omega,kf ⟨HT4.out,by rw [HV.out,txt_s13n (by rw [HDY.out];simpa using hy10) (by rw [HDY.out];simp)]⟩⟩⟩
  have e13:((x:Int)==13)=false:=by simp;omega
  by_cases h10:x=10
  ·subst h10
   go_wp2_with (go_at_call 97;refine(HTA.out _ _ _ _ HT.out.1.1.here HX.out).mono ?_;rintro e w3 ⟨rfl,h3⟩;have HT4:=kf (HTR.out _ _ _ _ _ deep _ _ HT.out.1 h3 HT.out.1.2.2);clear h3)
   go_step3
   refine⟨2*(bs.length-(k+2))+1,by omega,.inl ⟨rfl,rfl,rfl,rfl,rfl,k+2,deep,out,rfl,rfl,by omega,by omega,by omega,by(try simp only [List.length_append,List.length_cons,List.length_nil]);omega,kf ⟨HT4.out,by rw [HV.out,txt_s10]⟩⟩⟩
  have e10:((x:Int)==10)=false:=by simp;omega
  by_cases hoct:48<=x/\x<=55
  ·have HO:=kf (txt_soct (last:=last) (deep:=deep) (k:=k) (out:=out) (l:=bs.drop (k+2)) hoct)
   have hle:=octs_le 2 (x-48) (bs.drop (k+2))
   rw [List.length_drop] at hle
   obtain⟨u,hu⟩:∃ u,u=x-48:=⟨_,rfl⟩
   have hu8:u<8:=by omega
   have w2:IntKind.u8.wrap ((x:Int)-48)=(u:Int):=by rw [IntKind.wrap_u8];omega
   have m1:decide ((48:Int)<=x)=true:=by simp;omega
   have m2:decide ((x:Int)<=55)=true:=by simp;omega
   have m3:decide (48<=x)=true:=by simp;omega
   have m4:decide (x<=55)=true:=by simp;omega
   rw [<- hu] at HO hle
   obtain⟨v,hv⟩:∃ v,(octs 2 u (bs.drop (k+2))).1%256=v:=⟨_,rfl⟩
   obtain⟨q,hq⟩:∃ q,(octs 2 u (bs.drop (k+2))).2=q:=⟨_,rfl⟩
   have HOC1:=kf (fun X out (hX:RD X w X A bs.length c last R (k+1+1) out)=>HOC.out X out (k+1+1) u hX hk1 hu8)
   have hv256:v<256:=by rw [<- hv];exact Nat.mod_lt _ (by decide)
   have hvq:(octs 2 u (bs.drop (k+1+1))).1%256=v/\(octs 2 u (bs.drop (k+1+1))).2=q:=⟨hv,hq⟩
   rw [hvq.1,hvq.2] at HOC1
   rw [hv,hq] at HO
   rw [hq] at hle
   have hq2:=hle.2
   clear hle hv hq hvq hu hoct
   go_upto_region 22 with(go_at_call 97;refine(HTA.out _ _ _ _ HT.out.1.1.here HX.out).mono ?_;rintro e w3 ⟨rfl,h3⟩;have HT3:=kf (HTR.out _ _ _ _ _ deep _ _ HT.out.1 h3 HT.out.1.2.2);clear h3)
   have hRR:=HT3.out.1.new
   first
    |(go_loud (go_region_held3 (fun _=>True) (first|trivial|(go_keep;done))
      (first
       |(go_at_call 125;refine(HOC1.out _ _ (HT3.out.1.call ((Chg.refl NoS _).drew)).here).mono ?_;rintro e w5 ⟨rfl,h5⟩;have HT5:=kf (HTR.out _ _ _ _ _ deep _ _ HT3.out (h5.base ((KB.chg ((Chg.refl NoS _).drew)).trans h5.kb)) HT3.out.2.2);clear h5)
       |(go_at_call 86;refine(HWB.out _ _ _ v HT5.out.1.here (by omega)).mono ?_;rintro e w4 ⟨rfl,h4⟩;have HT4:=kf (HTR.out _ _ _ _ _ deep _ _ HT5.out h4 (mem_snoc HT5.out.2.2 hv256));clear h4))))
    |fail "region"
   go_wp2_with fail
   go_step3
   refine⟨2*(bs.length-(k+2+q))+1,by omega,.inl ⟨rfl,rfl,rfl,rfl,rfl,k+2+q,deep,out++[v],rfl,rfl,by omega,by omega,by omega,by(try simp only [List.length_append,List.length_cons,List.length_nil]);omega,kf ⟨HT4.out,by rw [HV.out,HO.out,List.drop_drop]⟩⟩⟩
  have HM:=kf (txt_sx (last:=last) (deep:=deep) (k:=k) (out:=out) (l:=bs.drop (k+2)) h10 h13 hoct)
  have hm256:mnt x<256:=mnt_lt hx256
  have HME1:=kf (fun X=>HME.out x X)
  obtain⟨v,hv⟩:∃ v,mnt x=v:=⟨_,rfl⟩
  rw [hv] at HM HME1 hm256
  have m0:(decide ((48:Int)<=x)&&decide ((x:Int)<=55))=false:=by simp;omega
  clear hv
  by_cases hlo:48<=x
  ·have hhi:¬x<=55:=by omega
   have m1:decide ((48:Int)<=x)=true:=by simp;omega
   have m2:decide ((x:Int)<=55)=false:=by simp;omega
   have m3:decide (48<=x)=true:=by simp;omega
   have m4:decide (x<=55)=false:=by simp;omega
   clear hoct
   go_upto_region 23 with(go_at_call 97;refine(HTA.out _ _ _ _ HT.out.1.1.here HX.out).mono ?_;rintro e w3 ⟨rfl,h3⟩;have HT3:=kf (HTR.out _ _ _ _ _ deep _ _ HT.out.1 h3 HT.out.1.2.2);clear h3)
   first
    |(go_loud (go_region_held3 (fun _=>True) (first|trivial|(go_keep;done))
      (first
       |(go_at_call 126;refine(HME1.out _).mono ?_;rintro e w5 ⟨rfl,rfl⟩;have HT5:=kf (HTR.out _ _ _ _ _ deep _ _ HT3.out (HT3.out.1.here.call ((Chg.refl NoS _).drew)) HT3.out.2.2))
       |(go_at_call 86;refine(HWB.out _ _ _ v HT5.out.1.here (by omega)).mono ?_;rintro e w4 ⟨rfl,h4⟩;have HT4:=kf (HTR.out _ _ _ _ _ deep _ _ HT5.out h4 (mem_snoc HT5.out.2.2 hm256));clear h4))))
    |fail "region"
   go_wp2_with fail
   go_step3
   refine⟨2*(bs.length-(k+2))+1,by omega,.inl ⟨rfl,rfl,rfl,rfl,rfl,k+2,deep,out++[v],rfl,rfl,by omega,by omega,by omega,by(try simp only [List.length_append,List.length_cons,List.length_nil]);omega,kf ⟨HT4.out,by rw [HV.out,HM.out]⟩⟩⟩
  ·have m1:decide ((48:Int)<=x)=false:=by simp;omega
   have m3:decide (48<=x)=false:=by simp;omega
   clear hoct
   go_upto_region 23 with(go_at_call 97;refine(HTA.out _ _ _ _ HT.out.1.1.here HX.out).mono ?_;rintro e w3 ⟨rfl,h3⟩;have HT3:=kf (HTR.out _ _ _ _ _ deep _ _ HT.out.1 h3 HT.out.1.2.2);clear h3)
   first
    |(go_loud (go_region_held3 (fun _=>True) (first|trivial|(go_keep;done))
      (first
       |(go_at_call 126;refine(HME1.out _).mono ?_;rintro e w5 ⟨rfl,rfl⟩;have HT5:=kf (HTR.out _ _ _ _ _ deep _ _ HT3.out (HT3.out.1.here.call ((Chg.refl NoS _).drew)) HT3.out.2.2))
       |(go_at_call 86;refine(HWB.out _ _ _ v HT5.out.1.here (by omega)).mono ?_;rintro e w4 ⟨rfl,h4⟩;have HT4:=kf (HTR.out _ _ _ _ _ deep _ _ HT5.out h4 (mem_snoc HT5.out.2.2 hm256));clear h4))))
    |fail "region"
   go_wp2_with fail
   go_step3
   refine⟨2*(bs.length-(k+2))+1,by omega,.inl ⟨rfl,rfl,rfl,rfl,rfl,k+2,deep,out++[v],rfl,rfl,by omega,by omega,by omega,by(try simp only [List.length_append,List.length_cons,List.length_nil]);omega,kf ⟨HT4.out,by rw [HV.out,HM.out]⟩⟩⟩
def RuJ (w w0:World) (A:Option Addr) (bs:List Nat) (c:Nat) (last:Bool) (R p:Nat) (out:List Nat) (n:Nat) (x:Act) (w':World):Prop :=
 x.defers=[]/\x.tmps.size=60/\x.tmps.getD 0 undef=.pointer (some ⟨R,0,none⟩)/\x.tmps.getD 4 undef=.int .i64 (p:Nat)/\x.tmps.getD 5 undef=.int .i64 0/\∃ k:Nat,n=(bs.length-k)+1/\k<=bs.length/\p<=k /\
  Hid (RD w w0 w' A bs.length c last R k out/\p+rgs (bs.drop p)=k+rgs (bs.drop k))
theorem slots_60 {x:Act} {v0 v4 v5:Value} {C:Act->Prop} (h1:x.defers=[]) (h2:x.tmps.size=60) (h3:x.tmps.getD 0 undef=v0) (h4:x.tmps.getD 4 undef=v4) (h5:x.tmps.getD 5 undef=v5)
  (k:∀ f:Nat->Value,C { tmps:=#[v0,f 1,f 2,f 3,v4,v5,f 6,f 7,f 8,f 9,f 10,f 11,f 12,f 13,f 14,f 15,f 16,f 17,f 18,f 19,f 20,f 21,f 22,f 23,f 24,f 25,f 26,f 27,f 28,f 29,f 30,f 31,f 32,f 33,f 34,f 35,f 36,f 37,f 38,f 39,f 40,f 41,f 42,f 43,f 44,f 45,f 46,f 47,f 48,f 49,f 50,f 51,f 52,f 53,f 54,f 55,f 56,f 57,f 58,f 59],defers:=[] }):C x:=by
 obtain⟨t,d⟩:=x
 simp only at h1 h2 h3 h4 h5
 subst h1
 have h6:=k (fun i=>t.getD i undef)
 rw [<- h3,<- h4,<- h5] at h6
 rw [arr_slots t 60 h2]
 exact h6
theorem rgs_stop {x:Nat} {l:List Nat} (h:isRg x=false):rgs (x::l)=0:=by rw [rgs,if_neg (by rw [h];decide)]
theorem rgs_go {x:Nat} {l:List Nat} (h:isRg x=true):rgs (x::l)=rgs l+1:=by rw [rgs,if_pos h]
def runE (last:Bool) (l:List Nat):Int:=if rgs l=l.length/\last=false then 6 else 0
set_option maxHeartbeats 4000000 in
set_option maxRecDepth 100000 in
theorem prun_any {V w W:World} {A:Option Addr} {bs:List Nat} {c R p:Nat} {last:Bool} {out:List Nat} (h:RD V w W A bs.length c last R p out) (hS:Src w 1 A bs.length c (lcells bs)) (hl:bs.length<=500000) (hc:bs.length<=c) (hp:p<=bs.length) (hn0:0<bs.length) :
  Calls Tryz.prog 128 #[.pointer (some ⟨R,0,none⟩)] W fun e W'=>e=.returned (.tuple #[.string (sb ((bs.drop p).take (rgs (bs.drop p)))),.int .i64 (runE last (bs.drop p))])/\RD V w W' A bs.length c last R (p+rgs (bs.drop p)) out:=by
 have HSP:=kf (fun y X=>pspace_any y X)
 have HDL:=kf (fun y X=>pdelim_any y X)
 have HCU:=kf (fun X k (hX:RD V w X A bs.length c last R k out)=>pcut_any hX 0)
 have HR0:=kf h
 have HS:=kf hS
 obtain⟨c2,c3,c4,f3⟩:=h.cells
 obtain⟨b,off,rfl,hcell⟩:=lcell hS (Chg.refl NoS w) hn0
 have HCELL:=kf hcell
 have HBR:=kf (fun(k x:Nat) (hx:bs[k]?=some x)=>(show b≠R from by have h1:=cell_lt (hcell k x hx);have h2:=h.new;simp only at h1;omega))
 have HCV:=kf (fun(X:World) (hX:Chg NoS w X) (m:Nat) (hm:p+m<=bs.length)=>(show(convert 39 9 (.slice (cutL (some ⟨b,off,none⟩) p c) m (c-p))).run Tryz.prog X=.ok (.string (sb ((bs.drop p).take m))) X from by
  have h1:=src_cutL (lo:=p) (m:=m) (Src.below (w0:=w) hS hX) hc hm
  have e:((lcells bs).drop p).take m=lcells ((bs.drop p).take m):=by unfold lcells;rw [<- List.map_drop,<- List.map_take]
  rw [e] at h1
  exact conv_l h1))
 obtain⟨L,hL⟩:∃ L,L=rgs (bs.drop p):=⟨_,rfl⟩
 have HLen:=kf (show p+L<=bs.length from by have:=rgs_le (bs.drop p);rw [List.length_drop,<- hL] at this;omega)
 obtain⟨S,hS2⟩:∃ S,S=sb ((bs.drop p).take L):=⟨_,rfl⟩
 have HS2:=kf hS2
 have HL:=kf hL
 have HEr:=kf (show runE last (bs.drop p)=if p+L=bs.length/\last=false then 6 else 0 from by
  unfold runE
  rw [<- hL,List.length_drop]
  by_cases h1:p+L=bs.length
  ·by_cases h2:last=false
   ·rw [if_pos ⟨by omega,h2⟩,if_pos ⟨h1,h2⟩]
   ·rw [if_neg (fun e=>h2 e.2),if_neg (fun e=>h2 e.2)]
  ·rw [if_neg (fun e=>h1 (by omega)),if_neg (fun e=>h1 e.1)])
 rw [<- hL,<- hS2]
 obtain⟨E,hE⟩:∃ E,E=runE last (bs.drop p):=⟨_,rfl⟩
 rw [<- hE]
 rw [<- hE] at HEr
 clear h hS hcell hE hL hS2
 go_enter Tryz.func128,Tryz.ntmps128
 go_wp2
 refine wp_scope1 (RuJ V w (some ⟨b,off,none⟩) bs c last R p out) rfl ?pass0 ?first
 case first =>
  intro hpass
  have HPass:=kf hpass
  clear hpass
  go_wp2
  go_step3
  rename_i hK
  refine hK _ _ (HPass.out _ _ _ ⟨rfl,rfl,rfl,rfl,rfl,p,rfl,hp,Nat.le_refl _,kf ⟨HR0.out,rfl⟩⟩)
 case pass0 =>
  intro n x w1 hx
  obtain⟨h1,h2,h3,h4,h5,k,rfl,hk,hpk,HT⟩:=hx
  refine slots_60 h1 h2 h3 h4 h5 (C:=fun y=>Code.wp _ _ _ y w1) ?_
  intro f
  clear h1 h2 h3 h4 h5 c2 c3 c4 f3
  obtain⟨c2,c3,c4,f3⟩:=HT.out.1.cells
  by_cases hkn:k=bs.length
  ·have HK:=kf (show p+L=k from by rw [HL.out,HT.out.2,hkn,List.drop_of_length_le (Nat.le_refl _)];rfl)
   have HE1:=kf (show(if last then(0:Int) else 6)=E from by rw [HEr.out,HK.out];cases last<;>simp [hkn])
   have HCU1:=kf (fun X hX=>HCU.out X k hX)
   rw [HE1.out] at HCU1
   have hcv:=fun m m2=>HCV.out ((w1.drewN m).drewN m2) ((HT.out.1.chg.drewN m).drewN m2) L HLen.out
   have hcv1:=fun m=>HCV.out (w1.drewN m) (HT.out.1.chg.drewN m) L HLen.out
   have hLk:L=k-p:=by have:=HK.out;omega
   rw [<- HS2.out,hLk] at hcv hcv1
   have HNK:=kf hkn
   have k2:((k:Int)==bs.length)=true:=by simp;omega
   have k3:(k==bs.length)=true:=by simp;omega
   clear hkn HCU
   have p1:(p:Int)<=k:=by omega
   have p2:(k:Int)<=c:=by omega
   have p3:(k:Int)<=bs.length:=by omega
   rw [cutL_some] at hcv hcv1
   go_upto_region 2 with fail
   go_quiet (fail)
   go_upto_region 7 with first|(go_at_call 98;refine(HCU1.out _ (HT.out.1.drewN _)).mono ?_;rintro e w5 ⟨rfl,rfl⟩)|(go_at_call 96;refine(HSP1.out _).mono ?_;rintro e w5 ⟨rfl,rfl⟩)|(go_at_call 87;refine(HDL1.out _).mono ?_;rintro e w5 ⟨rfl,rfl⟩)
   go_quiet (fail)
   go_wp2_with fail
   all_goals (try simp only [hops])
   all_goals (go_ret2;exact⟨rfl,by rw [HK.out];exact HT.out.1.drewN _⟩)
  obtain⟨x,hx,hd⟩:=drop_at (bs:=bs) (k:=k) (by omega)
  have hbR:=HBR.out k x hx
  have c0:w1.cell? ⟨b,off+k,none⟩=some (.int .u8 (x:Nat)):=(HT.out.1.chg.cell (p:=⟨b,off+k,none⟩) (cell_lt (HCELL.out k x hx)) (fun h=>h)).trans (HCELL.out k x hx)
  have k1:(k:Int)<bs.length:=by omega
  have k2:((k:Int)==bs.length)=false:=by simp;omega
  have k3:(k==bs.length)=false:=by simp;omega
  have HD:=kf hd
  have HSP1:=kf (fun X=>HSP.out x X)
  have HDL1:=kf (fun X=>HDL.out x X)
  clear hx hd
  by_cases hr:isRg x=true
  ·have HV:=kf (show p+rgs (bs.drop p)=k+1+rgs (bs.drop (k+1)) from by rw [HT.out.2,HD.out,rgs_go hr];omega)
   have hs1:isSp x=false:=by
    cases h7:isSp x with
    |false=>rfl
    |true=>rw [isRg,h7] at hr;cases hr
   have hd1:isDl x=false:=by
    cases h7:isDl x with
    |false=>rfl
    |true=>rw [isRg,hs1,h7] at hr;cases hr
   rw [hs1] at HSP1
   rw [hd1] at HDL1
   clear hs1 hd1 hr
   go_upto_region 2 with fail
   go_quiet (fail)
   go_upto_region 4 with fail
   go_quiet (fail)
   go_wp2_with first|(go_at_call 96;refine(HSP1.out _).mono ?_;rintro e w5 ⟨rfl,rfl⟩)|(go_at_call 87;refine(HDL1.out _).mono ?_;rintro e w5 ⟨rfl,rfl⟩)
   go_step3
   exact⟨(bs.length-(k+1))+1,by omega,rfl,rfl,rfl,rfl,rfl,rfl,k+1,rfl,by omega,by omega,kf ⟨(HT.out.1.drewN _).at_ _,HV.out⟩⟩
  ·have hr2:isRg x=false:=by simpa using hr
   have HK:=kf (show p+L=k from by rw [HL.out,HT.out.2,HD.out,rgs_stop hr2];rfl)
   have HE1:=kf (show E=0 from by rw [HEr.out,if_neg (fun e=>by have:=HK.out;omega)])
   have hcv:=fun m m2=>HCV.out ((w1.drewN m).drewN m2) ((HT.out.1.chg.drewN m).drewN m2) L HLen.out
   have hcv1:=fun m=>HCV.out (w1.drewN m) (HT.out.1.chg.drewN m) L HLen.out
   have hLk:L=k-p:=by have:=HK.out;omega
   rw [<- HS2.out,hLk] at hcv hcv1
   clear hr
   cases h7:isSp x with
   |true =>
    rw [h7] at HSP1
    clear h7 hr2
    have p1:(p:Int)<=k:=by omega
    have p2:(k:Int)<=c:=by omega
    have p3:(k:Int)<=bs.length:=by omega
    rw [cutL_some] at hcv hcv1
    go_upto_region 2 with fail
    go_quiet (fail)
    go_upto_region 4 with fail
    go_quiet (fail)
    go_upto_region 7 with first|(go_at_call 98;refine(HCU1.out _ (HT.out.1.drewN _)).mono ?_;rintro e w5 ⟨rfl,rfl⟩)|(go_at_call 96;refine(HSP1.out _).mono ?_;rintro e w5 ⟨rfl,rfl⟩)|(go_at_call 87;refine(HDL1.out _).mono ?_;rintro e w5 ⟨rfl,rfl⟩)
    go_quiet (fail)
    go_wp2_with fail
    all_goals (try simp only [hops])
    all_goals (go_ret2;exact⟨by rw [HE1.out];rfl,by rw [HK.out];exact HT.out.1.drewN _⟩)
   |false =>
    have h8:isDl x=true:=by
     cases h9:isDl x with
     |true=>rfl
     |false=>rw [isRg,h7,h9] at hr2;cases hr2
    rw [h7] at HSP1
    rw [h8] at HDL1
    clear h7 h8 hr2
    have p1:(p:Int)<=k:=by omega
    have p2:(k:Int)<=c:=by omega
    have p3:(k:Int)<=bs.length:=by omega
    rw [cutL_some] at hcv hcv1
    go_upto_region 2 with fail
    go_quiet (fail)
    go_upto_region 4 with fail
    go_quiet (fail)
    go_upto_region 7 with first|(go_at_call 98;refine(HCU1.out _ (HT.out.1.drewN _)).mono ?_;rintro e w5 ⟨rfl,rfl⟩)|(go_at_call 96;refine(HSP1.out _).mono ?_;rintro e w5 ⟨rfl,rfl⟩)|(go_at_call 87;refine(HDL1.out _).mono ?_;rintro e w5 ⟨rfl,rfl⟩)
    go_quiet (fail)
    go_wp2_with fail
    all_goals (try simp only [hops])
    all_goals (go_ret2;exact⟨by rw [HE1.out];rfl,by rw [HK.out];exact HT.out.1.drewN _⟩)
end Go.Proofs.YtcehpobjnbgpdaaGreatDoor
