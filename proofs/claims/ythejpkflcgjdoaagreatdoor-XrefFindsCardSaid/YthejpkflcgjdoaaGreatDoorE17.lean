/- Merged by program. -/
import Derived.Test.YthejpkflcgjdoaaGreatDoorE04
import Derived.Test.YthejpkflcgjdoaaGreatDoorE14
import Derived.Deep.RegionHeld3
set_option linter.unusedVariables false
set_option linter.unusedSimpArgs false
namespace Go.Proofs.YthejpkflcgjdoaaGreatDoor
open Go.RowKit
theorem TxR.step {V w X X':World} {A:Option Addr} {bs:List Nat} {c:Nat} {last:Bool} {R g p k deep k' deep':Nat} {out out':List Nat} (h:TxR V w A bs c last R g p k deep out X) (h':RD X w X' A bs.length c last R k' out') (hg:g≠R) (hb:∀ d∈out',d<256):TxR V w A bs c last R g p k' deep' out' X' :=
 ⟨h'.base (h.1.kb.trans h'.kb),h'.kb _ _ _ hg (by decide) h.2.1,hb⟩
theorem mem_snoc {out:List Nat} {x:Nat} (h:∀ d∈out,d<256) (hx:x<256):∀ d∈out++[x],d<256:=by
 intro d hd
 rcases List.mem_append.1 hd with h1|h1
 ·exact h d h1
 ·rw [List.mem_singleton.1 h1];exact hx
theorem TkV_err {kind:Nat} {er:Int} {l:List Nat} (h:er≠0):TkV kind (er,l)=.tuple #[.agg #[.int .i64 0,.int .i64 0,.string ⟨#[]⟩,.slice none 0 0],.int .i64 er]:=by
 unfold TkV
 rw [if_neg h]
set_option maxHeartbeats 8000000 in
set_option maxRecDepth 100000 in
theorem ptext_any {V w W:World} {A:Option Addr} {bs:List Nat} {c R p:Nat} {last:Bool} (h:RD V w W A bs.length c last R p []) (hS:Src w 1 A bs.length c (lcells bs)) (hl:bs.length<=500000) (hc:bs.length<=c) (hp:p<=bs.length) (hb:∀ d∈bs,d<256) :
  Calls Tryz.prog 184 #[.pointer (some ⟨R,0,none⟩)] W (PTo V w R 4 (txtO last 1 [] p (bs.drop p))):=by
 have hl6:bs.length<=1000000:=by omega
 have HTE:=kf (fun X out (hX:RD X w X A bs.length c last R bs.length out)=>ptake_end hX)
 have HTA:=kf (fun X out k x (hX:RD X w X A bs.length c last R k out) (hx:bs[k]?=some x)=>ptake_at hX hS hl6 hc hx)
 have HPE:=kf (fun X out (hX:RD X w X A bs.length c last R bs.length out)=>ppass_end hX 10)
 have HPN:=kf (fun X out k x (hX:RD X w X A bs.length c last R k out) (hx:bs[k]?=some x) (hy:x≠10)=>ppass_no hX hS hl6 hc hx 10 hy)
 have HPA:=kf (fun X out k (hX:RD X w X A bs.length c last R k out) (hx:bs[k]?=some 10)=>ppass_at hX hS hl6 hc hx)
 have HWB:=kf (fun X out k y (hX:RD X w X A bs.length c last R k out) (ho:out.length<=1000000)=>pwbyte_any hX y ho)
 have HOC:=kf (fun X out k y (hX:RD X w X A bs.length c last R k out) (hk:k<=bs.length) (hy:y<8)=>poctal_any hX hS hl6 hc hk hb y hy)
 have HCU:=kf (fun X out k (hX:RD X w X A bs.length c last R k out)=>pcut_any hX 10)
 have HBU:=kf (fun X out k (hX:RD X w X A bs.length c last R k out) (ho:∀ d∈out,d<256) (hm:out.length<=1000000)=>pbuilt_any hX ho hm 4)
 have HME:=kf (fun y X=>pmeant_any y X)
 have HB:=kf hb
 have HKB:=kf h.kb
 have HR0:=kf h.here
 have hRW:=h.lt
 have hwW:=h.chg.size
 obtain⟨g,hg⟩:∃ g,g=W.heap.size:=⟨_,rfl⟩
 have HG:=kf hg
 have hgR:g≠R:=by omega
 have hgW:W.heap.size<=g:=by omega
 have hgw:w.heap.size<=g:=by omega
 have HTR:=kf (fun(X X':World) (k k' deep deep':Nat) (out out':List Nat) (h:TxR W w A bs c last R g p k deep out X) (h':RD X w X' A bs.length c last R k' out') (hb:∀ d∈out',d<256)=>TxR.step (deep':=deep') h h' hgR hb)
 have HL6:=kf hl6
 clear h hS hb hc hl6 hg hwW hRW
 go_enter Tryz.func184,Tryz.ntmps184
 go_wp2
 refine wp_scope3 (TxJ0 W w A bs c last R g p) (TxJ1 W w A bs c last R g p) (TxJ2 W w A bs c last R g p) rfl rfl rfl ?pass0 ?pass1 ?pass2 ?first
 case first =>
  intro hpass
  have HPass:=kf hpass
  clear hpass
  go_wp2
  go_step3
  rename_i hK
  refine hK _ _ (HPass.out _ _ _ ⟨rfl,rfl,rfl,by rw [HG.out];rfl,p,1,[],rfl,rfl,hp,Nat.le_refl _,by omega,Nat.zero_le _,kf ⟨⟨HR0.out.call ((Chg.refl NoS W).alloc _),by rw [HG.out];exact Blk.new _ _ _,fun d hd=>by cases hd⟩,rfl⟩⟩)
 case pass1 =>
  intro n x w1 hx
  obtain⟨h1,h2,h3,h4,k,deep,out,rfl,HT⟩:=hx
  refine slots_80 h1 h2 h3 h4 (C:=fun y=>Code.wp _ _ _ y w1) ?_
  intro f _
  obtain⟨r0,r1,r2,r3,z0,z1,z2,z3⟩:=HT.out.1.2.1.cl4
  have HRD:=kf HT.out.1.1
  have HV:=kf HT.out.2
  clear h1 h2 h3 h4 HT
  have hec:(if last then(10:Int) else 6)=cutE last:=rfl
  have hne:=cutE_ne last
  obtain⟨er,her⟩:∃ er,er=cutE last:=⟨_,rfl⟩
  have HCU1:=kf (HCU.out w1 _ _ HRD.out.here)
  rw [hec,<- her] at HCU1
  rw [<- her] at HV hne
  have HNE:=kf hne
  clear hec her hne
  go_wp2_with (go_at_call 182;refine HCU1.out.mono ?_;rintro e w3 ⟨rfl,rfl⟩)
  simp only [hops]
  refine bodyPost_ret (v:=.tuple #[.agg #[.int .i64 0,.int .i64 0,.string ⟨#[]⟩,.slice none 0 0],.int .i64 er]) (by simp [results,Tryz.results184,go_sem,r0,r1,r2,r3]) rfl ?_
  refine⟨by rw [HV.out,TkV_err HNE.out],k,fun e=>absurd (by rw [HV.out] at e;exact e) HNE.out,?_⟩
  exact(HRD.out.re.set4 hgR hgW hgw _ _ _ _).back HKB.out
 case pass0 =>
  intro n x w1 hx
  obtain⟨h1,h2,h3,h4,k,deep,out,h5,rfl,hk,hd1,hd2,hm,HT⟩:=hx
  refine slots_80 h1 h2 h3 h4 (C:=fun y=>Code.wp _ _ _ y w1) ?_
  intro f hf
  rw [h5] at hf
  simp only [hf]
  clear h1 h2 h3 h4 h5 hf
  by_cases hkn:k=bs.length
  ·subst hkn
   have HV:=kf (show txtO last 1 [] p (bs.drop p)=(cutE last,[],0) from by rw [HT.out.2,List.drop_of_length_le (Nat.le_refl _),txtO_nil])
   go_wp2_with (go_at_call 181;refine(HTE.out _ _ HT.out.1.1.here).mono ?_;rintro e w3 ⟨rfl,h3⟩;have HT3:=kf (HTR.out _ _ _ _ _ deep _ _ HT.out.1 h3 HT.out.1.2.2);clear h3)
   go_step3
   exact⟨0,by omega,.inr (.inl ⟨rfl,rfl,rfl,rfl,rfl,_,deep,_,rfl,kf ⟨HT3.out,HV.out⟩⟩)⟩
  obtain⟨x,hx,hd⟩:=drop_at (bs:=bs) (k:=k) (by omega)
  have hx256:=HB.out x (List.mem_of_getElem? hx)
  have HX:=kf hx
  have HV:=kf (show txtO last 1 [] p (bs.drop p)=txtO last deep out k (x::bs.drop (k+1)) from by rw [HT.out.2,hd])
  have HLX:=kf (show(bs.drop (k+1)).length=bs.length-(k+1) from List.length_drop)
  have hk1:k+1<=bs.length:=by omega
  clear hx hd
  by_cases h92:x=92
  ·subst h92
   go_wp2_with (go_at_call 181;refine(HTA.out _ _ _ _ HT.out.1.1.here HX.out).mono ?_;rintro e w3 ⟨rfl,h3⟩;have HT3:=kf (HTR.out _ _ _ _ _ deep _ _ HT.out.1 h3 HT.out.1.2.2);clear h3)
   go_step3
   exact⟨2*(bs.length-(k+1))+2,by omega,.inr (.inr ⟨rfl,rfl,rfl,rfl,rfl,k,deep,out,rfl,rfl,hk1,hd1,hd2,hm,kf ⟨HT3.out,HV.out⟩⟩)⟩
  have e92:((x:Int)==92)=false:=by simp;omega
  by_cases h40:x=40
  ·subst h40
   have d0:((deep:Int)+1==0)=false:=by simp;omega
   clear h92 e92
   go_wp2_with first|(go_at_call 181;refine(HTA.out _ _ _ _ HT.out.1.1.here HX.out).mono ?_;rintro e w3 ⟨rfl,h3⟩;have HT3:=kf (HTR.out _ _ _ _ _ deep _ _ HT.out.1 h3 HT.out.1.2.2);clear h3)|(go_at_call 172;refine(HWB.out _ _ _ 40 HT3.out.1.here (by omega)).mono ?_;rintro e w4 ⟨rfl,h4⟩;have HT4:=kf (HTR.out _ _ _ _ _ (deep+1) _ _ HT3.out h4 (mem_snoc HT3.out.2.2 (by decide)));clear h4)
   go_step3
   refine⟨2*(bs.length-(k+1))+1,by omega,.inl ⟨rfl,rfl,rfl,rfl,rfl,k+1,deep+1,out++[40],rfl,rfl,by omega,by omega,by omega,by(try simp only [List.length_append,List.length_cons,List.length_nil]);omega,kf ⟨HT4.out,by rw [HV.out,txt_40]⟩⟩⟩
  have e40:((x:Int)==40)=false:=by simp;omega
  by_cases h41:x=41
  ·subst h41
   clear h92 e92 h40 e40
   by_cases hd:deep=1
   ·subst hd
    have HE:=kf (txt_41e (last:=last) (deep:=1) (k:=k) (out:=out) (l:=bs.drop (k+1)) rfl)
    go_upto_region 14 with(go_at_call 181;refine(HTA.out _ _ _ _ HT.out.1.1.here HX.out).mono ?_;rintro e w3 ⟨rfl,h3⟩;have HT3:=kf (HTR.out _ _ _ _ _ 1 _ _ HT.out.1 h3 HT.out.1.2.2);clear h3)
    have hKB3:=HT3.out.1.here
    go_upto_region 24 with(go_at_call 205;refine(HBU.out _ _ _ HT3.out.1.here HT3.out.2.2 (by omega)).mono ?_;rintro e w4 ⟨rfl,h4⟩;obtain⟨r0,r1,r2,r3,z0,z1,z2,z3⟩:=(h4.kb _ _ _ hgR (by decide) HT3.out.2.1).cl4;have HRE:=kf (h4.back HT3.out.1.kb);clear h4)
    simp only [hops]
    refine bodyPost_ret (v:=.tuple #[.agg #[.int .i64 4,.int .i64 0,.string (sb out),.slice none 0 0],.int .i64 0]) (by simp [results,Tryz.results184,go_sem,r0,r1,r2,r3]) rfl ?_
    refine⟨by rw [HV.out,HE.out];rfl,k+1,fun e=>by rw [HV.out,HE.out],?_⟩
    exact(HRE.out.set4 hgR hgW hgw _ _ _ _).back HKB.out
   ·have d0:((deep:Int)-1==0)=false:=by simp;omega
    have d1:(0:Int)<=(deep:Int)-1:=by omega
    go_wp2_with first|(go_at_call 181;refine(HTA.out _ _ _ _ HT.out.1.1.here HX.out).mono ?_;rintro e w3 ⟨rfl,h3⟩;have HT3:=kf (HTR.out _ _ _ _ _ deep _ _ HT.out.1 h3 HT.out.1.2.2);clear h3)|(go_at_call 172;refine(HWB.out _ _ _ 41 HT3.out.1.here (by omega)).mono ?_;rintro e w4 ⟨rfl,h4⟩;have HT4:=kf (HTR.out _ _ _ _ _ (deep-1) _ _ HT3.out h4 (mem_snoc HT3.out.2.2 (by decide)));clear h4)
    go_step3
    refine⟨2*(bs.length-(k+1))+1,by omega,.inl ⟨rfl,rfl,rfl,rfl,rfl,k+1,deep-1,out++[41],congrArg (Value.int .i64) (by omega),rfl,by omega,by omega,by omega,by(try simp only [List.length_append,List.length_cons,List.length_nil]);omega,kf ⟨HT4.out,by rw [HV.out,txt_41 hd]⟩⟩⟩
  have e41:((x:Int)==41)=false:=by simp;omega
  have d0:((deep:Int)==0)=false:=by simp;omega
  by_cases h13:x=13
  ·subst h13
   clear h92 e92 h40 e40 h41 e41
   by_cases hkz:k+1=bs.length
   ·have HZ:=kf (show bs.drop (k+1)=[] from List.drop_of_length_le (by omega))
    have HT3E:=kf (fun X out (hX:RD X w X A bs.length c last R (k+1) out)=>HPE.out X out (by rw [<- hkz];rw [<- hkz] at hX;exact hX))
    go_wp2_with first|(go_at_call 185;refine(HT3E.out _ _ HT3.out.1.here).mono ?_;rintro e w5 ⟨rfl,h5⟩;have HT5:=kf (HTR.out _ _ _ _ _ deep _ _ HT3.out (by rw [<- hkz];rw [<- hkz] at h5;exact h5) HT3.out.2.2);clear h5)|(go_at_call 181;refine(HTA.out _ _ _ _ HT.out.1.1.here HX.out).mono ?_;rintro e w3 ⟨rfl,h3⟩;have HT3:=kf (HTR.out _ _ _ _ _ deep _ _ HT.out.1 h3 HT.out.1.2.2);clear h3)|(go_at_call 172;refine(HWB.out _ _ _ 10 HT5.out.1.here (by omega)).mono ?_;rintro e w4 ⟨rfl,h4⟩;have HT4:=kf (HTR.out _ _ _ _ _ deep _ _ HT5.out h4 (mem_snoc HT5.out.2.2 (by decide)));clear h4)
    go_step3
    refine⟨2*(bs.length-(k+1))+1,by omega,.inl ⟨rfl,rfl,rfl,rfl,rfl,k+1,deep,out++[10],rfl,rfl,by omega,by omega,by omega,by(try simp only [List.length_append,List.length_cons,List.length_nil]);omega,kf ⟨HT4.out,by rw [HV.out,HZ.out,txt_13z]⟩⟩⟩
   obtain⟨y,hy,hdy⟩:=drop_at (bs:=bs) (k:=k+1) (by omega)
   have HY:=kf hy
   have HDY:=kf hdy
   have hk2:k+2<=bs.length:=by omega
   clear hy hdy
   by_cases hy10:y=10
   ·subst hy10
    go_wp2_with first|(go_at_call 185;refine(HPA.out _ _ _ HT3.out.1.here HY.out).mono ?_;rintro e w5 ⟨rfl,h5⟩;have HT5:=kf (HTR.out _ _ _ _ _ deep _ _ HT3.out h5 HT3.out.2.2);clear h5)|(go_at_call 181;refine(HTA.out _ _ _ _ HT.out.1.1.here HX.out).mono ?_;rintro e w3 ⟨rfl,h3⟩;have HT3:=kf (HTR.out _ _ _ _ _ deep _ _ HT.out.1 h3 HT.out.1.2.2);clear h3)|(go_at_call 172;refine(HWB.out _ _ _ 10 HT5.out.1.here (by omega)).mono ?_;rintro e w4 ⟨rfl,h4⟩;have HT4:=kf (HTR.out _ _ _ _ _ deep _ _ HT5.out h4 (mem_snoc HT5.out.2.2 (by decide)));clear h4)
    go_step3
    refine⟨2*(bs.length-(k+2))+1,by omega,.inl ⟨rfl,rfl,rfl,rfl,rfl,k+2,deep,out++[10],rfl,rfl,by omega,by omega,by omega,by(try simp only [List.length_append,List.length_cons,List.length_nil]);omega,kf ⟨HT4.out,by rw [HV.out,txt_13b (by rw [HDY.out];simp) (by rw [HDY.out];rfl),List.drop_drop]⟩⟩⟩
   ·go_wp2_with first|(go_at_call 185;refine(HPN.out _ _ _ _ HT3.out.1.here HY.out hy10).mono ?_;rintro e w5 ⟨rfl,h5⟩;have HT5:=kf (HTR.out _ _ _ _ _ deep _ _ HT3.out h5 HT3.out.2.2);clear h5)|(go_at_call 181;refine(HTA.out _ _ _ _ HT.out.1.1.here HX.out).mono ?_;rintro e w3 ⟨rfl,h3⟩;have HT3:=kf (HTR.out _ _ _ _ _ deep _ _ HT.out.1 h3 HT.out.1.2.2);clear h3)|(go_at_call 172;refine(HWB.out _ _ _ 10 HT5.out.1.here (by omega)).mono ?_;rintro e w4 ⟨rfl,h4⟩;have HT4:=kf (HTR.out _ _ _ _ _ deep _ _ HT5.out h4 (mem_snoc HT5.out.2.2 (by decide)));clear h4)
    go_step3
    refine⟨2*(bs.length-(k+1))+1,by omega,.inl ⟨rfl,rfl,rfl,rfl,rfl,k+1,deep,out++[10],rfl,rfl,by omega,by omega,by omega,by(try simp only [List.length_append,List.length_cons,List.length_nil]);omega,kf ⟨HT4.out,by rw [HV.out,txt_13n (by rw [HDY.out];simp) (by rw [HDY.out];simpa using hy10)]⟩⟩⟩
  have e13:((x:Int)==13)=false:=by simp;omega
  go_wp2_with first|(go_at_call 181;refine(HTA.out _ _ _ _ HT.out.1.1.here HX.out).mono ?_;rintro e w3 ⟨rfl,h3⟩;have HT3:=kf (HTR.out _ _ _ _ _ deep _ _ HT.out.1 h3 HT.out.1.2.2);clear h3)|(go_at_call 172;refine(HWB.out _ _ _ x HT3.out.1.here (by omega)).mono ?_;rintro e w4 ⟨rfl,h4⟩;have HT4:=kf (HTR.out _ _ _ _ _ deep _ _ HT3.out h4 (mem_snoc HT3.out.2.2 hx256));clear h4)
  go_step3
  refine⟨2*(bs.length-(k+1))+1,by omega,.inl ⟨rfl,rfl,rfl,rfl,rfl,k+1,deep,out++[x],rfl,rfl,by omega,by omega,by omega,by(try simp only [List.length_append,List.length_cons,List.length_nil]);omega,kf ⟨HT4.out,by rw [HV.out,txt_x h92 h13 h40 h41]⟩⟩⟩
 case pass2 =>
  intro n x w1 hx
  obtain⟨h1,h2,h3,h4,k,deep,out,h5,rfl,hk,hd1,hd2,hm,HT⟩:=hx
  refine slots_80 h1 h2 h3 h4 (C:=fun y=>Code.wp _ _ _ y w1) ?_
  intro f hf
  rw [h5] at hf
  simp only [hf]
  clear h1 h2 h3 h4 h5 hf
  by_cases hkn:k+1=bs.length
  ·have HV:=kf (show txtO last 1 [] p (bs.drop p)=(cutE last,[],0) from by rw [HT.out.2,List.drop_of_length_le (by omega),txt_sz])
   have HTE1:=kf (fun X out (hX:RD X w X A bs.length c last R (k+1) out)=>HTE.out X out (by rw [<- hkn];rw [<- hkn] at hX;exact hX))
   go_wp2_with (go_at_call 181;refine(HTE1.out _ _ HT.out.1.1.here).mono ?_;rintro e w3 ⟨rfl,h3⟩;have HT3:=kf (HTR.out _ _ _ _ _ deep _ _ HT.out.1 h3 HT.out.1.2.2);clear h3)
   go_step3
   exact⟨0,by omega,.inr (.inl ⟨rfl,rfl,rfl,rfl,rfl,_,deep,_,rfl,kf ⟨HT3.out,HV.out⟩⟩)⟩
  obtain⟨x,hx,hd⟩:=drop_at (bs:=bs) (k:=k+1) (by omega)
  have hx256:=HB.out x (List.mem_of_getElem? hx)
  have HX:=kf hx
  have HV:=kf (show txtO last 1 [] p (bs.drop p)=txtO last deep out k (92::x::bs.drop (k+2)) from by rw [HT.out.2,hd])
  have hk1:k+2<=bs.length:=by omega
  clear hx hd
  by_cases h13:x=13
  ·subst h13
   by_cases hkz:k+2=bs.length
   ·have HZ:=kf (show bs.drop (k+2)=[] from List.drop_of_length_le (by omega))
    have HT3E:=kf (fun X out (hX:RD X w X A bs.length c last R (k+1+1) out)=>HPE.out X out (by rw [<- hkz];rw [<- hkz] at hX;exact hX))
    go_wp2_with first|(go_at_call 185;refine(HT3E.out _ _ HT3.out.1.here).mono ?_;rintro e w5 ⟨rfl,h5⟩;have HT4:=kf (HTR.out _ _ _ _ _ deep _ _ HT3.out (by rw [<- hkz];rw [<- hkz] at h5;exact h5) HT3.out.2.2);clear h5)|(go_at_call 181;refine(HTA.out _ _ _ _ HT.out.1.1.here HX.out).mono ?_;rintro e w3 ⟨rfl,h3⟩;have HT3:=kf (HTR.out _ _ _ _ _ deep _ _ HT.out.1 h3 HT.out.1.2.2);clear h3)
    go_step3
    refine⟨2*(bs.length-(k+2))+1,by omega,.inl ⟨rfl,rfl,rfl,rfl,rfl,k+2,deep,out,rfl,rfl,by omega,by omega,by omega,by(try simp only [List.length_append,List.length_cons,List.length_nil]);omega,kf ⟨HT4.out,by rw [HV.out,HZ.out,txt_s13z]⟩⟩⟩
   obtain⟨y,hy,hdy⟩:=drop_at (bs:=bs) (k:=k+2) (by omega)
   have HY:=kf hy
   have HDY:=kf hdy
   have hk2:k+3<=bs.length:=by omega
   clear hy hdy
   by_cases hy10:y=10
   ·subst hy10
    go_wp2_with first|(go_at_call 185;refine(HPA.out _ _ _ HT3.out.1.here HY.out).mono ?_;rintro e w5 ⟨rfl,h5⟩;have HT4:=kf (HTR.out _ _ _ _ _ deep _ _ HT3.out h5 HT3.out.2.2);clear h5)|(go_at_call 181;refine(HTA.out _ _ _ _ HT.out.1.1.here HX.out).mono ?_;rintro e w3 ⟨rfl,h3⟩;have HT3:=kf (HTR.out _ _ _ _ _ deep _ _ HT.out.1 h3 HT.out.1.2.2);clear h3)
    go_step3
    refine⟨2*(bs.length-(k+3))+1,by omega,.inl ⟨rfl,rfl,rfl,rfl,rfl,k+3,deep,out,rfl,rfl,by omega,by omega,by omega,by(try simp only [List.length_append,List.length_cons,List.length_nil]);omega,kf ⟨HT4.out,by rw [HV.out,txt_s13b (by rw [HDY.out];rfl),List.drop_drop]⟩⟩⟩
   ·go_wp2_with first|(go_at_call 185;refine(HPN.out _ _ _ _ HT3.out.1.here HY.out hy10).mono ?_;rintro e w5 ⟨rfl,h5⟩;have HT4:=kf (HTR.out _ _ _ _ _ deep _ _ HT3.out h5 HT3.out.2.2);clear h5)|(go_at_call 181;refine(HTA.out _ _ _ _ HT.out.1.1.here HX.out).mono ?_;rintro e w3 ⟨rfl,h3⟩;have HT3:=kf (HTR.out _ _ _ _ _ deep _ _ HT.out.1 h3 HT.out.1.2.2);clear h3)
    go_step3
    refine⟨2*(bs.length-(k+2))+1,by omega,.inl ⟨rfl,rfl,rfl,rfl,rfl,k+2,deep,out,rfl,rfl,by omega,by omega,by omega,by(try simp only [List.length_append,List.length_cons,List.length_nil]);omega,kf ⟨HT4.out,by rw [HV.out,txt_s13n (by rw [HDY.out];simpa using hy10) (by rw [HDY.out];simp)]⟩⟩⟩
  have e13:((x:Int)==13)=false:=by simp;omega
  by_cases h10:x=10
  ·subst h10
   go_wp2_with (go_at_call 181;refine(HTA.out _ _ _ _ HT.out.1.1.here HX.out).mono ?_;rintro e w3 ⟨rfl,h3⟩;have HT4:=kf (HTR.out _ _ _ _ _ deep _ _ HT.out.1 h3 HT.out.1.2.2);clear h3)
   go_step3
   refine⟨2*(bs.length-(k+2))+1,by omega,.inl ⟨rfl,rfl,rfl,rfl,rfl,k+2,deep,out,rfl,rfl,by omega,by omega,by omega,by(try simp only [List.length_append,List.length_cons,List.length_nil]);omega,kf ⟨HT4.out,by rw [HV.out,txt_s10]⟩⟩⟩
  have e10:((x:Int)==10)=false:=by simp;omega
  by_cases hoct:48<=x/\x<=55
  ·have HO:=kf (txt_soct (last:=last) (deep:=deep) (k:=k) (out:=out) (l:=bs.drop (k+2)) hoct)
   have hle:=octs_le 2 (x-48) (bs.drop (k+2))
   rw [List.length_drop] at hle
   obtain⟨u,hu⟩:∃ u,u=x-48:=⟨_,rfl⟩
   have hu8:u<8:=by omega
   have w2:IntKind.u8.wrap ((x:Int)-48)=(u:Int):=by rw [IntKind.wrap_u8];omega
   have m1:decide ((48:Int)<=x)=true:=by simp;omega
   have m2:decide ((x:Int)<=55)=true:=by simp;omega
   have m3:decide (48<=x)=true:=by simp;omega
   have m4:decide (x<=55)=true:=by simp;omega
   rw [<- hu] at HO hle
   obtain⟨v,hv⟩:∃ v,(octs 2 u (bs.drop (k+2))).1%256=v:=⟨_,rfl⟩
   obtain⟨q,hq⟩:∃ q,(octs 2 u (bs.drop (k+2))).2=q:=⟨_,rfl⟩
   have HOC1:=kf (fun X out (hX:RD X w X A bs.length c last R (k+1+1) out)=>HOC.out X out (k+1+1) u hX hk1 hu8)
   have hv256:v<256:=by rw [<- hv];exact Nat.mod_lt _ (by decide)
   have hvq:(octs 2 u (bs.drop (k+1+1))).1%256=v/\(octs 2 u (bs.drop (k+1+1))).2=q:=⟨hv,hq⟩
   rw [hvq.1,hvq.2] at HOC1
   rw [hv,hq] at HO
   rw [hq] at hle
   have hq2:=hle.2
   clear hle hv hq hvq hu hoct
   go_upto_region 22 with(go_at_call 181;refine(HTA.out _ _ _ _ HT.out.1.1.here HX.out).mono ?_;rintro e w3 ⟨rfl,h3⟩;have HT3:=kf (HTR.out _ _ _ _ _ deep _ _ HT.out.1 h3 HT.out.1.2.2);clear h3)
   have hRR:=HT3.out.1.new
   first
    |(go_loud (go_region_held3 (fun _=>True) (first|trivial|(go_keep;done))
      (first
       |(go_at_call 206;refine(HOC1.out _ _ (HT3.out.1.call ((Chg.refl NoS _).drew)).here).mono ?_;rintro e w5 ⟨rfl,h5⟩;have HT5:=kf (HTR.out _ _ _ _ _ deep _ _ HT3.out (h5.base ((KB.chg ((Chg.refl NoS _).drew)).trans h5.kb)) HT3.out.2.2);clear h5)
       |(go_at_call 172;refine(HWB.out _ _ _ v HT5.out.1.here (by omega)).mono ?_;rintro e w4 ⟨rfl,h4⟩;have HT4:=kf (HTR.out _ _ _ _ _ deep _ _ HT5.out h4 (mem_snoc HT5.out.2.2 hv256));clear h4))))
    |fail "region"
   go_wp2_with fail
   go_step3
   refine⟨2*(bs.length-(k+2+q))+1,by omega,.inl ⟨rfl,rfl,rfl,rfl,rfl,k+2+q,deep,out++[v],rfl,rfl,by omega,by omega,by omega,by(try simp only [List.length_append,List.length_cons,List.length_nil]);omega,kf ⟨HT4.out,by rw [HV.out,HO.out,List.drop_drop]⟩⟩⟩
  have HM:=kf (txt_sx (last:=last) (deep:=deep) (k:=k) (out:=out) (l:=bs.drop (k+2)) h10 h13 hoct)
  have hm256:mnt x<256:=mnt_lt hx256
  have HME1:=kf (fun X=>HME.out x X)
  obtain⟨v,hv⟩:∃ v,mnt x=v:=⟨_,rfl⟩
  rw [hv] at HM HME1 hm256
  have m0:(decide ((48:Int)<=x)&&decide ((x:Int)<=55))=false:=by simp;omega
  clear hv
  by_cases hlo:48<=x
  ·have hhi:¬x<=55:=by omega
   have m1:decide ((48:Int)<=x)=true:=by simp;omega
   have m2:decide ((x:Int)<=55)=false:=by simp;omega
   have m3:decide (48<=x)=true:=by simp;omega
   have m4:decide (x<=55)=false:=by simp;omega
   clear hoct
   go_upto_region 23 with(go_at_call 181;refine(HTA.out _ _ _ _ HT.out.1.1.here HX.out).mono ?_;rintro e w3 ⟨rfl,h3⟩;have HT3:=kf (HTR.out _ _ _ _ _ deep _ _ HT.out.1 h3 HT.out.1.2.2);clear h3)
   first
    |(go_loud (go_region_held3 (fun _=>True) (first|trivial|(go_keep;done))
      (first
       |(go_at_call 207;refine(HME1.out _).mono ?_;rintro e w5 ⟨rfl,rfl⟩;have HT5:=kf (HTR.out _ _ _ _ _ deep _ _ HT3.out (HT3.out.1.here.call ((Chg.refl NoS _).drew)) HT3.out.2.2))
       |(go_at_call 172;refine(HWB.out _ _ _ v HT5.out.1.here (by omega)).mono ?_;rintro e w4 ⟨rfl,h4⟩;have HT4:=kf (HTR.out _ _ _ _ _ deep _ _ HT5.out h4 (mem_snoc HT5.out.2.2 hm256));clear h4))))
    |fail "region"
   go_wp2_with fail
   go_step3
   refine⟨2*(bs.length-(k+2))+1,by omega,.inl ⟨rfl,rfl,rfl,rfl,rfl,k+2,deep,out++[v],rfl,rfl,by omega,by omega,by omega,by(try simp only [List.length_append,List.length_cons,List.length_nil]);omega,kf ⟨HT4.out,by rw [HV.out,HM.out]⟩⟩⟩
  ·have m1:decide ((48:Int)<=x)=false:=by simp;omega
   have m3:decide (48<=x)=false:=by simp;omega
   clear hoct
   go_upto_region 23 with(go_at_call 181;refine(HTA.out _ _ _ _ HT.out.1.1.here HX.out).mono ?_;rintro e w3 ⟨rfl,h3⟩;have HT3:=kf (HTR.out _ _ _ _ _ deep _ _ HT.out.1 h3 HT.out.1.2.2);clear h3)
   first
    |(go_loud (go_region_held3 (fun _=>True) (first|trivial|(go_keep;done))
      (first
       |(go_at_call 207;refine(HME1.out _).mono ?_;rintro e w5 ⟨rfl,rfl⟩;have HT5:=kf (HTR.out _ _ _ _ _ deep _ _ HT3.out (HT3.out.1.here.call ((Chg.refl NoS _).drew)) HT3.out.2.2))
       |(go_at_call 172;refine(HWB.out _ _ _ v HT5.out.1.here (by omega)).mono ?_;rintro e w4 ⟨rfl,h4⟩;have HT4:=kf (HTR.out _ _ _ _ _ deep _ _ HT5.out h4 (mem_snoc HT5.out.2.2 hm256));clear h4))))
    |fail "region"
   go_wp2_with fail
   go_step3
   refine⟨2*(bs.length-(k+2))+1,by omega,.inl ⟨rfl,rfl,rfl,rfl,rfl,k+2,deep,out++[v],rfl,rfl,by omega,by omega,by omega,by(try simp only [List.length_append,List.length_cons,List.length_nil]);omega,kf ⟨HT4.out,by rw [HV.out,HM.out]⟩⟩⟩
end Go.Proofs.YthejpkflcgjdoaaGreatDoor
namespace Go.Proofs.YthejpkflcgjdoaaGreatDoor.PS
open Go.RowKit
def Hole (key:Int->Int) (d:List Int) (a i j:Nat):Prop :=
 (∀ p q,a<=p->p<q->q<i+1->p≠j->q≠j->key (d.getD p 0)<=key (d.getD q 0))/\(∀ q,j<q->q<i+1->key (d.getD j 0)<=key (d.getD q 0))
theorem hole_start {key:Int->Int} {d:List Int} {a i:Nat} (h:Sorted key d a i):Hole key d a i i :=
 ⟨fun p q hp hpq hq h1 h2=>h p q hp hpq (by omega),fun q h1 h2=>absurd h1 (by omega)⟩
theorem hole_done {key:Int->Int} {d:List Int} {a i j:Nat} (h:Hole key d a i j) (haj:a<=j) (hji:j<=i) (hl:j=a\/key (d.getD (j-1) 0)<=key (d.getD j 0)):Sorted key d a (i+1):=by
 intro p q hp hpq hq
 by_cases h1:p=j
 ·subst h1;exact h.2 q hpq hq
 ·by_cases h2:q=j
  ·subst h2
   rcases hl with h3|h3
   ·omega
   ·by_cases h4:p=q-1
    ·subst h4;exact h3
    ·exact Int.le_trans (h.1 p (q-1) hp (by omega) (by omega) h1 (by omega)) h3
  ·exact h.1 p q hp hpq hq h1 h2
theorem hole_step {key:Int->Int} {d:List Int} {a i j:Nat} (h:Hole key d a i (j+1)) (haj:a<=j) (hji:j+1<=i) (hi:i<d.length) (hlt:key (d.getD (j+1) 0)<key (d.getD j 0)):Hole key (swapD d (j+1) j) a i j:=by
 have g:=fun k=>swapD_get d (j+1) j k (by omega) (by omega)
 refine⟨fun p q hp hpq hq h1 h2=>?_,fun q h1 h2=>?_⟩
 ·rw [g p,g q,if_neg h1,if_neg h2]
  by_cases h3:p=j+1
  ·subst h3
   rw [if_pos rfl,if_neg (by omega)]
   exact h.1 j q haj (by omega) hq (by omega) (by omega)
  ·rw [if_neg h3]
   by_cases h4:q=j+1
   ·subst h4
    rw [if_pos rfl]
    exact h.1 p j hp (by omega) (by omega) h3 (by omega)
   ·rw [if_neg h4]
    exact h.1 p q hp hpq hq h3 h4
 ·rw [g j,g q,if_pos rfl,if_neg (by omega)]
  by_cases h4:q=j+1
  ·subst h4;rw [if_pos rfl];omega
  ·rw [if_neg h4]
   exact h.2 q (by omega) h2
set_option maxHeartbeats 4000000 in
set_option maxRecDepth 100000 in
theorem ins_any [PAd] (g:Nat) (lb:Array Value) (eg:∀ args w,(callFunc g args).run Tryz.prog w=.ok (.enter g args) w) (key0 key:Int->Int) (NN:Int) (hkk:key=kk key0 NN) (gs cap:Nat) (w0:World) (hcmp:CmpOf g lb key0 NN gs w0)
  (a b:Nat) (d:List Int) (w:World) (hab:a<=b) (hb:b<=d.length) (hL:d.length<=1000000) (hR:Row w gs cap d) (hG:Good NN d) (hst:InTurn key0 d) (hch:Chg (fun i=>i=gs) w0 w) :
  Calls Tryz.prog 128 #[.slice (some ⟨gs,0,none⟩) d.length cap,.int .i64 a,.int .i64 b,.func (.func g) #[] lb] w (SortTo w gs cap d a b (fun d'=>Sorted key d' a b)):=by
 have HR:=kf hR
 have HG:=kf hG
 have HCH:=kf hch
 have HST:=kf hst
 have HKK:=kf hkk
 clear hR hG hch hst
 obtain⟨N,hN⟩:∃ N,N=d.length:=⟨_,rfl⟩
 have HN:=kf hN
 rw [<- hN] at hb hL ⊢
 clear hN
 go_enter Tryz.func128,Tryz.ntmps128
 go_wp2_with fail
 go_loopw [8] (fun v wr=>∃ i:Nat,∃ d1:List Int,a+1<=i/\i<=b+1/\v=.int .i64 i/\d1.length=N/\Row wr gs cap d1/\Hid (Same d d1 a b)/\Hid ((∀ e,e<=i->e<=b->Sorted key d1 a e)/\InTurn key0 d1)/\Chg (fun i=>i=gs) w wr) (fun v _=>b+1-(intOf v).toNat)
 case atStart=>exact⟨a+1,d,by omega,by omega,by go_num,HN.out.symm,HR.out,Same.refl _ _ _,⟨fun e h1 h2 p q h3 h4 h5=>absurd h4 (by omega),HST.out⟩,Chg.refl _ _⟩
 case round =>
  obtain⟨i,d1,hi1,hi2,rfl,hl1,hRw,hSm,hSo,hc⟩:=hrel
  have HRw:=kf hRw
  have HCw:=kf hc
  clear hRw hc
  by_cases hlt:i<b
  ·go_wp2_with fail
   go_loopw [9] (fun v wr2=>∃ j:Nat,∃ d2:List Int,a<=j/\j<=i/\v=.int .i64 j/\d2.length=N/\Row wr2 gs cap d2/\Hid (Same d d2 a b)/\Hid (Hole key d2 a i j/\Same d1 d2 a (i+1)/\d2.getD j 0=d1.getD i 0/\∀ p,p<j->d2.getD p 0=d1.getD p 0)/\Chg (fun i=>i=gs) w wr2) (fun v _=>(intOf v).toNat)
   case atStart=>exact⟨i,d1,by omega,by omega,rfl,hl1,HRw.out,hSm.out,⟨hole_start (hSo.out.1 i (Nat.le_refl _) (by omega)),Same.refl _ _ _,rfl,fun _ _=>rfl⟩,HCw.out⟩
   case round =>
    obtain⟨j,d2,hj1,hj2,rfl,hl2,hR2,hS2,hH,hc2⟩:=hrel
    have HR2:=kf hR2
    have HC2:=kf hc2
    clear hR2 hc2
    by_cases hja:a<j
    ·obtain⟨j',hj'⟩:∃ j',j=j'+1:=⟨j-1,by omega⟩
     have e1:((j:Int)-1)=(j':Int):=by omega
     have k1:=HR2.out.cell j (by omega)
     have k2:=HR2.out.cell j' (by omega)
     have f1:=HR2.out.frozen j
     have f2:=HR2.out.frozen j'
     have g2:=HG.out.same hS2.out
     have hcl:=kf (fun n=>quiet_draw (n:=n) (hcmp (d2.getD j 0) (d2.getD j' 0) (wr.drewN n) (g2.get j (by omega)).1 (g2.get j (by omega)).2 (g2.get j' (by omega)).1 (g2.get j' (by omega)).2 ((HCH.out.trans HC2.out (fun _ _ h=>h)).drewN n)))
     have hja':(a:Int)<j:=by omega
     have b1:(j:Int)<N:=by omega
     have b2:(j':Int)<N:=by omega
     obtain⟨x,hx⟩:∃ x,x=d2.getD j 0:=⟨_,rfl⟩
     obtain⟨y,hy⟩:∃ y,y=d2.getD j' 0:=⟨_,rfl⟩
     rw [<- hx] at k1 hcl
     rw [<- hy] at k2 hcl
     have hcv:=cmp_cross HKK.out hSo.out.2 (HG.out.same hSm.out) (show j'<i by omega) (by omega)
     rw [<- hH.out.2.2.1,<- hH.out.2.2.2 j' (by omega),<- hx,<- hy] at hcv
     have HX:=kf hx
     have HY:=kf hy
     have HJ:=kf hj'
     clear hx hy hj' g2
     obtain⟨cv,hcv0⟩:∃ cv,cv=cmpv (key0 x) (key0 y):=⟨_,rfl⟩
     rw [<- hcv0] at hcl hcv
     clear hcv0
     by_cases hxy:key x<key y
     ·have hd:decide (cv<0)=true:=by rw [hcv];simpa using hxy
      have HXY:=kf hxy
      clear hcv hxy
      go_upto_region 4 with fail
      go_quiet ((go_at_fn g;exact hcl.out _))
      go_upto_region 6 with fail
      have hR3:=HR2.out.drewN nq
      have hC3:=HC2.out.drewN nq
      have k1':=hR3.cell j (by omega)
      have k2':=hR3.cell j' (by omega)
      have f1':=hR3.frozen j
      have f2':=hR3.frozen j'
      rw [<- HX.out] at k1'
      rw [<- HY.out] at k2'
      clear k1 k2 f1 f2
      generalize wr.drewN nq=wq at *
      have HR3:=kf hR3
      have HC3:=kf hC3
      clear hR3 hC3
      go_region
      go_wp2_with fail
      go_roundw
      case rel =>
       have hkk:=HJ.out
       subst hkk
       have hsw:=HR3.out.swap (j'+1) j'
       rw [<- HX.out,<- HY.out] at hsw
       refine⟨j',swapD d2 (j'+1) j',by omega,by omega,by go_num,by rw [swapD_len];exact hl2,hsw.drew,hS2.out.trans (Same.swap d2 a b (j'+1) j' (by omega) (by omega) (by omega)),⟨hole_step hH.out.1 (by omega) hj2 (by omega) (by have:=HXY.out;rw [HX.out,HY.out] at this;exact this),hH.out.2.1.trans (Same.swap d2 a (i+1) (j'+1) j' (by omega) (by omega) (by omega)),by rw [swapD_get d2 _ _ _ (by omega) (by omega),if_pos rfl];exact hH.out.2.2.1,fun p hp=>by rw [swapD_get d2 _ _ p (by omega) (by omega),if_neg (by omega),if_neg (by omega)];exact hH.out.2.2.2 p (by omega)⟩,((HC3.out.setCell (p:=⟨gs,j'+1,none⟩) (fun _=>rfl) _).setCell (p:=⟨gs,j',none⟩) (fun _=>rfl) _).drew⟩
      case measure=>simp [intOf];have:=HJ.out;omega
     ·have hd:decide (cv<0)=false:=by rw [hcv];simpa using hxy
      have HXY:=kf hxy
      clear hcv hxy
      go_upto_region 4 with fail
      go_quiet ((go_at_fn g;exact hcl.out _))
      go_wp2_with fail
      go_roundw
      case rel =>
       have hso:=hole_done hH.out.1 hj1 hj2 (.inr (by have h4:=HXY.out;rw [HX.out,HY.out] at h4;rw [show j-1=j' from by have:=HJ.out;omega];omega))
       exact⟨i+1,d2,by omega,by omega,by go_num,hl2,HR2.out.drewN nq,hS2.out,⟨fun e h1 h2=>hso.part (Nat.le_refl _) h1,hSo.out.2.same HKK.out hH.out.2.1 (by omega) (HG.out.same hS2.out).get hso⟩,HC2.out.drewN nq⟩
      case measure=>simp [intOf];omega
    ·have hja':decide ((a:Int)<j)=false:=by simp;omega
     have HAJ:=kf (show j=a by omega)
     go_upto_region 4 with fail
     go_quiet (fail)
     go_wp2_with fail
     go_roundw
     case rel =>
      have hso:=hole_done hH.out.1 hj1 hj2 (.inl HAJ.out)
      exact⟨i+1,d2,by omega,by omega,by go_num,hl2,HR2.out.drewN nq,hS2.out,⟨fun e h1 h2=>hso.part (Nat.le_refl _) h1,hSo.out.2.same HKK.out hH.out.2.1 (by omega) (HG.out.same hS2.out).get hso⟩,HC2.out.drewN nq⟩
     case measure=>simp [intOf];omega
  ·go_wp2_with fail
   go_end0
   exact⟨rfl,d1,HRw.out,hSm.out,hSo.out.1 b (by omega) (Nat.le_refl _),HCw.out⟩
end Go.Proofs.YthejpkflcgjdoaaGreatDoor.PS
