/- Merged by program. -/
import Derived.Test.YthejpkflcgjdoaaGreatDoorE05
import Derived.Test.YthejpkflcgjdoaaGreatDoorE11
import Derived.Test.YthejpkflcgjdoaaGreatDoorE18
set_option linter.unusedVariables false
set_option linter.unusedSimpArgs false
namespace Go.Proofs.YthejpkflcgjdoaaGreatDoor
open Go.RowKit
theorem pairs_even:∀ (ds l:List Nat),ds.length%2=0->pairs (ds++l)=pairs ds++pairs l
 |[],_,_=>rfl
 |[a],_,h=>by simp at h
 |a::b::ds,l,h=>by
  have:=pairs_even ds l (by simp only [List.length_cons] at h;omega)
  rw [List.cons_append,List.cons_append,pairs,pairs,this]
  rfl
def HxS (ds:List Nat) (odd:Bool) (h:Nat) (out:List Nat):Prop :=
 if odd then ∃ es a,ds=es++[a]/\es.length%2=0/\out=pairs es/\h=16*a/\a<16 else ds.length%2=0/\out=pairs ds
theorem HxS.nil (h:Nat):HxS [] false h []:=⟨rfl,rfl⟩
theorem HxS.one {ds out:List Nat} {h d:Nat} (k:HxS ds false h out) (hd:d<16):HxS (ds++[d]) true (16*d) out:=⟨ds,d,rfl,k.1,k.2,rfl,hd⟩
theorem HxS.two {ds out:List Nat} {h d h':Nat} (k:HxS ds true h out):HxS (ds++[d]) false h' (out++[h+d]):=by
 obtain⟨es,a,rfl,e1,rfl,rfl,_⟩:=k
 refine⟨by simp;omega,?_⟩
 rw [List.append_assoc,pairs_even _ _ e1]
 rfl
theorem HxS.end0 {ds out:List Nat} {h:Nat} (k:HxS ds false h out):pairs ds=out:=k.2.symm
theorem HxS.end1 {ds out:List Nat} {h:Nat} (k:HxS ds true h out):pairs ds=out++[h]:=by
 obtain⟨es,a,rfl,e1,rfl,rfl,_⟩:=k
 rw [pairs_even _ _ e1]
 rfl
theorem HxS.lt {ds out:List Nat} {h:Nat} (k:HxS ds true h out):∃ a,h=16*a/\a<16:=by
 obtain⟨es,a,rfl,e1,rfl,rfl,h3⟩:=k
 exact⟨a,rfl,h3⟩
theorem or_16 {h a d:Nat} (hh:h=16*a) (ha:a<16) (hd:d<16):bits BinOp.or IntKind.u8 (h:Int) (d:Int)=((h+d:Nat):Int):=by
 rw [u8_or_nat h d (by omega) (by omega),hh]
 have:=(Nat.two_pow_add_eq_or_of_lt (i:=4) (b:=d) (by omega) a).symm
 exact congrArg Nat.cast this
section
variable {last:Bool} {ds l:List Nat} {p c d:Nat}
theorem hex_end:hexO last ds p (62::l)=(0,pairs ds,p+1):=by rw [hexO,if_pos rfl]
theorem hex_sp (h1:c≠62) (h2:isSp c=true):hexO last ds p (c::l)=hexO last ds (p+1) l:=by rw [hexO,if_neg h1,if_pos h2]
theorem hex_bad (h1:c≠62) (h2:isSp c=false) (h3:hexD c=none):hexO last ds p (c::l)=(11,[],0):=by rw [hexO,if_neg h1,if_neg (by rw [h2];decide),h3]
theorem hex_dig (h1:c≠62) (h2:isSp c=false) (h3:hexD c=some d):hexO last ds p (c::l)=hexO last (ds++[d]) (p+1) l:=by rw [hexO,if_neg h1,if_neg (by rw [h2];decide),h3]
end
def HxJ0 (V w:World) (A:Option Addr) (bs:List Nat) (c:Nat) (last:Bool) (R g p:Nat) (n:Nat) (x:Act) (w':World):Prop :=
 x.defers=[]/\x.tmps.size=57/\x.tmps.getD 0 undef=.pointer (some ⟨R,0,none⟩)/\x.tmps.getD 2 undef=.pointer (some ⟨g,0,none⟩)/\∃ (k h:Nat) (odd:Bool) (ds out:List Nat),x.tmps.getD 4 undef=.bool odd/\x.tmps.getD 5 undef=.int .u8 (h:Nat)/\n=(bs.length-k)+1/\k<=bs.length/\out.length<=k /\
  Hid (TxR V w A bs c last R g p k 0 out w'/\hexO last [] p (bs.drop p)=hexO last ds k (bs.drop k)/\HxS ds odd h out)
def HxJ1 (V w:World) (A:Option Addr) (bs:List Nat) (c:Nat) (last:Bool) (R g p:Nat) (n:Nat) (x:Act) (w':World):Prop :=
 x.defers=[]/\x.tmps.size=57/\x.tmps.getD 0 undef=.pointer (some ⟨R,0,none⟩)/\x.tmps.getD 2 undef=.pointer (some ⟨g,0,none⟩)/\∃ (k h:Nat) (odd:Bool) (ds out:List Nat),x.tmps.getD 4 undef=.bool odd/\x.tmps.getD 5 undef=.int .u8 (h:Nat)/\n=0/\k<=bs.length/\out.length<=k /\
  Hid (TxR V w A bs c last R g p k 0 out w'/\hexO last [] p (bs.drop p)=(0,pairs ds,k)/\HxS ds odd h out)
theorem slots_57 {x:Act} {v0 v2:Value} {C:Act->Prop} (h1:x.defers=[]) (h2:x.tmps.size=57) (h3:x.tmps.getD 0 undef=v0) (h4:x.tmps.getD 2 undef=v2)
  (k:∀ f:Nat->Value,f 4=x.tmps.getD 4 undef->f 5=x.tmps.getD 5 undef->C { tmps:=#[v0,f 1,v2,f 3,f 4,f 5,f 6,f 7,f 8,f 9,f 10,f 11,f 12,f 13,f 14,f 15,f 16,f 17,f 18,f 19,f 20,f 21,f 22,f 23,f 24,f 25,f 26,f 27,f 28,f 29,f 30,f 31,f 32,f 33,f 34,f 35,f 36,f 37,f 38,f 39,f 40,f 41,f 42,f 43,f 44,f 45,f 46,f 47,f 48,f 49,f 50,f 51,f 52,f 53,f 54,f 55,f 56],defers:=[] }):C x:=by
 obtain⟨t,d⟩:=x
 simp only at h1 h2 h3 h4
 subst h1
 have h5:=k (fun i=>t.getD i undef) rfl rfl
 rw [<- h3,<- h4] at h5
 rw [arr_slots t 57 h2]
 exact h5
set_option maxHeartbeats 8000000 in
set_option maxRecDepth 100000 in
theorem phex_any {V w W:World} {A:Option Addr} {bs:List Nat} {c R p:Nat} {last:Bool} (h:RD V w W A bs.length c last R p []) (hS:Src w 1 A bs.length c (lcells bs)) (hl:bs.length<=500000) (hc:bs.length<=c) (hp:p<=bs.length) (hb:∀ d∈bs,d<256) :
  Calls Tryz.prog 186 #[.pointer (some ⟨R,0,none⟩)] W (PTo V w R 4 (hexO last [] p (bs.drop p))):=by
 have hl6:bs.length<=1000000:=by omega
 have HTE:=kf (fun X out (hX:RD X w X A bs.length c last R bs.length out)=>ptake_end hX)
 have HTA:=kf (fun X out k x (hX:RD X w X A bs.length c last R k out) (hx:bs[k]?=some x)=>ptake_at hX hS hl6 hc hx)
 have HWB:=kf (fun X out k y (hX:RD X w X A bs.length c last R k out) (ho:out.length<=1000000)=>pwbyte_any hX y ho)
 have HCU:=kf (fun X out k (hX:RD X w X A bs.length c last R k out)=>pcut_any hX 10)
 have HBU:=kf (fun X out k (hX:RD X w X A bs.length c last R k out) (ho:∀ d∈out,d<256) (hm:out.length<=1000000)=>pbuilt_any hX ho hm 4)
 have HDG:=kf (fun y (hy:y<256) X=>pdigit_any y hy X)
 have HSP:=kf (fun y X=>pspace_any y X)
 have HB:=kf hb
 have HKB:=kf h.kb
 have HR0:=kf h.here
 have hRW:=h.lt
 have hwW:=h.chg.size
 obtain⟨g,hg⟩:∃ g,g=W.heap.size:=⟨_,rfl⟩
 have HG:=kf hg
 have hgR:g≠R:=by omega
 have hgW:W.heap.size<=g:=by omega
 have hgw:w.heap.size<=g:=by omega
 have HTR:=kf (fun(X X':World) (k k' deep deep':Nat) (out out':List Nat) (h:TxR W w A bs c last R g p k deep out X) (h':RD X w X' A bs.length c last R k' out') (hb:∀ d∈out',d<256)=>TxR.step (deep':=deep') h h' hgR hb)
 have HL6:=kf hl6
 clear h hS hb hc hl6 hg hwW hRW
 go_enter Tryz.func186,Tryz.ntmps186
 go_wp2
 refine wp_scope2 (HxJ0 W w A bs c last R g p) (HxJ1 W w A bs c last R g p) rfl rfl ?pass0 ?pass1 ?first
 case first =>
  intro hpass _
  have HPass:=kf hpass
  clear hpass
  go_wp2
  go_step3
  rename_i hK
  refine hK _ _ (HPass.out _ _ _ ⟨rfl,rfl,rfl,by rw [HG.out];rfl,p,0,false,[],[],rfl,rfl,rfl,hp,Nat.zero_le _,kf ⟨⟨HR0.out.call ((Chg.refl NoS W).alloc _),by rw [HG.out];exact Blk.new _ _ _,fun d hd=>by cases hd⟩,rfl,HxS.nil 0⟩⟩)
 case pass1 =>
  intro n x w1 hx
  obtain⟨h1,h2,h3,h4,k,h,odd,ds,out,h5,h6,rfl,hk,hm,HT⟩:=hx
  refine slots_57 h1 h2 h3 h4 (C:=fun y=>Code.wp _ _ _ y w1) ?_
  intro f hf hf2
  rw [h5] at hf
  rw [h6] at hf2
  simp only [hf,hf2]
  clear h1 h2 h3 h4 h5 h6 hf hf2
  have HV:=kf HT.out.2.1
  have HT1:=kf HT.out.1
  cases odd
  ·have HE:=kf HT.out.2.2.end0
   go_wp2_with (go_at_call 205;refine(HBU.out _ _ _ HT1.out.1.here HT1.out.2.2 (by(try simp only [List.length_append,List.length_cons,List.length_nil]);omega)).mono ?_;rintro e w4 ⟨rfl,h4⟩;obtain⟨r0,r1,r2,r3,z0,z1,z2,z3⟩:=(h4.kb _ _ _ hgR (by decide) HT1.out.2.1).cl4;have HRE:=kf (h4.back HT1.out.1.kb);clear h4)
   simp only [hops]
   refine bodyPost_ret (v:=.tuple #[.agg #[.int .i64 4,.int .i64 0,.string (sb (out)),.slice none 0 0],.int .i64 0]) (by simp [results,Tryz.results186,go_sem,r0,r1,r2,r3]) rfl ?_
   refine⟨by rw [HV.out,HE.out];rfl,k,fun e=>by rw [HV.out],?_⟩
   exact(HRE.out.set4 hgR hgW hgw _ _ _ _).back HKB.out
  ·have HE:=kf HT.out.2.2.end1
   have hh256:h<256:=by obtain⟨a,h7,h8⟩:=HT.out.2.2.lt;omega
   go_wp2_with first
    |(go_at_call 172;refine(HWB.out _ _ _ h HT1.out.1.here (by omega)).mono ?_;rintro e w3 ⟨rfl,h3⟩;have HT2:=kf (HTR.out _ _ _ _ _ 0 _ _ HT1.out h3 (mem_snoc HT1.out.2.2 hh256));clear h3)
    |(go_at_call 205;refine(HBU.out _ _ _ HT2.out.1.here HT2.out.2.2 (by(try simp only [List.length_append,List.length_cons,List.length_nil]);omega)).mono ?_;rintro e w4 ⟨rfl,h4⟩;obtain⟨r0,r1,r2,r3,z0,z1,z2,z3⟩:=(h4.kb _ _ _ hgR (by decide) HT2.out.2.1).cl4;have HRE:=kf (h4.back HT2.out.1.kb);clear h4)
   simp only [hops]
   refine bodyPost_ret (v:=.tuple #[.agg #[.int .i64 4,.int .i64 0,.string (sb (out++[h])),.slice none 0 0],.int .i64 0]) (by simp [results,Tryz.results186,go_sem,r0,r1,r2,r3]) rfl ?_
   refine⟨by rw [HV.out,HE.out];rfl,k,fun e=>by rw [HV.out],?_⟩
   exact(HRE.out.set4 hgR hgW hgw _ _ _ _).back HKB.out
 case pass0 =>
  intro n x w1 hx
  obtain⟨h1,h2,h3,h4,k,h,odd,ds,out,h5,h6,rfl,hk,hm,HT⟩:=hx
  refine slots_57 h1 h2 h3 h4 (C:=fun y=>Code.wp _ _ _ y w1) ?_
  intro f hf hf2
  rw [h5] at hf
  rw [h6] at hf2
  simp only [hf,hf2]
  clear h1 h2 h3 h4 h5 h6 hf hf2
  by_cases hkn:k=bs.length
  ·subst hkn
   have HV:=kf (show hexO last [] p (bs.drop p)=(cutE last,[],0) from by rw [HT.out.2.1,List.drop_of_length_le (Nat.le_refl _),hexO])
   have hec:(if last then(10:Int) else 6)=cutE last:=rfl
   have hne:=cutE_ne last
   obtain⟨er,her⟩:∃ er,er=cutE last:=⟨_,rfl⟩
   have HCU1:=kf (fun X hX=>HCU.out X out bs.length hX)
   rw [hec,<- her] at HCU1
   rw [<- her] at HV hne
   have HNE:=kf hne
   clear hec her hne
   go_wp2_with first
    |(go_at_call 181;refine(HTE.out _ _ HT.out.1.1.here).mono ?_;rintro e w3 ⟨rfl,h3⟩;have HT3:=kf (HTR.out _ _ _ _ _ 0 _ _ HT.out.1 h3 HT.out.1.2.2);clear h3;obtain⟨r0,r1,r2,r3,z0,z1,z2,z3⟩:=HT3.out.2.1.cl4)
    |(go_at_call 182;refine(HCU1.out _ HT3.out.1.here).mono ?_;rintro e w4 ⟨rfl,rfl⟩)
   simp only [hops]
   refine bodyPost_ret (v:=.tuple #[.agg #[.int .i64 0,.int .i64 0,.string ⟨#[]⟩,.slice none 0 0],.int .i64 er]) (by simp [results,Tryz.results186,go_sem,r0,r1,r2,r3]) rfl ?_
   refine⟨by rw [HV.out,TkV_err HNE.out],bs.length,fun e=>absurd (by rw [HV.out] at e;exact e) HNE.out,?_⟩
   exact(HT3.out.1.re.set4 hgR hgW hgw _ _ _ _).back HKB.out
  obtain⟨x,hx,hd⟩:=drop_at (bs:=bs) (k:=k) (by omega)
  have hx256:=HB.out x (List.mem_of_getElem? hx)
  have HX:=kf hx
  have HV:=kf (show hexO last [] p (bs.drop p)=hexO last ds k (x::bs.drop (k+1)) from by rw [HT.out.2.1,hd])
  have hk1:k+1<=bs.length:=by omega
  have HDG1:=kf (fun X=>HDG.out x hx256 X)
  have HSP1:=kf (fun X=>HSP.out x X)
  have hv16:=hexV_lt x
  clear hx hd
  by_cases hs:isSp x=true
  ·have HGS:=kf hs
   have hx62:x≠62:=by rintro rfl;cases hs
   have HV2:=kf (hex_sp (last:=last) (ds:=ds) (p:=k) (l:=bs.drop (k+1)) hx62 hs)
   rw [hs] at HSP1
   obtain⟨v,hv⟩:∃ v,hexV x=v:=⟨_,rfl⟩
   obtain⟨b,hb⟩:∃ b,(hexD x).isSome=b:=⟨_,rfl⟩
   rw [hv,hb] at HDG1
   clear hs hv hb hx62
   go_wp2_with first|(go_at_call 181;refine(HTA.out _ _ _ _ HT.out.1.1.here HX.out).mono ?_;rintro e w3 ⟨rfl,h3⟩;have HT3:=kf (HTR.out _ _ _ _ _ 0 _ _ HT.out.1 h3 HT.out.1.2.2);clear h3)|(go_at_call 208;refine(HDG1.out _).mono ?_;rintro e w5 ⟨rfl,rfl⟩)|(go_at_call 151;refine(HSP1.out _).mono ?_;rintro e w5 ⟨rfl,rfl⟩)
   go_step3
   exact⟨(bs.length-(k+1))+1,by omega,.inl ⟨rfl,rfl,rfl,rfl,rfl,k+1,h,odd,ds,out,rfl,rfl,rfl,hk1,by omega,kf ⟨HT3.out,by rw [HV.out,HV2.out],HT.out.2.2⟩⟩⟩
  have HGS:=kf (show isSp x=false from by simpa using hs)
  rw [HGS.out] at HSP1
  clear hs
  by_cases h62:x=62
  ·subst h62
   have HV2:=kf (hex_end (last:=last) (ds:=ds) (p:=k) (l:=bs.drop (k+1)))
   obtain⟨v,hv⟩:∃ v,hexV 62=v:=⟨_,rfl⟩
   obtain⟨b,hb⟩:∃ b,(hexD 62).isSome=b:=⟨_,rfl⟩
   rw [hv,hb] at HDG1
   clear hv hb
   go_wp2_with first|(go_at_call 181;refine(HTA.out _ _ _ _ HT.out.1.1.here HX.out).mono ?_;rintro e w3 ⟨rfl,h3⟩;have HT3:=kf (HTR.out _ _ _ _ _ 0 _ _ HT.out.1 h3 HT.out.1.2.2);clear h3)|(go_at_call 208;refine(HDG1.out _).mono ?_;rintro e w5 ⟨rfl,rfl⟩)|(go_at_call 151;refine(HSP1.out _).mono ?_;rintro e w5 ⟨rfl,rfl⟩)
   go_step3
   exact⟨0,by omega,.inr ⟨rfl,rfl,rfl,rfl,rfl,k+1,h,odd,ds,out,rfl,rfl,rfl,hk1,by omega,kf ⟨HT3.out,by rw [HV.out,HV2.out],HT.out.2.2⟩⟩⟩
  have e62:((x:Int)==62)=false:=by simp;omega
  cases hD:hexD x with
  |none =>
   have HV2:=kf (hex_bad (last:=last) (ds:=ds) (p:=k) (l:=bs.drop (k+1)) h62 HGS.out hD)
   have hv:hexV x=0:=by unfold hexV;rw [hD];rfl
   rw [hv,hD] at HDG1
   clear hv hD hv16
   simp only [Option.isSome_none] at HDG1
   go_wp2_with first
    |(go_at_call 181;refine(HTA.out _ _ _ _ HT.out.1.1.here HX.out).mono ?_;rintro e w3 ⟨rfl,h3⟩;have HT3:=kf (HTR.out _ _ _ _ _ 0 _ _ HT.out.1 h3 HT.out.1.2.2);clear h3;obtain⟨r0,r1,r2,r3,z0,z1,z2,z3⟩:=HT3.out.2.1.cl4)
    |(go_at_call 208;refine(HDG1.out _).mono ?_;rintro e w5 ⟨rfl,rfl⟩)
    |(go_at_call 151;refine(HSP1.out _).mono ?_;rintro e w5 ⟨rfl,rfl⟩)
   simp only [hops]
   refine bodyPost_ret (v:=.tuple #[.agg #[.int .i64 0,.int .i64 0,.string ⟨#[]⟩,.slice none 0 0],.int .i64 11]) (by simp [results,Tryz.results186,go_sem,r0,r1,r2,r3]) rfl ?_
   refine⟨by rw [HV.out,HV2.out,TkV_err (by decide)],k+1,fun e=>absurd (by rw [HV.out,HV2.out] at e;exact e) (by decide),?_⟩
   exact(HT3.out.1.re.set4 hgR hgW hgw _ _ _ _).back HKB.out
  |some d =>
   have HV2:=kf (hex_dig (last:=last) (ds:=ds) (p:=k) (l:=bs.drop (k+1)) h62 HGS.out hD)
   have hv:hexV x=d:=by unfold hexV;rw [hD];rfl
   rw [hv,hD] at HDG1
   rw [hv] at hv16
   clear hv hD
   simp only [Option.isSome_some] at HDG1
   have hsh:((d:Int)*2 ^ 4%256)=((16*d:Nat):Int):=by omega
   have hsh2:((d:Int)*16%256)=((16*d:Nat):Int):=by omega
   cases odd
   ·have HN:=kf (HT.out.2.2.one hv16)
    go_wp2_with first|(go_at_call 181;refine(HTA.out _ _ _ _ HT.out.1.1.here HX.out).mono ?_;rintro e w3 ⟨rfl,h3⟩;have HT3:=kf (HTR.out _ _ _ _ _ 0 _ _ HT.out.1 h3 HT.out.1.2.2);clear h3)|(go_at_call 208;refine(HDG1.out _).mono ?_;rintro e w5 ⟨rfl,rfl⟩)|(go_at_call 151;refine(HSP1.out _).mono ?_;rintro e w5 ⟨rfl,rfl⟩)
    go_step3
    exact⟨(bs.length-(k+1))+1,by omega,.inl ⟨rfl,rfl,rfl,rfl,rfl,k+1,16*d,true,ds++[d],out,rfl,by first|rfl|exact congrArg (Value.int .u8) (by simp;omega),rfl,hk1,by omega,kf ⟨HT3.out,by rw [HV.out,HV2.out],HN.out⟩⟩⟩
   ·have HN:=kf (fun h'=>HT.out.2.2.two (d:=d) (h':=h'))
    obtain⟨a,ha,ha2⟩:=HT.out.2.2.lt
    have hor:=or_16 ha ha2 hv16
    have hy256:h+d<256:=by omega
    obtain⟨y,hy⟩:∃ y,y=h+d:=⟨_,rfl⟩
    rw [<- hy] at hor hy256 HN
    clear hy ha ha2
    go_wp2_with first|(go_at_call 181;refine(HTA.out _ _ _ _ HT.out.1.1.here HX.out).mono ?_;rintro e w3 ⟨rfl,h3⟩;have HT3:=kf (HTR.out _ _ _ _ _ 0 _ _ HT.out.1 h3 HT.out.1.2.2);clear h3)|(go_at_call 208;refine(HDG1.out _).mono ?_;rintro e w5 ⟨rfl,rfl⟩)|(go_at_call 151;refine(HSP1.out _).mono ?_;rintro e w5 ⟨rfl,rfl⟩)|(go_at_call 172;refine(HWB.out _ _ _ y HT3.out.1.here (by omega)).mono ?_;rintro e w4 ⟨rfl,h4⟩;have HT4:=kf (HTR.out _ _ _ _ _ 0 _ _ HT3.out h4 (mem_snoc HT3.out.2.2 hy256));clear h4)
    go_step3
    exact⟨(bs.length-(k+1))+1,by omega,.inl ⟨rfl,rfl,rfl,rfl,rfl,k+1,16*d,false,ds++[d],out++[y],rfl,by first|rfl|exact congrArg (Value.int .u8) (by simp;omega),rfl,hk1,by simp only [List.length_append,List.length_cons,List.length_nil];omega,kf ⟨HT4.out,by rw [HV.out,HV2.out],HN.out _⟩⟩⟩
theorem cutB_no {c:Nat}:∀ {m:List Nat},(cutB c m).2.2=false->(cutB c m)=(m,[],false):=by
 intro m
 induction m with
 |nil=>intro _;rfl
 |cons x l ih =>
  intro h
  rw [cutB] at h ⊢
  by_cases hx:x=c
  ·rw [if_pos hx] at h;cases h
  ·rw [if_neg hx] at h ⊢
   rw [ih h]
theorem cutB_nomem {c:Nat}:∀ {m:List Nat},c ∉ (cutB c m).1:=by
 intro m
 induction m with
 |nil=>simp [cutB]
 |cons x l ih =>
  rw [cutB]
  by_cases hx:x=c
  ·rw [if_pos hx];simp
  ·rw [if_neg hx]
   simp only [List.mem_cons,not_or]
   exact⟨fun e=>hx e.symm,ih⟩
theorem cutB_yes {c:Nat}:∀ {m:List Nat},(cutB c m).2.2=true->m=(cutB c m).1++c::(cutB c m).2.1:=by
 intro m
 induction m with
 |nil=>intro h;cases h
 |cons x l ih =>
  intro h
  rw [cutB] at h ⊢
  by_cases hx:x=c
  ·rw [if_pos hx];rw [hx];rfl
  ·rw [if_neg hx] at h ⊢
   rw [List.cons_append]
   exact congrArg (x::·) (ih h)
theorem nameF_app:∀ (a l:List Nat),35 ∉ a->nameF (a++l)=(nameF l).map (a++·)
 |[],l,_=>by cases h:nameF l<;>simp [h]
 |x::a,l,h=>by
  have hx:x≠35:=fun e=>h (by rw [e];exact List.mem_cons_self ..)
  have ih:=nameF_app a l (fun e=>h (List.mem_cons_of_mem _ e))
  have e:∀ r,nameF (x::r)=(nameF r).map (x::·):=fun r=>by rw [nameF.eq_def];simp [hx]
  rw [List.cons_append,e,ih]
  cases nameF l<;>rfl
theorem nameF_plain {a:List Nat} (h:35 ∉ a):nameF a=some a:=by
 have:=nameF_app a [] h
 rw [List.append_nil] at this
 rw [this]
 simp [nameF]
def nmR (out m:List Nat):Int × List Nat:=match nameF m with
 |none=>(17,[])
 |some o=>if 0∈out++o\/127<(out++o).length then(17,[]) else(0,out++o)
theorem nmR_nil (w:List Nat):nmR [] w=nameO w:=rfl
theorem nmR_end {out m:List Nat} (h:35 ∉ m) (h0:0 ∉ out) (h1:0 ∉ m):nmR out m=if 127<(out++m).length then(17,[]) else(0,out++m):=by
 have h2:¬0∈out++m:=fun e=>by rcases List.mem_append.1 e with e|e;exact h0 e;exact h1 e
 unfold nmR
 rw [nameF_plain h]
 simp only []
 by_cases h3:127<(out++m).length
 ·rw [if_pos (.inr h3),if_pos h3]
 ·rw [if_neg (by rintro(e|e);exact h2 e;exact h3 e),if_neg h3]
def codeV (m:List Nat):Nat:=match m with
 |x::y::_=>16*hexV x+hexV y
 |_=>0
def codeB (m:List Nat):Bool:=match m with
 |x::y::_=>(hexD x).isSome&&((hexD y).isSome&&decide (16*hexV x+hexV y≠0))
 |_=>false
theorem codeV_lt (m:List Nat):codeV m<256:=by
 rcases m with _|⟨x,_|⟨y,r⟩⟩
 ·decide
 ·exact Nat.zero_lt_succ _
 ·have h1:=hexV_lt x
  have h2:=hexV_lt y
  show 16*hexV x+hexV y<256
  omega
theorem nmR_bad {out a m:List Nat} (h:35 ∉ a) (hb:codeB m=false):nmR out (a++35::m)=(17,[]):=by
 unfold nmR
 rw [nameF_app _ _ h]
 rcases m with _|⟨x,_|⟨y,r⟩⟩
 ·rfl
 ·rfl
 ·cases hx:hexD x with
  |none=>simp [nameF,hx]
  |some u =>
   cases hy:hexD y with
   |none=>simp [nameF,hx,hy]
   |some v =>
    have e1:hexV x=u:=by unfold hexV;rw [hx];rfl
    have e2:hexV y=v:=by unfold hexV;rw [hy];rfl
    simp only [codeB,hx,hy,e1,e2,Option.isSome_some,Bool.true_and,decide_eq_false_iff_not,Decidable.not_not] at hb
    cases hr:nameF r with
    |none=>simp [nameF,hx,hy,hr]
    |some o=>simp [nameF,hx,hy,hr,hb]
theorem nmR_good {out a m:List Nat} (h:35 ∉ a) (hb:codeB m=true):2<=m.length/\codeV m≠0/\nmR out (a++35::m)=nmR (out++a++[codeV m]) (m.drop 2):=by
 rcases m with _|⟨x,_|⟨y,r⟩⟩
 ·cases hb
 ·cases hb
 ·cases hx:hexD x with
  |none=>simp [codeB,hx] at hb
  |some u =>
   cases hy:hexD y with
   |none=>simp [codeB,hx,hy] at hb
   |some v =>
    have e1:hexV x=u:=by unfold hexV;rw [hx];rfl
    have e2:hexV y=v:=by unfold hexV;rw [hy];rfl
    simp only [codeB,hx,hy,e1,e2,Option.isSome_some,Bool.true_and,decide_eq_true_eq] at hb
    refine⟨by simp,by show 16*hexV x+hexV y≠0;rw [e1,e2];exact hb,?_⟩
    unfold nmR
    rw [nameF_app _ _ h]
    have e3:nameF (35::x::y::r)=(nameF r).map ((16*u+v)::·):=by simp [nameF,hx,hy]
    rw [e3,codeV,e1,e2]
    simp only [List.drop_succ_cons,List.drop_zero]
    cases hr:nameF r with
    |none=>rfl
    |some o=>simp
set_option maxHeartbeats 1000000 in
theorem pcode_any (m:List Nat) (hb:∀ d∈m,d<256) (hl:m.length<=1000000) (w:World) :
  Calls Tryz.prog 211 #[.string (sb m)] w fun e w'=>e=.returned (.tuple #[.int .u8 (codeV m:Nat),.bool (codeB m)])/\w=w':=by
 have hs:(sb m).size=m.length:=sb_size m
 have hsl:=sl_sb m hb
 rcases m with _|⟨x,_|⟨y,r⟩⟩
 ·obtain⟨t,ht⟩:∃ t,sb []=t:=⟨_,rfl⟩
  rw [ht] at hs ⊢
  clear hsl ht
  simp only [List.length_nil] at hs
  go_enter Tryz.func211,Tryz.ntmps211
  go_wp2_with fail
  go_ret2
  exact⟨rfl,rfl⟩
 ·obtain⟨t,ht⟩:∃ t,sb [x]=t:=⟨_,rfl⟩
  rw [ht] at hs ⊢
  clear hsl ht
  simp only [List.length_cons,List.length_nil] at hs
  go_enter Tryz.func211,Tryz.ntmps211
  go_wp2_with fail
  go_ret2
  exact⟨rfl,rfl⟩
 ·have hx0:x<256:=hb x (List.mem_cons_self ..)
  have hy0:y<256:=hb y (List.mem_cons_of_mem _ (List.mem_cons_self ..))
  obtain⟨t,ht⟩:∃ t,sb (x::y::r)=t:=⟨_,rfl⟩
  rw [ht] at hs hsl ⊢
  have g0:∀ h:0<t.size,(t[0]'h).toNat=x:=fun h=>by rw [sl_at,hsl];rfl
  have g1:∀ h:1<t.size,(t[1]'h).toNat=y:=fun h=>by rw [sl_at,hsl];rfl
  obtain⟨N,hN⟩:∃ N,t.size=N:=⟨_,rfl⟩
  have hN2:2<=N:=by rw [<- hN,hs];simp
  have hN3:N<=1000000:=by rw [<- hN,hs];exact hl
  have HX:=kf (fun W=>pdigit_any x hx0 W)
  have HY:=kf (fun W=>pdigit_any y hy0 W)
  have hvx:=hexV_lt x
  have hvy:=hexV_lt y
  have HB:=kf (show codeB (x::y::r)=((hexD x).isSome&&((hexD y).isSome&&decide (16*hexV x+hexV y≠0))) from rfl)
  have HV:=kf (show codeV (x::y::r)=16*hexV x+hexV y from rfl)
  obtain⟨u,hu⟩:∃ u,hexV x=u:=⟨_,rfl⟩
  obtain⟨v,hv⟩:∃ v,hexV y=v:=⟨_,rfl⟩
  obtain⟨p,hp⟩:∃ p,(hexD x).isSome=p:=⟨_,rfl⟩
  obtain⟨q,hq⟩:∃ q,(hexD y).isSome=q:=⟨_,rfl⟩
  rw [hu,hp] at HX
  rw [hv,hq] at HY
  rw [hu,hv,hp,hq] at HB
  rw [hu,hv] at HV
  rw [hu] at hvx
  rw [hv] at hvy
  have hor:=or_16 (h:=16*u) (a:=u) (d:=v) rfl hvx hvy
  have hsh:((u:Int)*2 ^ 4%256)=((16*u:Nat):Int):=by omega
  have hsh2:((u:Int)*16%256)=((16*u:Nat):Int):=by omega
  obtain⟨z,hz⟩:∃ z,16*u+v=z:=⟨_,rfl⟩
  rw [hz] at hor HB HV
  have hor2:bits BinOp.or IntKind.u8 ((u:Int)*16) (v:Int)=((z:Nat):Int):=by rw [show(u:Int)*16=((16*u:Nat):Int) by omega];exact hor
  clear hor hsh hsh2
  clear hs hsl ht hb hl hu hv hp hq hz
  by_cases hz0:z=0
  ·subst hz0
   cases p<;>cases q
   all_goals
    go_enter Tryz.func211,Tryz.ntmps211
    go_wp2_with first|(have hdn:=HDone.out;go_at_call 208;refine(HY.out _).mono ?_;rintro e w4 ⟨rfl,rfl⟩)|(go_at_call 208;refine(HX.out _).mono ?_;rintro e w3 ⟨rfl,rfl⟩;have HDone:=kf True.intro)
    go_ret2
    exact⟨by rw [HB.out,HV.out];rfl,rfl⟩
  ·have e0:((z:Int) != 0)=true:=by simp;omega
   have e1:decide (z≠0)=true:=by simp;omega
   rw [e1] at HB
   clear hz0 e1
   cases p<;>cases q
   all_goals
    go_enter Tryz.func211,Tryz.ntmps211
    go_wp2_with first|(have hdn:=HDone.out;go_at_call 208;refine(HY.out _).mono ?_;rintro e w4 ⟨rfl,rfl⟩)|(go_at_call 208;refine(HX.out _).mono ?_;rintro e w3 ⟨rfl,rfl⟩;have HDone:=kf True.intro)
    go_ret2
    exact⟨by rw [HB.out,HV.out];rfl,rfl⟩
theorem TxR.call {V w X X':World} {A:Option Addr} {bs:List Nat} {c:Nat} {last:Bool} {R g p k deep:Nat} {out:List Nat} (h:TxR V w A bs c last R g p k deep out X) (hc:Chg NoS X X'):TxR V w A bs c last R g p k deep out X' :=
 ⟨h.1.call hc,h.2.1.chg hc (fun h=>h),h.2.2⟩
theorem rgs_mem:∀ (l:List Nat),∀ d∈l.take (rgs l),isRg d=true
 |[],d,h=>by simp at h
 |x::l,d,h=>by
  rw [rgs] at h
  by_cases hx:isRg x=true
  ·rw [if_pos hx,List.take_succ_cons] at h
   rcases List.mem_cons.1 h with rfl|h
   ·exact hx
   ·exact rgs_mem l d h
  ·rw [if_neg hx] at h;simp at h
def nmTo (last:Bool) (p:Nat) (l:List Nat):Int × List Nat × Nat:=if runE last l≠0 then(6,[],0) else((nameO (l.take (rgs l))).1,(nameO (l.take (rgs l))).2,p+rgs l)
theorem runE_two (last:Bool) (l:List Nat):runE last l=0\/runE last l=6:=by
 unfold runE
 split
 ·exact .inr rfl
 ·exact .inl rfl
def NmJ (V w:World) (A:Option Addr) (bs:List Nat) (c:Nat) (last:Bool) (R g k:Nat) (ws:List Nat) (n:Nat) (x:Act) (w':World):Prop :=
 x.defers=[]/\x.tmps.size=57/\x.tmps.getD 0 undef=.pointer (some ⟨R,0,none⟩)/\x.tmps.getD 2 undef=.pointer (some ⟨g,0,none⟩)/\∃ (m out:List Nat),x.tmps.getD 4 undef=.string (sb m)/\n=m.length+1/\out.length+m.length<=500000 /\
  Hid (TxR V w A bs c last R g 0 k 0 out w'/\nmR [] ws=nmR out m/\0 ∉ out/\0 ∉ m/\∀ d∈m,d<256)
theorem slots_57n {x:Act} {v0 v2 v4:Value} {C:Act->Prop} (h1:x.defers=[]) (h2:x.tmps.size=57) (h3:x.tmps.getD 0 undef=v0) (h4:x.tmps.getD 2 undef=v2) (h5:x.tmps.getD 4 undef=v4)
  (k:∀ f:Nat->Value,C { tmps:=#[v0,f 1,v2,f 3,v4,f 5,f 6,f 7,f 8,f 9,f 10,f 11,f 12,f 13,f 14,f 15,f 16,f 17,f 18,f 19,f 20,f 21,f 22,f 23,f 24,f 25,f 26,f 27,f 28,f 29,f 30,f 31,f 32,f 33,f 34,f 35,f 36,f 37,f 38,f 39,f 40,f 41,f 42,f 43,f 44,f 45,f 46,f 47,f 48,f 49,f 50,f 51,f 52,f 53,f 54,f 55,f 56],defers:=[] }):C x:=by
 obtain⟨t,d⟩:=x
 simp only at h1 h2 h3 h4 h5
 subst h1
 have h6:=k (fun i=>t.getD i undef)
 rw [<- h3,<- h4,<- h5] at h6
 rw [arr_slots t 57 h2]
 exact h6
set_option maxHeartbeats 4000000 in
set_option maxRecDepth 100000 in
theorem pname_any {V w W:World} {A:Option Addr} {bs:List Nat} {c R p:Nat} {last:Bool} (h:RD V w W A bs.length c last R p []) (hS:Src w 1 A bs.length c (lcells bs)) (hl:bs.length<=500000) (hc:bs.length<=c) (hp:p<=bs.length) (hb:∀ d∈bs,d<256) (hn0:0<bs.length) :
  Calls Tryz.prog 188 #[.pointer (some ⟨R,0,none⟩)] W (PTo V w R 5 (nmTo last p (bs.drop p))):=by
 have HRU:=kf (fun X (hX:RD X w X A bs.length c last R p [])=>prun_any hX hS hl hc hp hn0)
 have HWB:=kf (fun X out k y (hX:RD X w X A bs.length c last R k out) (ho:out.length<=1000000)=>pwbyte_any hX y ho)
 have HWS:=kf (fun X out k m (hX:RD X w X A bs.length c last R k out) (hm:∀ d∈m,d<256) (ho:out.length<=1000000) (ho2:m.length<=1000000)=>pwstr_any hX m hm ho ho2)
 have HLE:=kf (fun X out k (hX:RD X w X A bs.length c last R k out)=>plen_any hX)
 have HBU:=kf (fun X out k (hX:RD X w X A bs.length c last R k out) (ho:∀ d∈out,d<256) (hm:out.length<=1000000)=>pbuilt_any hX ho hm 5)
 have HCT:=kf (fun m (hm:∀ d∈m,d<256) (ho:m.length<=1000000) X=>cutF_any 35 m hm ho X)
 have HCO:=kf (fun m (hm:∀ d∈m,d<256) (ho:m.length<=1000000) X=>pcode_any m hm ho X)
 have HKB:=kf h.kb
 have HR0:=kf h.here
 have hRW:=h.lt
 have hwW:=h.chg.size
 obtain⟨g,hg⟩:∃ g,g=W.heap.size:=⟨_,rfl⟩
 have HG:=kf hg
 have hgR:g≠R:=by omega
 have hgW:W.heap.size<=g:=by omega
 have hgw:w.heap.size<=g:=by omega
 obtain⟨l,hl0⟩:∃ l,l=bs.drop p:=⟨_,rfl⟩
 have hll:l.length<=500000:=by rw [hl0,List.length_drop];omega
 have hlb:∀ d∈l,d<256:=fun d hd=>hb d (by rw [hl0] at hd;exact List.mem_of_mem_drop hd)
 obtain⟨ws,hws⟩:∃ ws,ws=l.take (rgs l):=⟨_,rfl⟩
 have hwl:ws.length<=500000:=by rw [hws,List.length_take];omega
 have HWB2:=kf (show ∀ d∈ws,d<256 from fun d hd=>hlb d (by rw [hws] at hd;exact List.mem_of_mem_take hd))
 have HW0:=kf (show 0 ∉ ws from fun hd=>by rw [hws] at hd;exact absurd (rgs_mem l 0 hd) (by decide))
 obtain⟨L,hL⟩:∃ L,L=p+rgs l:=⟨_,rfl⟩
 have HTO:=kf (show nmTo last p l=if runE last l≠0 then(6,[],0) else((nameO ws).1,(nameO ws).2,L) from by unfold nmTo;rw [hws,hL])
 rw [<- hl0] at HRU ⊢
 rw [<- hws,<- hL] at HRU
 have HTR:=kf (fun(X X':World) (k k' deep deep':Nat) (out out':List Nat) (h:TxR W w A bs c last R g 0 k deep out X) (h':RD X w X' A bs.length c last R k' out') (hb:∀ d∈out',d<256)=>TxR.step (deep':=deep') h h' hgR hb)
 have HT0:=kf (show TxR W w A bs c last R g 0 p 0 [] (W.alloc (.cells #[.int .i64 0,.int .i64 0,.string ⟨#[]⟩,.slice none 0 0] 25)) from⟨HR0.out.alloc _,by rw [HG.out];exact Blk.new _ _ _,fun d hd=>by cases hd⟩)
 clear h hS hb hc hg hwW hRW hl0 hll hlb hws hL hl hp hn0
 rcases runE_two last l with hE|hE
 case inr =>
  rw [hE] at HRU HTO
  clear hE
  obtain⟨t,ht⟩:∃ t,sb ws=t:=⟨_,rfl⟩
  rw [ht] at HRU
  clear ht
  go_enter Tryz.func188,Tryz.ntmps188
  go_wp2
  go_step3
  go_wp2_with (go_at_call 209;refine(HRU.out _ HT0.out.1.here).mono ?_;rintro e w3 ⟨rfl,h3⟩;have HT3:=kf (HTR.out _ _ _ _ _ 0 _ _ HT0.out h3 HT0.out.2.2);clear h3;obtain⟨r0,r1,r2,r3,z0,z1,z2,z3⟩:=HT3.out.2.1.cl4;rw [HG.out] at r0 r1 r2 r3 z0 z1 z2 z3)
  all_goals (try simp only [Exit.noGoto_ret])
  refine bodyPost_ret (v:=.tuple #[.agg #[.int .i64 0,.int .i64 0,.string ⟨#[]⟩,.slice none 0 0],.int .i64 6]) (by simp [results,Tryz.results188,go_sem,r0,r1,r2,r3]) rfl ?_
  have HTO6:=kf (HTO.out.trans (if_pos (show(6:Int)≠0 by decide)))
  refine⟨by rw [HTO6.out];rfl,L,fun e=>absurd (by rw [HTO6.out] at e;exact e) (show ¬(6:Int)=0 by decide),?_⟩
  exact(HT3.out.1.re.set4 (by have h9:=HG.out;omega) (Nat.le_refl _) (by have h9:=HG.out;omega) _ _ _ _).back HKB.out
 rw [hE] at HRU HTO
 clear hE
 have HTOK:=kf (show nmTo last p l=((nmR [] ws).1,(nmR [] ws).2,L) from by rw [HTO.out,if_neg (fun h9=>h9 rfl),nmR_nil])
 go_enter Tryz.func188,Tryz.ntmps188
 go_wp2
 refine wp_scope1 (NmJ W w A bs c last R g L ws) rfl ?pass0 ?first
 case first =>
  intro hpass
  have HPass:=kf hpass
  clear hpass
  obtain⟨t,ht⟩:∃ t,sb ws=t:=⟨_,rfl⟩
  have HTS:=kf ht
  rw [ht] at HRU
  clear ht
  ·go_wp2_with (go_at_call 209;refine(HRU.out _ HT0.out.1.here).mono ?_;rintro e w3 ⟨rfl,h3⟩;have HT3:=kf (HTR.out _ _ _ _ _ 0 _ _ HT0.out h3 HT0.out.2.2);clear h3)
   go_step3
   rename_i hK
   refine hK _ _ (HPass.out _ _ _ ⟨rfl,rfl,rfl,by rw [HG.out];rfl,ws,[],by rw [HTS.out];rfl,rfl,by simpa using hwl,kf ⟨HT3.out,rfl,by simp,HW0.out,HWB2.out⟩⟩)
 case pass0 =>
  intro n x w1 hx
  obtain⟨h1,h2,h3,h4,m,out,h5,rfl,hm,HT⟩:=hx
  refine slots_57n h1 h2 h3 h4 h5 (C:=fun y=>Code.wp _ _ _ y w1) ?_
  intro f
  clear h1 h2 h3 h4 h5
  have HX:=kf HT.out.2
  have HT1:=kf HT.out.1
  have HCT1:=kf (HCT.out m HX.out.2.2.2 (by omega))
  rw [show(35:UInt8).toNat=35 from rfl] at HCT1
  obtain⟨t,ht⟩:∃ t,sb m=t:=⟨_,rfl⟩
  rw [ht] at HCT1 ⊢
  clear ht HT HCT
  cases hf:(cutB 35 m).2.2 with
  |false =>
   have hcb:=cutB_no hf
   have hnm:=cutB_nomem (c:=35) (m:=m)
   rw [hcb] at HCT1 hnm
   simp only at HCT1 hnm
   have HTO1:=kf (show nmR [] ws=if 127<(out++m).length then(17,[]) else(0,out++m) from by rw [HX.out.1,nmR_end hnm HX.out.2.1 HX.out.2.2.1])
   have HWS1:=kf (fun X hX=>HWS.out X out L m hX HX.out.2.2.2 (by omega) (by omega))
   obtain⟨t1,ht1⟩:∃ t1,sb m=t1:=⟨_,rfl⟩
   rw [ht1] at HCT1 HWS1
   obtain⟨N,hN⟩:∃ N,(out++m).length=N:=⟨_,rfl⟩
   have hN2:N<=500000:=by rw [<- hN,List.length_append];exact hm
   have HLE1:=kf (fun X hX=>HLE.out X (out++m) L hX)
   have HNN:=kf hN
   rw [hN] at HLE1 HTO1
   have HMB:=kf (show ∀ d∈out++m,d<256 from fun d hd=>by rcases List.mem_append.1 hd with h9|h9;exact HT1.out.2.2 d h9;exact HX.out.2.2.2 d h9)
   clear hf hcb hnm ht1 hN
   by_cases h127:127<N
   ·have HTO2:=kf (HTO1.out.trans (if_pos h127))
    have d1:decide ((127:Int)<N)=true:=by simp;omega
    go_wp2_with first
     |(go_at_call 210;refine(HCT1.out _).mono ?_;rintro e w2 ⟨rfl,hc2⟩;have HT2:=kf (HT1.out.call hc2);clear hc2)
     |(go_at_call 136;refine(HWS1.out _ HT2.out.1.here).mono ?_;rintro e w3 ⟨rfl,h3⟩;have HT3:=kf (HTR.out _ _ _ _ _ 0 _ _ HT2.out h3 HMB.out);clear h3;obtain⟨r0,r1,r2,r3,z0,z1,z2,z3⟩:=HT3.out.2.1.cl4)
     |(go_at_call 146;refine(HLE1.out _ HT3.out.1.here).mono ?_;rintro e w4 ⟨rfl,rfl⟩)
    all_goals (try simp only [hops])
    refine bodyPost_ret (v:=.tuple #[.agg #[.int .i64 0,.int .i64 0,.string ⟨#[]⟩,.slice none 0 0],.int .i64 17]) (by simp [results,Tryz.results188,go_sem,r0,r1,r2,r3]) rfl ?_
    refine⟨by rw [HTOK.out,HTO2.out];rfl,L,fun e=>absurd (by rw [HTOK.out,HTO2.out] at e;exact e) (show ¬(17:Int)=0 by decide),?_⟩
    exact(HT3.out.1.re.set4 hgR hgW hgw _ _ _ _).back HKB.out
   ·have HTO2:=kf (HTO1.out.trans (if_neg h127))
    have d1:decide ((127:Int)<N)=false:=by simp;omega
    have HBU1:=kf (fun X hX=>HBU.out X (out++m) L hX HMB.out (by rw [HNN.out];omega))
    obtain⟨u,hu⟩:∃ u,sb (out++m)=u:=⟨_,rfl⟩
    have HU:=kf hu
    rw [hu] at HBU1
    clear hu
    go_wp2_with first
     |(go_at_call 210;refine(HCT1.out _).mono ?_;rintro e w2 ⟨rfl,hc2⟩;have HT2:=kf (HT1.out.call hc2);clear hc2)
     |(go_at_call 136;refine(HWS1.out _ HT2.out.1.here).mono ?_;rintro e w3 ⟨rfl,h3⟩;have HT3:=kf (HTR.out _ _ _ _ _ 0 _ _ HT2.out h3 HMB.out);clear h3)
     |(go_at_call 146;refine(HLE1.out _ HT3.out.1.here).mono ?_;rintro e w4 ⟨rfl,rfl⟩)
     |(go_at_call 205;refine(HBU1.out _ HT3.out.1.here).mono ?_;rintro e w5 ⟨rfl,h5⟩;obtain⟨r0,r1,r2,r3,z0,z1,z2,z3⟩:=(h5.kb _ _ _ hgR (by decide) HT3.out.2.1).cl4;have HRE:=kf (h5.back HT3.out.1.kb);clear h5)
    all_goals (try simp only [hops])
    refine bodyPost_ret (v:=.tuple #[.agg #[.int .i64 5,.int .i64 0,.string u,.slice none 0 0],.int .i64 0]) (by simp [results,Tryz.results188,go_sem,r0,r1,r2,r3]) rfl ?_
    refine⟨by rw [HTOK.out,HTO2.out,<- HU.out];rfl,L,fun e=>by rw [HTOK.out],?_⟩
    exact(HRE.out.set4 hgR hgW hgw _ _ _ _).back HKB.out
  |true =>
   have hcb:=cutB_yes hf
   have hnm:=cutB_nomem (c:=35) (m:=m)
   rw [hf] at HCT1
   obtain⟨a,ha⟩:∃ a,(cutB 35 m).1=a:=⟨_,rfl⟩
   obtain⟨d,hd⟩:∃ d,(cutB 35 m).2.1=d:=⟨_,rfl⟩
   rw [ha,hd] at HCT1 hcb
   rw [ha] at hnm
   have hml:m.length=a.length+(d.length+1):=by rw [hcb,List.length_append,List.length_cons]
   have hab:∀ y∈a,y<256:=fun y hy=>HX.out.2.2.2 y (by rw [hcb];exact List.mem_append.2 (.inl hy))
   have hdb:∀ y∈d,y<256:=fun y hy=>HX.out.2.2.2 y (by rw [hcb];exact List.mem_append.2 (.inr (List.mem_cons_of_mem _ hy)))
   have ha0:0 ∉ a:=fun hy=>HX.out.2.2.1 (by rw [hcb];exact List.mem_append.2 (.inl hy))
   have hd0:0 ∉ d:=fun hy=>HX.out.2.2.1 (by rw [hcb];exact List.mem_append.2 (.inr (List.mem_cons_of_mem _ hy)))
   have HWS1:=kf (fun X hX=>HWS.out X out L a hX hab (by omega) (by omega))
   have HCO1:=kf (fun X=>HCO.out d hdb (by omega) X)
   have HOB:=kf (show ∀ y∈out++a,y<256 from fun y hy=>by rcases List.mem_append.1 hy with h9|h9;exact HT1.out.2.2 y h9;exact hab y h9)
   have HDB:=kf hdb
   have HML:=kf hml
   have hol:(out++a).length=out.length+a.length:=List.length_append
   have HWBo:=kf (fun X y hX=>HWB.out X (out++a) L y hX (by omega))
   have HOL:=kf hol
   obtain⟨u,hu⟩:∃ u,sb a=u:=⟨_,rfl⟩
   have hsd:=sb_size d
   have hdrop:=cutB_drop (l:=d) 2 d.length rfl
   obtain⟨v,hv⟩:∃ v,sb d=v:=⟨_,rfl⟩
   rw [hu,hv] at HCT1
   rw [hu] at HWS1
   rw [hv] at HCO1 hsd hdrop
   have HC0:=kf hcb
   have hm3:out.length+a.length+d.length+1<=500000:=by omega
   cases hcB:codeB d with
   |false =>
    have HTO2:=kf (show nmR [] ws=(17,[]) from by rw [HX.out.1,HC0.out,nmR_bad hnm hcB])
    rw [hcB] at HCO1
    obtain⟨y,hy⟩:∃ y,codeV d=y:=⟨_,rfl⟩
    rw [hy] at HCO1
    clear hcb hnm ha hd hml hab hdb ha0 hd0 hu hv hf hol hsd hdrop hcB hy
    go_wp2_with first
     |(go_at_call 210;refine(HCT1.out _).mono ?_;rintro e w2 ⟨rfl,hc2⟩;have HT2:=kf (HT1.out.call hc2);clear hc2)
     |(go_at_call 136;refine(HWS1.out _ HT2.out.1.here).mono ?_;rintro e w3 ⟨rfl,h3⟩;have HT3:=kf (HTR.out _ _ _ _ _ 0 _ _ HT2.out h3 HOB.out);clear h3;obtain⟨r0,r1,r2,r3,z0,z1,z2,z3⟩:=HT3.out.2.1.cl4)
     |(go_at_call 211;refine(HCO1.out _).mono ?_;rintro e w4 ⟨rfl,rfl⟩)
    all_goals (try simp only [hops])
    refine bodyPost_ret (v:=.tuple #[.agg #[.int .i64 0,.int .i64 0,.string ⟨#[]⟩,.slice none 0 0],.int .i64 17]) (by simp [results,Tryz.results188,go_sem,r0,r1,r2,r3]) rfl ?_
    refine⟨by rw [HTOK.out,HTO2.out];rfl,L,fun e=>absurd (by rw [HTOK.out,HTO2.out] at e;exact e) (show ¬(17:Int)=0 by decide),?_⟩
    exact(HT3.out.1.re.set4 hgR hgW hgw _ _ _ _).back HKB.out
   |true =>
    obtain⟨k2,k0,kE⟩:=nmR_good (out:=out) hnm hcB
    have HTO2:=kf (show nmR [] ws=nmR (out++a++[codeV d]) (d.drop 2) from by rw [HX.out.1,HC0.out,kE])
    rw [hcB] at HCO1
    have hy256:=codeV_lt d
    obtain⟨y,hy⟩:∃ y,codeV d=y:=⟨_,rfl⟩
    rw [hy] at HCO1 hy256 k0 HTO2
    have HN0:=kf (show 0 ∉ out++a++[y] from fun h9=>by
     rcases List.mem_append.1 h9 with h9|h9
     ·rcases List.mem_append.1 h9 with h9|h9
      ·exact HX.out.2.1 h9
      ·exact ha0 h9
     ·exact k0 (List.mem_singleton.1 h9).symm)
    have HD0:=kf (show 0 ∉ d.drop 2 from fun h9=>hd0 (List.mem_of_mem_drop h9))
    have HDB2:=kf (show ∀ z∈d.drop 2,z<256 from fun z hz=>HDB.out z (List.mem_of_mem_drop hz))
    obtain⟨b,hb2⟩:∃ b,sb (d.drop 2)=b:=⟨_,rfl⟩
    rw [hb2] at hdrop
    have HB2:=kf hb2
    obtain⟨D,hD⟩:∃ D,d.length=D:=⟨_,rfl⟩
    have HDL:=kf hD
    have HD2:=kf (show(d.drop 2).length=D-2 from by rw [List.length_drop,hD])
    have HMM:=kf (show m.length=a.length+(D+1) from by rw [hml,hD])
    rw [hD] at hsd hdrop k2 hm3
    have i2:(2:Int)<=D:=by omega
    clear hcb hnm ha hd hml hab hdb ha0 hd0 hu hv hf hol hcB hy k0 kE hb2 hD
    go_wp2_with first
     |(go_at_call 210;refine(HCT1.out _).mono ?_;rintro e w2 ⟨rfl,hc2⟩;have HT2:=kf (HT1.out.call hc2);clear hc2)
     |(go_at_call 136;refine(HWS1.out _ HT2.out.1.here).mono ?_;rintro e w3 ⟨rfl,h3⟩;have HT3:=kf (HTR.out _ _ _ _ _ 0 _ _ HT2.out h3 HOB.out);clear h3)
     |(go_at_call 211;refine(HCO1.out _).mono ?_;rintro e w4 ⟨rfl,rfl⟩)
     |(go_at_call 172;refine(HWBo.out _ y HT3.out.1.here).mono ?_;rintro e w5 ⟨rfl,h5⟩;have HT5:=kf (HTR.out _ _ _ _ _ 0 _ _ HT3.out h5 (mem_snoc HOB.out hy256));clear h5)
    go_step3
    exact⟨(d.drop 2).length+1,by rw [HMM.out,HD2.out];omega,rfl,rfl,rfl,rfl,rfl,d.drop 2,out++a++[y],by rw [HB2.out];rfl,rfl,by rw [HD2.out,List.length_append,HOL.out];simp only [List.length_cons,List.length_nil];omega,kf ⟨HT5.out,HTO2.out,HN0.out,HD0.out,HDB2.out⟩⟩
set_option maxHeartbeats 1000000 in
theorem pvalued_any (k:Nat) (n er:Int) (s:ByteArray) (w:World):Calls Tryz.prog 183 #[.agg #[.int .i64 (k:Nat),.int .i64 n,.string s,.slice none 0 0],.int .i64 er] w
  fun e w'=>e=.returned (.tuple #[.agg #[.int .i64 1,.int .i64 0,.int .i64 0,.int .i64 (k:Nat),.int .i64 n,.string s,.slice none 0 0,.string ⟨#[]⟩],.int .i64 er])/\Chg NoS w w':=by
 go_enter Tryz.func183,Tryz.ntmps183
 go_wp2_with fail
 refine bodyPost_ret (v:=.tuple #[.agg #[.int .i64 1,.int .i64 0,.int .i64 0,.int .i64 (k:Nat),.int .i64 n,.string s,.slice none 0 0,.string ⟨#[]⟩],.int .i64 er]) (by simp [results,Tryz.results183,go_sem]) rfl ?_
 exact⟨rfl,((Chg.refl _ _).alloc _).alloc _⟩
def PTk (V w:World) (R:Nat) (r:Int × Tkn) (e:Ending) (W:World):Prop :=
 ∃ (t:Tkn) (p:Nat),e=.returned (.tuple #[tknV t,.int .i64 r.1])/\(r.1=0->t=⟨r.2.kind,0,0,r.2.vk,r.2.vn,r.2.vs,r.2.s⟩/\p=r.2.to)/\RE V w W R p
def noK:Tkn:=⟨0,0,0,0,0,[],[]⟩
theorem noK_V:tknV noK=.agg #[.int .i64 0,.int .i64 0,.int .i64 0,.int .i64 0,.int .i64 0,.string ⟨#[]⟩,.slice none 0 0,.string ⟨#[]⟩]:=rfl
theorem PTk.err {V w:World} {R p:Nat} {r:Int × Tkn} {er:Int} {W:World} (h:r.1=er) (he:er≠0) (hR:RE V w W R p):PTk V w R r (.returned (.tuple #[.agg #[.int .i64 0,.int .i64 0,.int .i64 0,.int .i64 0,.int .i64 0,.string ⟨#[]⟩,.slice none 0 0,.string ⟨#[]⟩],.int .i64 er])) W :=
 ⟨noK,p,by rw [h,noK_V],fun e=>absurd (h.symm.trans e) he,hR⟩
def dictR (last:Bool) (f p:Nat) (l:List Nat):Int × Tkn:=if l.head?=some 62 then(0,⟨5,f,p+1,0,0,[],[]⟩) else if l=[]/\last=false then(6,noT f) else(11,noT f)
set_option maxHeartbeats 1000000 in
theorem pclosed_any {V w W:World} {A:Option Addr} {bs:List Nat} {c R p:Nat} {last:Bool} {out:List Nat} (h:RD V w W A bs.length c last R p out) (hS:Src w 1 A bs.length c (lcells bs)) (hl:bs.length<=1000000) (hc:bs.length<=c) (hp:p<=bs.length) (f:Nat) :
  Calls Tryz.prog 187 #[.pointer (some ⟨R,0,none⟩)] W (PTk V w R (dictR last f p (bs.drop p))):=by
 have HKB:=kf h.kb
 have HR0:=kf h.here
 have hRW:=h.lt
 have hwW:=h.chg.size
 obtain⟨g,hg⟩:∃ g,g=W.heap.size:=⟨_,rfl⟩
 have HG:=kf hg
 have hgR:g≠R:=by omega
 have hgW:W.heap.size<=g:=by omega
 have hgw:w.heap.size<=g:=by omega
 have HBW:=kf (show Blk (W.alloc (.cells #[.int .i64 0,.int .i64 0,.int .i64 0,.int .i64 0,.int .i64 0,.string ⟨#[]⟩,.slice none 0 0,.string ⟨#[]⟩] 131)) g 131 #[.int .i64 0,.int .i64 0,.int .i64 0,.int .i64 0,.int .i64 0,.string ⟨#[]⟩,.slice none 0 0,.string ⟨#[]⟩] from by rw [hg];exact Blk.new _ _ _)
 have HPE:=kf (fun X (hX:RD X w X A bs.length c last R bs.length out)=>ppass_end hX 62)
 have HPN:=kf (fun X x (hX:RD X w X A bs.length c last R p out) (hx:bs[p]?=some x) (hy:x≠62)=>ppass_no hX hS hl hc hx 62 hy)
 have HPA:=kf (fun X (hX:RD X w X A bs.length c last R p out) (hx:bs[p]?=some 62)=>ppass_at hX hS hl hc hx)
 have HCU:=kf (fun X k (hX:RD X w X A bs.length c last R k out)=>pcut_any hX 11)
 have HW1:=kf (HR0.out.alloc (.cells #[.int .i64 0,.int .i64 0,.int .i64 0,.int .i64 0,.int .i64 0,.string ⟨#[]⟩,.slice none 0 0,.string ⟨#[]⟩] 131))
 obtain⟨W1,hW1⟩:∃ W1,W1=W.alloc (.cells #[.int .i64 0,.int .i64 0,.int .i64 0,.int .i64 0,.int .i64 0,.string ⟨#[]⟩,.slice none 0 0,.string ⟨#[]⟩] 131):=⟨_,rfl⟩
 rw [<- hW1] at HW1 HBW
 have HWW:=kf hW1
 clear h hS hg hwW hRW hW1
 by_cases hpn:p=bs.length
 ·have HD:=kf (show dictR last f p (bs.drop p)=if last=false then(6,noT f) else(11,noT f) from by
   rw [hpn,List.drop_of_length_le (Nat.le_refl _)];unfold dictR
   rw [if_neg (by simp)]
   cases last<;>simp)
  have HCU1:=kf (fun X hX=>HCU.out X p hX)
  have HPE1:=kf (show ∀ X,RD X w X A bs.length c last R p out->Calls Tryz.prog 185 #[.pointer (some ⟨R,0,none⟩),.int .u8 (62:Nat)] X fun e W'=>e=.returned (.bool false)/\RD X w W' A bs.length c last R p out from fun X hX=>by rw [hpn] at hX ⊢;exact HPE.out X hX)
  have k2:((p:Int)==bs.length)=true:=by simp;omega
  have k3:(p==bs.length)=true:=by simp;omega
  obtain⟨er,her⟩:∃ er,er=(if last then(11:Int) else 6):=⟨_,rfl⟩
  have HER:=kf (show(dictR last f p (bs.drop p)).1=er/\er≠0 from by rw [HD.out,her];cases last<;>exact⟨rfl,by decide⟩)
  rw [<- her] at HCU1
  clear hpn her
  go_enter Tryz.func187,Tryz.ntmps187
  go_upto_region 1 with fail
  rw [<- HWW.out,<- HG.out]
  go_upto_region 3 with(go_at_call 185;refine(HPE1.out _ HW1.out.here).mono ?_;rintro e w3 ⟨rfl,h3⟩;obtain⟨c2,c3,c4,f3⟩:=h3.cells;have HB3:=kf (h3.kb _ _ _ hgR (by decide) HBW.out);have HR3:=kf (h3.base (HW1.out.kb.trans h3.kb));clear h3)
  go_quiet (fail)
  obtain⟨r0,r1,r2,r3,r4,r5,r6,r7,z0,z1,z2,z3,z4,z5,z6,z7⟩:=(HB3.out.drewN nq).cl8
  go_wp2_with (go_at_call 182;refine(HCU1.out _ (HR3.out.drewN nq).here).mono ?_;rintro e w4 ⟨rfl,rfl⟩)
  refine bodyPost_ret (v:=.tuple #[.agg #[.int .i64 0,.int .i64 0,.int .i64 0,.int .i64 0,.int .i64 0,.string ⟨#[]⟩,.slice none 0 0,.string ⟨#[]⟩],.int .i64 er]) (by simp [results,Tryz.results187,go_sem,r0,r1,r2,r3,r4,r5,r6,r7]) rfl ?_
  exact PTk.err HER.out.1 HER.out.2 (((HR3.out.drewN nq).re.set8 hgR hgW hgw _ _ _ _ _ _ _ _).back HKB.out)
 obtain⟨x,hx,hd⟩:=drop_at (bs:=bs) (k:=p) (by omega)
 by_cases h62:x=62
 ·subst h62
  have HD:=kf (show dictR last f p (bs.drop p)=(0,⟨5,f,p+1,0,0,[],[]⟩) from by rw [hd];exact if_pos rfl)
  have HPA1:=kf (fun X hX=>HPA.out X hX hx)
  clear hx hd hpn
  go_enter Tryz.func187,Tryz.ntmps187
  go_upto_region 1 with fail
  rw [<- HWW.out,<- HG.out]
  go_wp2_with (go_at_call 185;refine(HPA1.out _ HW1.out.here).mono ?_;rintro e w3 ⟨rfl,h3⟩;have HB3:=kf (h3.kb _ _ _ hgR (by decide) HBW.out);have HR3:=kf (h3.base (HW1.out.kb.trans h3.kb));clear h3;obtain⟨r0,r1,r2,r3,r4,r5,r6,r7,z0,z1,z2,z3,z4,z5,z6,z7⟩:=HB3.out.cl8)
  refine bodyPost_ret (v:=.tuple #[.agg #[.int .i64 5,.int .i64 0,.int .i64 0,.int .i64 0,.int .i64 0,.string ⟨#[]⟩,.slice none 0 0,.string ⟨#[]⟩],.int .i64 0]) (by simp [results,Tryz.results187,go_sem,r0,r1,r2,r3,r4,r5,r6,r7]) rfl ?_
  exact⟨⟨5,0,0,0,0,[],[]⟩,p+1,by rw [HD.out];rfl,fun _=>by rw [HD.out];exact⟨rfl,rfl⟩,(HR3.out.re.set8 hgR hgW hgw _ _ _ _ _ _ _ _).back HKB.out⟩
 ·have HD:=kf (show(dictR last f p (bs.drop p)).1=11 from by rw [hd];unfold dictR;rw [if_neg (by simpa using h62),if_neg (by simp)])
  have HPN1:=kf (fun X hX=>HPN.out X x hX hx h62)
  have k2:((p:Int)==bs.length)=false:=by simp;omega
  have k3:(p==bs.length)=false:=by simp;omega
  clear hx hd hpn
  go_enter Tryz.func187,Tryz.ntmps187
  go_upto_region 1 with fail
  rw [<- HWW.out,<- HG.out]
  go_upto_region 3 with(go_at_call 185;refine(HPN1.out _ HW1.out.here).mono ?_;rintro e w3 ⟨rfl,h3⟩;obtain⟨c2,c3,c4,f3⟩:=h3.cells;have HB3:=kf (h3.kb _ _ _ hgR (by decide) HBW.out);have HR3:=kf (h3.base (HW1.out.kb.trans h3.kb));clear h3)
  go_quiet (fail)
  obtain⟨r0,r1,r2,r3,r4,r5,r6,r7,z0,z1,z2,z3,z4,z5,z6,z7⟩:=(HB3.out.drewN nq).cl8
  go_wp2_with fail
  refine bodyPost_ret (v:=.tuple #[.agg #[.int .i64 0,.int .i64 0,.int .i64 0,.int .i64 0,.int .i64 0,.string ⟨#[]⟩,.slice none 0 0,.string ⟨#[]⟩],.int .i64 11]) (by simp [results,Tryz.results187,go_sem,r0,r1,r2,r3,r4,r5,r6,r7]) rfl ?_
  exact PTk.err HD.out (by decide) (((HR3.out.drewN nq).re.set8 hgR hgW hgw _ _ _ _ _ _ _ _).back HKB.out)
def bareR (last:Bool) (f p x:Nat) (l:List Nat):Int × Tkn :=
 if runE last l≠0 then(6,noT f)
 else if isNm x then
  if (numOf (l.take (rgs l))).1≠0 then((numOf (l.take (rgs l))).1,noT f) else(0,⟨1,f,p+rgs l,(numOf (l.take (rgs l))).2.1,(numOf (l.take (rgs l))).2.2,[],[]⟩)
 else(0,⟨6,f,p+rgs l,0,0,[],l.take (rgs l)⟩)
set_option maxHeartbeats 2000000 in
set_option maxRecDepth 100000 in
theorem pbare_any {V w W:World} {A:Option Addr} {bs:List Nat} {c R p x:Nat} {last:Bool} (h:RD V w W A bs.length c last R p []) (hS:Src w 1 A bs.length c (lcells bs)) (hl:bs.length<=500000) (hc:bs.length<=c) (hb:∀ d∈bs,d<256) (hx:bs[p]?=some x) (hr:isRg x=true) (f:Nat) :
  Calls Tryz.prog 189 #[.pointer (some ⟨R,0,none⟩)] W (PTk V w R (bareR last f p x (bs.drop p))):=by
 have hp:p<bs.length:=(List.getElem?_eq_some_iff.1 hx).1
 have hx256:x<256:=hb x (List.mem_of_getElem? hx)
 have HRU:=kf (fun X (hX:RD X w X A bs.length c last R p [])=>prun_any hX hS hl hc (by omega) (by omega))
 have HCR:=kf (fun X=>crune_any x hx256 X)
 have HVA:=kf (fun k n er X=>pvalued_any k n er ⟨#[]⟩ X)
 have HKB:=kf h.kb
 have HR0:=kf h.here
 have hRW:=h.lt
 have hwW:=h.chg.size
 obtain⟨g,hg⟩:∃ g,g=W.heap.size:=⟨_,rfl⟩
 have HG:=kf hg
 have hgR:g≠R:=by omega
 have hgW:W.heap.size<=g:=by omega
 have hgw:w.heap.size<=g:=by omega
 have HBW:=kf (show Blk (W.alloc (.cells #[.int .i64 0,.int .i64 0,.int .i64 0,.int .i64 0,.int .i64 0,.string ⟨#[]⟩,.slice none 0 0,.string ⟨#[]⟩] 131)) g 131 #[.int .i64 0,.int .i64 0,.int .i64 0,.int .i64 0,.int .i64 0,.string ⟨#[]⟩,.slice none 0 0,.string ⟨#[]⟩] from by rw [hg];exact Blk.new _ _ _)
 have HW1:=kf (HR0.out.alloc (.cells #[.int .i64 0,.int .i64 0,.int .i64 0,.int .i64 0,.int .i64 0,.string ⟨#[]⟩,.slice none 0 0,.string ⟨#[]⟩] 131))
 obtain⟨W1,hW1⟩:∃ W1,W1=W.alloc (.cells #[.int .i64 0,.int .i64 0,.int .i64 0,.int .i64 0,.int .i64 0,.string ⟨#[]⟩,.slice none 0 0,.string ⟨#[]⟩] 131):=⟨_,rfl⟩
 rw [<- hW1] at HW1 HBW
 have HWW:=kf hW1
 obtain⟨l,hl0⟩:∃ l,l=bs.drop p:=⟨_,rfl⟩
 obtain⟨m,hm⟩:∃ m,l=x::m:=by
  obtain⟨y,hy,hd⟩:=drop_at (bs:=bs) hp
  rw [hx] at hy
  injection hy with hy
  exact⟨bs.drop (p+1),by rw [hl0,hd,hy]⟩
 have hlb:∀ d∈l,d<256:=fun d hd=>hb d (by rw [hl0] at hd;exact List.mem_of_mem_drop hd)
 have hll:l.length<=500000:=by rw [hl0,List.length_drop];omega
 obtain⟨ws,hws⟩:∃ ws,ws=l.take (rgs l):=⟨_,rfl⟩
 have hwsx:ws=x::m.take (rgs m):=by rw [hws,hm,rgs_go hr,List.take_succ_cons]
 have hwsb:∀ d∈ws,d<256:=fun d hd=>hlb d (by rw [hws] at hd;exact List.mem_of_mem_take hd)
 have hwsl:ws.length<=500000:=by rw [hws,List.length_take];omega
 have hsl:=sl_sb ws hwsb
 have hsz:=sb_size ws
 have HPA:=kf (fun X=>parse_any (sb ws) X (by rw [sb_size];exact hwsl))
 rw [hsl] at HPA
 obtain⟨L,hL⟩:∃ L,L=p+rgs l:=⟨_,rfl⟩
 have HB:=kf (show bareR last f p x l=if runE last l≠0 then(6,noT f) else if isNm x then(if (numOf ws).1≠0 then((numOf ws).1,noT f) else(0,⟨1,f,L,(numOf ws).2.1,(numOf ws).2.2,[],[]⟩)) else(0,⟨6,f,L,0,0,[],ws⟩) from by unfold bareR;rw [hws,hL])
 rw [<- hl0] at HRU ⊢
 rw [<- hws,<- hL] at HRU
 obtain⟨t,ht⟩:∃ t,sb ws=t:=⟨_,rfl⟩
 have HTS:=kf ht
 rw [ht] at HRU HPA hsl hsz
 have g0:∀ k:0<t.size,(t[0]'k).toNat=x:=fun k=>by rw [sl_at,hsl,hwsx];rfl
 obtain⟨N,hN⟩:∃ N,t.size=N:=⟨_,rfl⟩
 have hN0:0<N:=by rw [<- hN,hsz,hwsx];exact Nat.zero_lt_succ _
 have hN1:(0:Int)<N:=by omega
 obtain⟨er0,K,n,hNu⟩:∃ er0 K n,numOf ws=(er0,K,n):=⟨_,_,_,rfl⟩
 rw [hNu] at HB
 have HPA1:=kf (fun X=>(show Calls Tryz.prog 213 #[.string t] X fun e w'=>e=.returned (.tuple #[.agg #[.int .i64 (K:Nat),.int .i64 n,.string ⟨#[]⟩,.slice none 0 0],.int .i64 er0])/\Chg NoS X w' from by
  have h9:=HPA.out X
  unfold PaTo at h9
  rw [hNu] at h9
  exact h9))
 have hw32:IntKind.i32.wrap (x:Int)=(x:Int):=by rw [IntKind.wrap_i32];omega
 clear h hS hg hwW hRW hW1 hl0 hm hlb hll hws hwsx hwsb hwsl hsl hsz hL ht hb hx hNu HPA hl hc hp
 rcases runE_two last l with hE|hE
 case inr =>
  rw [hE] at HRU HB
  clear hE
  have HB2:=kf (HB.out.trans (if_pos (show(6:Int)≠0 by decide)))
  go_enter Tryz.func189,Tryz.ntmps189
  go_upto_region 1 with fail
  rw [<- HWW.out,<- HG.out]
  go_wp2_with (go_at_call 209;refine(HRU.out _ HW1.out.here).mono ?_;rintro e w3 ⟨rfl,h3⟩;have HB3:=kf (h3.kb _ _ _ hgR (by decide) HBW.out);have HR3:=kf (h3.base (HW1.out.kb.trans h3.kb));clear h3;obtain⟨r0,r1,r2,r3,r4,r5,r6,r7,z0,z1,z2,z3,z4,z5,z6,z7⟩:=HB3.out.cl8)
  refine bodyPost_ret (v:=.tuple #[.agg #[.int .i64 0,.int .i64 0,.int .i64 0,.int .i64 0,.int .i64 0,.string ⟨#[]⟩,.slice none 0 0,.string ⟨#[]⟩],.int .i64 6]) (by simp [results,Tryz.results189,go_sem,r0,r1,r2,r3,r4,r5,r6,r7]) rfl ?_
  exact PTk.err (by rw [HB2.out]) (by decide) ((HR3.out.re.set8 hgR hgW hgw _ _ _ _ _ _ _ _).back HKB.out)
 rw [hE] at HRU HB
 clear hE
 have HB1:=kf (HB.out.trans (if_neg (fun h9=>h9 rfl)))
 cases hNm:isNm x with
 |false =>
  rw [hNm] at HCR HB1
  have HB2:=kf (HB1.out.trans (if_neg (by decide)))
  clear hNm
  go_enter Tryz.func189,Tryz.ntmps189
  go_upto_region 1 with fail
  rw [<- HWW.out,<- HG.out]
  go_wp2_with first
   |(go_at_call 209;refine(HRU.out _ HW1.out.here).mono ?_;rintro e w3 ⟨rfl,h3⟩;have HB3:=kf (h3.kb _ _ _ hgR (by decide) HBW.out);have HR3:=kf (h3.base (HW1.out.kb.trans h3.kb));clear h3)
   |(go_at_call 212;refine(HCR.out _).mono ?_;rintro e w4 ⟨rfl,hc4⟩;have HR4:=kf (HR3.out.call hc4);have HB4:=kf (HB3.out.chg hc4 (fun h=>h));clear hc4;obtain⟨r0,r1,r2,r3,r4,r5,r6,r7,z0,z1,z2,z3,z4,z5,z6,z7⟩:=HB4.out.cl8)
  refine bodyPost_ret (v:=.tuple #[.agg #[.int .i64 6,.int .i64 0,.int .i64 0,.int .i64 0,.int .i64 0,.string ⟨#[]⟩,.slice none 0 0,.string t],.int .i64 0]) (by simp [results,Tryz.results189,go_sem,r0,r1,r2,r3,r4,r5,r6,r7]) rfl ?_
  exact⟨⟨6,0,0,0,0,[],ws⟩,L,by rw [HB2.out,<- HTS.out];rfl,fun _=>by rw [HB2.out];exact⟨rfl,rfl⟩,(HR4.out.re.set8 hgR hgW hgw _ _ _ _ _ _ _ _).back HKB.out⟩
 |true =>
  rw [hNm] at HCR HB1
  have HB2:=kf (HB1.out.trans (if_pos rfl))
  clear hNm
  go_enter Tryz.func189,Tryz.ntmps189
  go_upto_region 1 with fail
  rw [<- HWW.out,<- HG.out]
  go_wp2_with first
   |(go_at_call 209;refine(HRU.out _ HW1.out.here).mono ?_;rintro e w3 ⟨rfl,h3⟩;have HB3:=kf (h3.kb _ _ _ hgR (by decide) HBW.out);have HR3:=kf (h3.base (HW1.out.kb.trans h3.kb));clear h3)
   |(go_at_call 212;refine(HCR.out _).mono ?_;rintro e w4 ⟨rfl,hc4⟩;have HR4:=kf (HR3.out.call hc4);have HB4:=kf (HB3.out.chg hc4 (fun h=>h));clear hc4)
   |(go_at_call 213;refine(HPA1.out _).mono ?_;rintro e w5 ⟨rfl,hc5⟩;have HR5:=kf (HR4.out.call hc5);have HB5:=kf (HB4.out.chg hc5 (fun h=>h));clear hc5)
   |(go_at_call 183;refine(HVA.out _ _ _ _).mono ?_;rintro e w6 ⟨rfl,hc6⟩;have HR6:=kf (HR5.out.call hc6);have HB6:=kf (HB5.out.chg hc6 (fun h=>h));clear hc6;obtain⟨r0,r1,r2,r3,r4,r5,r6,r7,z0,z1,z2,z3,z4,z5,z6,z7⟩:=HB6.out.cl8)
  refine bodyPost_ret (v:=.tuple #[.agg #[.int .i64 1,.int .i64 0,.int .i64 0,.int .i64 (K:Nat),.int .i64 n,.string ⟨#[]⟩,.slice none 0 0,.string ⟨#[]⟩],.int .i64 er0]) (by simp [results,Tryz.results189,go_sem,r0,r1,r2,r3,r4,r5,r6,r7]) rfl ?_
  have HRF:=kf ((HR6.out.re.set8 hgR hgW hgw (.int .i64 1) (.int .i64 0) (.int .i64 0) (.int .i64 (K:Nat)) (.int .i64 n) (.string ⟨#[]⟩) (.slice none 0 0) (.string ⟨#[]⟩)).back HKB.out)
  by_cases he:er0=0
  ·have HB3:=kf (HB2.out.trans (if_neg (fun h9=>h9 he)))
   exact⟨⟨1,0,0,K,n,[],[]⟩,L,by rw [HB3.out,he];rfl,fun _=>by rw [HB3.out];exact⟨rfl,rfl⟩,HRF.out⟩
  ·have HB3:=kf (HB2.out.trans (if_pos he))
   exact⟨⟨1,0,0,K,n,[],[]⟩,L,by rw [HB3.out];rfl,fun h9=>absurd (by rw [HB3.out] at h9;exact h9) he,HRF.out⟩
end Go.Proofs.YthejpkflcgjdoaaGreatDoor
