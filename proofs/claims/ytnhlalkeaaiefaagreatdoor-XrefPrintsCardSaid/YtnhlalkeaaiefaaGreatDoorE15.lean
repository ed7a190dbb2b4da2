import Derived.Test.YtnhlalkeaaiefaaGreatDoorE11
import Derived.Test.YtnhlalkeaaiefaaGreatDoorE14
set_option linter.unusedVariables false
set_option maxHeartbeats 64000000
set_option maxRecDepth 100000
set_option linter.unusedSimpArgs false
namespace Go.Proofs.YtnhlalkeaaiefaaGreatDoor
open Go.RowKit
theorem z9n (bs:List Nat):strOfNums (bs.map fun b:Nat=>(b:Int))=sb bs:=by
 unfold strOfNums sb;rw [List.map_map];congr 2
theorem y98 {w:World} {A:Option Addr} {n c:Nat} {bs:List Nat} (h:Src w 1 A n c (z08 bs)) :
  (convert 32 9 (.slice A n c)).run Tryz.prog w=.ok (.string (sb bs)) w:=by
 have hlen:bs.length=n:=by
  have:=h.1;simpa [z08] using this
 rw [<- z9n];rcases Nat.eq_zero_or_pos n with h0|h0
 ·subst h0;have hb:bs=[]:=List.eq_nil_of_length_eq_zero hlen;subst hb;rcases A with _|a
  ·have:=(h.2.1 rfl).2;subst this;exact run_convert_bytes_nil w 32 5 Tryz.underlying32 Tryz.underlying5 _ _ 9 Tryz.underlying9
  ·have hl:(loadCells a 0).run Tryz.prog w=.ok #[] w:=by simpa using run_loadCells_list (P:=Tryz.prog) w a [] (fun j v hj=>by simp at hj)
   rw [run_convert_bytes_string w 32 9 5 _ 0 c Tryz.underlying32 Tryz.underlying5 Tryz.underlying9];simp [Conv.bytesToString,hl,Result.andThen];rfl
 ·obtain⟨b,off,rfl,hcell⟩:=h.plain (by rw [z82];omega);refine run_convert_bytes_arg w 32 5 Tryz.underlying32 Tryz.underlying5 b off n c (bs.map fun b:Nat=>(b:Int)) (by simpa using hlen) (fun i hi=>?_) 9 Tryz.underlying9;have hc:=hcell i (.int .u8 (bs.getD i 0:Nat)) (z4n (by rw [List.getD_eq_getElem?_getD,List.getElem?_eq_getElem (by omega)];rfl));rw [hc];simp [hlen,hi]
def RuJ (w w0:World) (A:Option Addr) (bs:List Nat) (c:Nat) (last:Bool) (R p:Nat) (out:List Nat) (n:Nat) (x:Act) (w':World):Prop :=
 x.defers=[]/\x.tmps.size=60/\x.tmps.getD 0 undef=.pointer (some ⟨R,0,none⟩)/\x.tmps.getD 4 undef=.int .i64 (p:Nat)/\x.tmps.getD 5 undef=.int .i64 0/\∃ k:Nat,n=(bs.length-k)+1/\k<=bs.length/\p<=k /\
  Hid (RD w w0 w' A bs.length c last R k out/\p+rgs (bs.drop p)=k+rgs (bs.drop k))
theorem v0f {x:Act} {v0 v4 v5:Value} {C:Act->Prop} (h1:x.defers=[]) (h2:x.tmps.size=60) (h3:x.tmps.getD 0 undef=v0) (h4:x.tmps.getD 4 undef=v4) (h5:x.tmps.getD 5 undef=v5)
  (k:∀ f:Nat->Value,C { tmps:=#[v0,f 1,f 2,f 3,v4,v5,f 6,f 7,f 8,f 9,f 10,f 11,f 12,f 13,f 14,f 15,f 16,f 17,f 18,f 19,f 20,f 21,f 22,f 23,f 24,f 25,f 26,f 27,f 28,f 29,f 30,f 31,f 32,f 33,f 34,f 35,f 36,f 37,f 38,f 39,f 40,f 41,f 42,f 43,f 44,f 45,f 46,f 47,f 48,f 49,f 50,f 51,f 52,f 53,f 54,f 55,f 56,f 57,f 58,f 59],defers:=[] }):C x:=by
 obtain⟨t,d⟩:=x;simp only at h1 h2 h3 h4 h5;subst h1;have h6:=k (fun i=>t.getD i undef);rw [<- h3,<- h4,<- h5] at h6;rw [z2m t 60 h2];exact h6
theorem v0n {x:Nat} {l:List Nat} (h:y0c x=false):rgs (x::l)=0:=by rw [rgs,if_neg (by rw [h];decide)]
theorem z9v {x:Nat} {l:List Nat} (h:y0c x=true):rgs (x::l)=rgs l+1:=by rw [rgs,if_pos h]
def z99 (last:Bool) (l:List Nat):Int:=if rgs l=l.length/\last=false then 6 else 0
theorem y2v {V w W:World} {A:Option Addr} {bs:List Nat} {c R p:Nat} {last:Bool} {out:List Nat} (h:RD V w W A bs.length c last R p out) (hS:Src w 1 A bs.length c (z08 bs)) (hl:bs.length<=500000) (hc:bs.length<=c) (hp:p<=bs.length) (hn0:0<bs.length) :
  Calls Tryz.prog 209 #[.pointer (some ⟨R,0,none⟩)] W fun e W'=>e=.returned (.tuple #[.string (sb ((bs.drop p).take (rgs (bs.drop p)))),.int .i64 (z99 last (bs.drop p))])/\RD V w W' A bs.length c last R (p+rgs (bs.drop p)) out:=by
 have HSP:=kf (fun y X=>z3i y X);have HDL:=kf (fun y X=>z7w y X);have HCU:=kf (fun X k (hX:RD V w X A bs.length c last R k out)=>z4f hX 0);have HR0:=kf h;have HS:=kf hS;obtain⟨c2,c3,c4,f3⟩:=h.cells;obtain⟨b,off,rfl,hcell⟩:=z5x hS (Chg.refl NoS w) hn0;have HCELL:=kf hcell;have HBR:=kf (fun(k x:Nat) (hx:bs[k]?=some x)=>(show b≠R from by have h1:=z04 (hcell k x hx);have h2:=h.new;simp only at h1;omega))
 have HCV:=kf (fun(X:World) (hX:Chg NoS w X) (m:Nat) (hm:p+m<=bs.length)=>(show(convert 32 9 (.slice (y95 (some ⟨b,off,none⟩) p c) m (c-p))).run Tryz.prog X=.ok (.string (sb ((bs.drop p).take m))) X from by
  have h1:=y2e (lo:=p) (m:=m) (Src.below (w0:=w) hS hX) hc hm;have e:((z08 bs).drop p).take m=z08 ((bs.drop p).take m):=by unfold z08;rw [<- List.map_drop,<- List.map_take]
  rw [e] at h1;exact y98 h1))
 obtain⟨L,hL⟩:∃ L,L=rgs (bs.drop p):=⟨_,rfl⟩
 have HLen:=kf (show p+L<=bs.length from by have:=y6h (bs.drop p);rw [List.length_drop,<- hL] at this;omega);obtain⟨S,hS2⟩:∃ S,S=sb ((bs.drop p).take L):=⟨_,rfl⟩
 have HS2:=kf hS2;have HL:=kf hL
 have HEr:=kf (show z99 last (bs.drop p)=if p+L=bs.length/\last=false then 6 else 0 from by
  unfold z99;rw [<- hL,List.length_drop];by_cases h1:p+L=bs.length
  ·by_cases h2:last=false
   ·rw [if_pos ⟨by omega,h2⟩,if_pos ⟨h1,h2⟩]
   ·rw [if_neg (fun e=>h2 e.2),if_neg (fun e=>h2 e.2)]
  ·rw [if_neg (fun e=>h1 (by omega)),if_neg (fun e=>h1 e.1)])
 rw [<- hL,<- hS2];obtain⟨E,hE⟩:∃ E,E=z99 last (bs.drop p):=⟨_,rfl⟩
 rw [<- hE];rw [<- hE] at HEr;clear h hS hcell hE hL hS2;go_enter Tryz.func209,Tryz.ntmps209;go_wp2;refine z9f (RuJ V w (some ⟨b,off,none⟩) bs c last R p out) rfl ?pass0 ?first
 case first =>
  intro hpass;have HPass:=kf hpass;clear hpass;go_wp2;go_step3;rename_i hK;refine hK _ _ (HPass.out _ _ _ ⟨rfl,rfl,rfl,rfl,rfl,p,rfl,hp,Nat.le_refl _,kf ⟨HR0.out,rfl⟩⟩)
 case pass0 =>
  intro n x w1 hx;obtain⟨h1,h2,h3,h4,h5,k,rfl,hk,hpk,HT⟩:=hx;refine v0f h1 h2 h3 h4 h5 (C:=fun y=>Code.wp _ _ _ y w1) ?_;intro f;clear h1 h2 h3 h4 h5 c2 c3 c4 f3;obtain⟨c2,c3,c4,f3⟩:=HT.out.1.cells;by_cases hkn:k=bs.length
  ·have HK:=kf (show p+L=k from by rw [HL.out,HT.out.2,hkn,List.drop_of_length_le (Nat.le_refl _)];rfl);have HE1:=kf (show(if last then(0:Int) else 6)=E from by rw [HEr.out,HK.out];cases last<;>simp [hkn]);have HCU1:=kf (fun X hX=>HCU.out X k hX);rw [HE1.out] at HCU1;have hcv:=fun m m2=>HCV.out ((w1.drewN m).drewN m2) ((HT.out.1.chg.drewN m).drewN m2) L HLen.out;have hcv1:=fun m=>HCV.out (w1.drewN m) (HT.out.1.chg.drewN m) L HLen.out;have hLk:L=k-p:=by have:=HK.out;omega
   rw [<- HS2.out,hLk] at hcv hcv1;have HNK:=kf hkn;have k2:((k:Int)==bs.length)=true:=by simp;omega
   have k3:(k==bs.length)=true:=by simp;omega
   clear hkn HCU;have p1:(p:Int)<=k:=by omega
   have p2:(k:Int)<=c:=by omega
   have p3:(k:Int)<=bs.length:=by omega
   rw [z4s] at hcv hcv1;go_upto_region 2 with fail;go_quiet (fail);go_upto_region 7 with first|(go_at_call 182;refine(HCU1.out _ (HT.out.1.drewN _)).mono ?_;rintro e w5 ⟨rfl,rfl⟩)|(go_at_call 151;refine(HSP1.out _).mono ?_;rintro e w5 ⟨rfl,rfl⟩)|(go_at_call 173;refine(HDL1.out _).mono ?_;rintro e w5 ⟨rfl,rfl⟩)
   go_quiet (fail);go_wp2_with fail;all_goals (try simp only [z1t])
   all_goals (go_ret2;exact⟨rfl,by rw [HK.out];exact HT.out.1.drewN _⟩)
  obtain⟨x,hx,hd⟩:=z19 (bs:=bs) (k:=k) (by omega);have hbR:=HBR.out k x hx;have c0:w1.cell? ⟨b,off+k,none⟩=some (.int .u8 (x:Nat)):=(HT.out.1.chg.cell (p:=⟨b,off+k,none⟩) (z04 (HCELL.out k x hx)) (fun h=>h)).trans (HCELL.out k x hx);have k1:(k:Int)<bs.length:=by omega
  have k2:((k:Int)==bs.length)=false:=by simp;omega
  have k3:(k==bs.length)=false:=by simp;omega
  have HD:=kf hd;have HSP1:=kf (fun X=>HSP.out x X);have HDL1:=kf (fun X=>HDL.out x X);clear hx hd;by_cases hr:y0c x=true
  ·have HV:=kf (show p+rgs (bs.drop p)=k+1+rgs (bs.drop (k+1)) from by rw [HT.out.2,HD.out,z9v hr];omega)
   have hs1:z3s x=false:=by
    cases h7:z3s x with
    |false=>rfl
    |true=>rw [y0c,h7] at hr;cases hr
   have hd1:z4p x=false:=by
    cases h7:z4p x with
    |false=>rfl
    |true=>rw [y0c,hs1,h7] at hr;cases hr
   rw [hs1] at HSP1;rw [hd1] at HDL1;clear hs1 hd1 hr;go_upto_region 2 with fail;go_quiet (fail);go_upto_region 4 with fail;go_quiet (fail);go_wp2_with first|(go_at_call 151;refine(HSP1.out _).mono ?_;rintro e w5 ⟨rfl,rfl⟩)|(go_at_call 173;refine(HDL1.out _).mono ?_;rintro e w5 ⟨rfl,rfl⟩)
   go_step3;exact⟨(bs.length-(k+1))+1,by omega,rfl,rfl,rfl,rfl,rfl,rfl,k+1,rfl,by omega,by omega,kf ⟨(HT.out.1.drewN _).at_ _,HV.out⟩⟩
  ·have hr2:y0c x=false:=by simpa using hr
   have HK:=kf (show p+L=k from by rw [HL.out,HT.out.2,HD.out,v0n hr2];rfl);have HE1:=kf (show E=0 from by rw [HEr.out,if_neg (fun e=>by have:=HK.out;omega)]);have hcv:=fun m m2=>HCV.out ((w1.drewN m).drewN m2) ((HT.out.1.chg.drewN m).drewN m2) L HLen.out;have hcv1:=fun m=>HCV.out (w1.drewN m) (HT.out.1.chg.drewN m) L HLen.out;have hLk:L=k-p:=by have:=HK.out;omega
   rw [<- HS2.out,hLk] at hcv hcv1;clear hr;cases h7:z3s x with
   |true =>
    rw [h7] at HSP1;clear h7 hr2;have p1:(p:Int)<=k:=by omega
    have p2:(k:Int)<=c:=by omega
    have p3:(k:Int)<=bs.length:=by omega
    rw [z4s] at hcv hcv1;go_upto_region 2 with fail;go_quiet (fail);go_upto_region 4 with fail;go_quiet (fail);go_upto_region 7 with first|(go_at_call 182;refine(HCU1.out _ (HT.out.1.drewN _)).mono ?_;rintro e w5 ⟨rfl,rfl⟩)|(go_at_call 151;refine(HSP1.out _).mono ?_;rintro e w5 ⟨rfl,rfl⟩)|(go_at_call 173;refine(HDL1.out _).mono ?_;rintro e w5 ⟨rfl,rfl⟩)
    go_quiet (fail);go_wp2_with fail;all_goals (try simp only [z1t])
    all_goals (go_ret2;exact⟨by rw [HE1.out];rfl,by rw [HK.out];exact HT.out.1.drewN _⟩)
   |false =>
    have h8:z4p x=true:=by
     cases h9:z4p x with
     |true=>rfl
     |false=>rw [y0c,h7,h9] at hr2;cases hr2
    rw [h7] at HSP1;rw [h8] at HDL1;clear h7 h8 hr2;have p1:(p:Int)<=k:=by omega
    have p2:(k:Int)<=c:=by omega
    have p3:(k:Int)<=bs.length:=by omega
    rw [z4s] at hcv hcv1;go_upto_region 2 with fail;go_quiet (fail);go_upto_region 4 with fail;go_quiet (fail);go_upto_region 7 with first|(go_at_call 182;refine(HCU1.out _ (HT.out.1.drewN _)).mono ?_;rintro e w5 ⟨rfl,rfl⟩)|(go_at_call 151;refine(HSP1.out _).mono ?_;rintro e w5 ⟨rfl,rfl⟩)|(go_at_call 173;refine(HDL1.out _).mono ?_;rintro e w5 ⟨rfl,rfl⟩)
    go_quiet (fail);go_wp2_with fail;all_goals (try simp only [z1t])
    all_goals (go_ret2;exact⟨by rw [HE1.out];rfl,by rw [HK.out];exact HT.out.1.drewN _⟩)
theorem z5c:∀ (ds l:List Nat),ds.length%2=0->z3y (ds++l)=z3y ds++z3y l
 |[],_,_=>rfl
 |[a],_,h=>by simp at h
 |a::b::ds,l,h=>by
  have:=z5c ds l (by simp only [List.length_cons] at h;omega);rw [List.cons_append,List.cons_append,z3y,z3y,this];rfl
def HxS (ds:List Nat) (odd:Bool) (h:Nat) (out:List Nat):Prop :=
 if odd then ∃ es a,ds=es++[a]/\es.length%2=0/\out=z3y es/\h=16*a/\a<16 else ds.length%2=0/\out=z3y ds
theorem HxS.nil (h:Nat):HxS [] false h []:=⟨rfl,rfl⟩
theorem HxS.one {ds out:List Nat} {h d:Nat} (k:HxS ds false h out) (hd:d<16):HxS (ds++[d]) true (16*d) out:=⟨ds,d,rfl,k.1,k.2,rfl,hd⟩
theorem HxS.two {ds out:List Nat} {h d h':Nat} (k:HxS ds true h out):HxS (ds++[d]) false h' (out++[h+d]):=by
 obtain⟨es,a,rfl,e1,rfl,rfl,_⟩:=k;refine⟨by simp;omega,?_⟩;rw [List.append_assoc,z5c _ _ e1];rfl
theorem HxS.end0 {ds out:List Nat} {h:Nat} (k:HxS ds false h out):z3y ds=out:=k.2.symm
theorem HxS.end1 {ds out:List Nat} {h:Nat} (k:HxS ds true h out):z3y ds=out++[h]:=by
 obtain⟨es,a,rfl,e1,rfl,rfl,_⟩:=k;rw [z5c _ _ e1];rfl
theorem HxS.lt {ds out:List Nat} {h:Nat} (k:HxS ds true h out):∃ a,h=16*a/\a<16:=by
 obtain⟨es,a,rfl,e1,rfl,rfl,h3⟩:=k;exact⟨a,rfl,h3⟩
theorem v79 {h a d:Nat} (hh:h=16*a) (ha:a<16) (hd:d<16):bits BinOp.or IntKind.u8 (h:Int) (d:Int)=((h+d:Nat):Int):=by
 rw [u8_or_nat h d (by omega) (by omega),hh];have:=(Nat.two_pow_add_eq_or_of_lt (i:=4) (b:=d) (by omega) a).symm;exact congrArg Nat.cast this
section
variable {last:Bool} {ds l:List Nat} {p c d:Nat}
theorem v4z:z2c last ds p (62::l)=(0,z3y ds,p+1):=by rw [z2c,if_pos rfl]
theorem v7o (h1:c≠62) (h2:z3s c=true):z2c last ds p (c::l)=z2c last ds (p+1) l:=by rw [z2c,if_neg h1,if_pos h2]
theorem v52 (h1:c≠62) (h2:z3s c=false) (h3:z3k c=none):z2c last ds p (c::l)=(11,[],0):=by rw [z2c,if_neg h1,if_neg (by rw [h2];decide),h3]
theorem v50 (h1:c≠62) (h2:z3s c=false) (h3:z3k c=some d):z2c last ds p (c::l)=z2c last (ds++[d]) (p+1) l:=by rw [z2c,if_neg h1,if_neg (by rw [h2];decide),h3]
end
def q0o (V w:World) (A:Option Addr) (bs:List Nat) (c:Nat) (last:Bool) (R g p:Nat) (n:Nat) (x:Act) (w':World):Prop :=
 x.defers=[]/\x.tmps.size=57/\x.tmps.getD 0 undef=.pointer (some ⟨R,0,none⟩)/\x.tmps.getD 2 undef=.pointer (some ⟨g,0,none⟩)/\∃ (k h:Nat) (odd:Bool) (ds out:List Nat),x.tmps.getD 4 undef=.bool odd/\x.tmps.getD 5 undef=.int .u8 (h:Nat)/\n=(bs.length-k)+1/\k<=bs.length/\out.length<=k /\
  Hid (TxR V w A bs c last R g p k 0 out w'/\z2c last [] p (bs.drop p)=z2c last ds k (bs.drop k)/\HxS ds odd h out)
def q0n (V w:World) (A:Option Addr) (bs:List Nat) (c:Nat) (last:Bool) (R g p:Nat) (n:Nat) (x:Act) (w':World):Prop :=
 x.defers=[]/\x.tmps.size=57/\x.tmps.getD 0 undef=.pointer (some ⟨R,0,none⟩)/\x.tmps.getD 2 undef=.pointer (some ⟨g,0,none⟩)/\∃ (k h:Nat) (odd:Bool) (ds out:List Nat),x.tmps.getD 4 undef=.bool odd/\x.tmps.getD 5 undef=.int .u8 (h:Nat)/\n=0/\k<=bs.length/\out.length<=k /\
  Hid (TxR V w A bs c last R g p k 0 out w'/\z2c last [] p (bs.drop p)=(0,z3y ds,k)/\HxS ds odd h out)
theorem y2g {x:Act} {v0 v2:Value} {C:Act->Prop} (h1:x.defers=[]) (h2:x.tmps.size=57) (h3:x.tmps.getD 0 undef=v0) (h4:x.tmps.getD 2 undef=v2)
  (k:∀ f:Nat->Value,f 4=x.tmps.getD 4 undef->f 5=x.tmps.getD 5 undef->C { tmps:=#[v0,f 1,v2,f 3,f 4,f 5,f 6,f 7,f 8,f 9,f 10,f 11,f 12,f 13,f 14,f 15,f 16,f 17,f 18,f 19,f 20,f 21,f 22,f 23,f 24,f 25,f 26,f 27,f 28,f 29,f 30,f 31,f 32,f 33,f 34,f 35,f 36,f 37,f 38,f 39,f 40,f 41,f 42,f 43,f 44,f 45,f 46,f 47,f 48,f 49,f 50,f 51,f 52,f 53,f 54,f 55,f 56],defers:=[] }):C x:=by
 obtain⟨t,d⟩:=x;simp only at h1 h2 h3 h4;subst h1;have h5:=k (fun i=>t.getD i undef) rfl rfl;rw [<- h3,<- h4] at h5;rw [z2m t 57 h2];exact h5
theorem v0y {V w W:World} {A:Option Addr} {bs:List Nat} {c R p:Nat} {last:Bool} (h:RD V w W A bs.length c last R p []) (hS:Src w 1 A bs.length c (z08 bs)) (hl:bs.length<=500000) (hc:bs.length<=c) (hp:p<=bs.length) (hb:∀ d∈bs,d<256) :
  Calls Tryz.prog 186 #[.pointer (some ⟨R,0,none⟩)] W (PTo V w R 4 (z2c last [] p (bs.drop p))):=by
 have hl6:bs.length<=1000000:=by omega
 have HTE:=kf (fun X out (hX:RD X w X A bs.length c last R bs.length out)=>z6o hX);have HTA:=kf (fun X out k x (hX:RD X w X A bs.length c last R k out) (hx:bs[k]?=some x)=>z8i hX hS hl6 hc hx);have HWB:=kf (fun X out k y (hX:RD X w X A bs.length c last R k out) (ho:out.length<=1000000)=>z58 hX y ho);have HCU:=kf (fun X out k (hX:RD X w X A bs.length c last R k out)=>z4f hX 10);have HBU:=kf (fun X out k (hX:RD X w X A bs.length c last R k out) (ho:∀ d∈out,d<256) (hm:out.length<=1000000)=>z5b hX ho hm 4);have HDG:=kf (fun y (hy:y<256) X=>z5a y hy X);have HSP:=kf (fun y X=>z3i y X);have HB:=kf hb;have HKB:=kf h.kb;have HR0:=kf h.here;have hRW:=h.lt;have hwW:=h.chg.size;obtain⟨g,hg⟩:∃ g,g=W.heap.size:=⟨_,rfl⟩
 have HG:=kf hg;have hgR:g≠R:=by omega
 have hgW:W.heap.size<=g:=by omega
 have hgw:w.heap.size<=g:=by omega
 have HTR:=kf (fun(X X':World) (k k' deep deep':Nat) (out out':List Nat) (h:TxR W w A bs c last R g p k deep out X) (h':RD X w X' A bs.length c last R k' out') (hb:∀ d∈out',d<256)=>TxR.step (deep':=deep') h h' hgR hb);have HL6:=kf hl6;clear h hS hb hc hl6 hg hwW hRW;go_enter Tryz.func186,Tryz.ntmps186;go_wp2;refine z6a (q0o W w A bs c last R g p) (q0n W w A bs c last R g p) rfl rfl ?pass0 ?pass1 ?first
 case first =>
  intro hpass _;have HPass:=kf hpass;clear hpass;go_wp2;go_step3;rename_i hK;refine hK _ _ (HPass.out _ _ _ ⟨rfl,rfl,rfl,by rw [HG.out];rfl,p,0,false,[],[],rfl,rfl,rfl,hp,Nat.zero_le _,kf ⟨⟨HR0.out.call ((Chg.refl NoS W).alloc _),by rw [HG.out];exact Blk.new _ _ _,fun d hd=>by cases hd⟩,rfl,HxS.nil 0⟩⟩)
 case pass1 =>
  intro n x w1 hx;obtain⟨h1,h2,h3,h4,k,h,odd,ds,out,h5,h6,rfl,hk,hm,HT⟩:=hx;refine y2g h1 h2 h3 h4 (C:=fun y=>Code.wp _ _ _ y w1) ?_;intro f hf hf2;rw [h5] at hf;rw [h6] at hf2;simp only [hf,hf2];clear h1 h2 h3 h4 h5 h6 hf hf2;have HV:=kf HT.out.2.1;have HT1:=kf HT.out.1;cases odd
  ·have HE:=kf HT.out.2.2.end0;go_wp2_with (go_at_call 205;refine(HBU.out _ _ _ HT1.out.1.here HT1.out.2.2 (by(try simp only [List.length_append,List.length_cons,List.length_nil]);omega)).mono ?_;rintro e w4 ⟨rfl,h4⟩;obtain⟨r0,r1,r2,r3,z0,z1,z2,z3⟩:=(h4.kb _ _ _ hgR (by decide) HT1.out.2.1).cl4;have HRE:=kf (h4.back HT1.out.1.kb);clear h4);simp only [z1t];refine bodyPost_ret (v:=.tuple #[.agg #[.int .i64 4,.int .i64 0,.string (sb (out)),.slice none 0 0],.int .i64 0]) (by simp [results,Tryz.results186,go_sem,r0,r1,r2,r3]) rfl ?_;refine⟨by rw [HV.out,HE.out];rfl,k,fun e=>by rw [HV.out],?_⟩;exact(HRE.out.set4 hgR hgW hgw _ _ _ _).back HKB.out
  ·have HE:=kf HT.out.2.2.end1;have hh256:h<256:=by obtain⟨a,h7,h8⟩:=HT.out.2.2.lt;omega
   go_wp2_with first
    |(go_at_call 172;refine(HWB.out _ _ _ h HT1.out.1.here (by omega)).mono ?_;rintro e w3 ⟨rfl,h3⟩;have HT2:=kf (HTR.out _ _ _ _ _ 0 _ _ HT1.out h3 (z1c HT1.out.2.2 hh256));clear h3)
    |(go_at_call 205;refine(HBU.out _ _ _ HT2.out.1.here HT2.out.2.2 (by(try simp only [List.length_append,List.length_cons,List.length_nil]);omega)).mono ?_;rintro e w4 ⟨rfl,h4⟩;obtain⟨r0,r1,r2,r3,z0,z1,z2,z3⟩:=(h4.kb _ _ _ hgR (by decide) HT2.out.2.1).cl4;have HRE:=kf (h4.back HT2.out.1.kb);clear h4)
   simp only [z1t];refine bodyPost_ret (v:=.tuple #[.agg #[.int .i64 4,.int .i64 0,.string (sb (out++[h])),.slice none 0 0],.int .i64 0]) (by simp [results,Tryz.results186,go_sem,r0,r1,r2,r3]) rfl ?_;refine⟨by rw [HV.out,HE.out];rfl,k,fun e=>by rw [HV.out],?_⟩;exact(HRE.out.set4 hgR hgW hgw _ _ _ _).back HKB.out
 case pass0 =>
  intro n x w1 hx;obtain⟨h1,h2,h3,h4,k,h,odd,ds,out,h5,h6,rfl,hk,hm,HT⟩:=hx;refine y2g h1 h2 h3 h4 (C:=fun y=>Code.wp _ _ _ y w1) ?_;intro f hf hf2;rw [h5] at hf;rw [h6] at hf2;simp only [hf,hf2];clear h1 h2 h3 h4 h5 h6 hf hf2;by_cases hkn:k=bs.length
  ·subst hkn;have HV:=kf (show z2c last [] p (bs.drop p)=(y3k last,[],0) from by rw [HT.out.2.1,List.drop_of_length_le (Nat.le_refl _),z2c]);have hec:(if last then(10:Int) else 6)=y3k last:=rfl;have hne:=y1w last;obtain⟨er,her⟩:∃ er,er=y3k last:=⟨_,rfl⟩
   have HCU1:=kf (fun X hX=>HCU.out X out bs.length hX);rw [hec,<- her] at HCU1;rw [<- her] at HV hne;have HNE:=kf hne;clear hec her hne
   go_wp2_with first
    |(go_at_call 181;refine(HTE.out _ _ HT.out.1.1.here).mono ?_;rintro e w3 ⟨rfl,h3⟩;have HT3:=kf (HTR.out _ _ _ _ _ 0 _ _ HT.out.1 h3 HT.out.1.2.2);clear h3;obtain⟨r0,r1,r2,r3,z0,z1,z2,z3⟩:=HT3.out.2.1.cl4)
    |(go_at_call 182;refine(HCU1.out _ HT3.out.1.here).mono ?_;rintro e w4 ⟨rfl,rfl⟩)
   simp only [z1t];refine bodyPost_ret (v:=.tuple #[.agg #[.int .i64 0,.int .i64 0,.string ⟨#[]⟩,.slice none 0 0],.int .i64 er]) (by simp [results,Tryz.results186,go_sem,r0,r1,r2,r3]) rfl ?_;refine⟨by rw [HV.out,y1z HNE.out],bs.length,fun e=>absurd (by rw [HV.out] at e;exact e) HNE.out,?_⟩;exact(HT3.out.1.re.set4 hgR hgW hgw _ _ _ _).back HKB.out
  obtain⟨x,hx,hd⟩:=z19 (bs:=bs) (k:=k) (by omega);have hx256:=HB.out x (List.mem_of_getElem? hx);have HX:=kf hx;have HV:=kf (show z2c last [] p (bs.drop p)=z2c last ds k (x::bs.drop (k+1)) from by rw [HT.out.2.1,hd]);have hk1:k+1<=bs.length:=by omega
  have HDG1:=kf (fun X=>HDG.out x hx256 X);have HSP1:=kf (fun X=>HSP.out x X);have hv16:=z6w x;clear hx hd;by_cases hs:z3s x=true
  ·have HGS:=kf hs;have hx62:x≠62:=by rintro rfl;cases hs
   have HV2:=kf (v7o (last:=last) (ds:=ds) (p:=k) (l:=bs.drop (k+1)) hx62 hs);rw [hs] at HSP1;obtain⟨v,hv⟩:∃ v,z2t x=v:=⟨_,rfl⟩
   obtain⟨b,hb⟩:∃ b,(z3k x).isSome=b:=⟨_,rfl⟩
   rw [hv,hb] at HDG1;clear hs hv hb hx62;go_wp2_with first|(go_at_call 181;refine(HTA.out _ _ _ _ HT.out.1.1.here HX.out).mono ?_;rintro e w3 ⟨rfl,h3⟩;have HT3:=kf (HTR.out _ _ _ _ _ 0 _ _ HT.out.1 h3 HT.out.1.2.2);clear h3)|(go_at_call 208;refine(HDG1.out _).mono ?_;rintro e w5 ⟨rfl,rfl⟩)|(go_at_call 151;refine(HSP1.out _).mono ?_;rintro e w5 ⟨rfl,rfl⟩)
   go_step3;exact⟨(bs.length-(k+1))+1,by omega,.inl ⟨rfl,rfl,rfl,rfl,rfl,k+1,h,odd,ds,out,rfl,rfl,rfl,hk1,by omega,kf ⟨HT3.out,by rw [HV.out,HV2.out],HT.out.2.2⟩⟩⟩
  have HGS:=kf (show z3s x=false from by simpa using hs);rw [HGS.out] at HSP1;clear hs;by_cases h62:x=62
  ·subst h62;have HV2:=kf (v4z (last:=last) (ds:=ds) (p:=k) (l:=bs.drop (k+1)));obtain⟨v,hv⟩:∃ v,z2t 62=v:=⟨_,rfl⟩
   obtain⟨b,hb⟩:∃ b,(z3k 62).isSome=b:=⟨_,rfl⟩
   rw [hv,hb] at HDG1;clear hv hb;go_wp2_with first|(go_at_call 181;refine(HTA.out _ _ _ _ HT.out.1.1.here HX.out).mono ?_;rintro e w3 ⟨rfl,h3⟩;have HT3:=kf (HTR.out _ _ _ _ _ 0 _ _ HT.out.1 h3 HT.out.1.2.2);clear h3)|(go_at_call 208;refine(HDG1.out _).mono ?_;rintro e w5 ⟨rfl,rfl⟩)|(go_at_call 151;refine(HSP1.out _).mono ?_;rintro e w5 ⟨rfl,rfl⟩)
   go_step3;exact⟨0,by omega,.inr ⟨rfl,rfl,rfl,rfl,rfl,k+1,h,odd,ds,out,rfl,rfl,rfl,hk1,by omega,kf ⟨HT3.out,by rw [HV.out,HV2.out],HT.out.2.2⟩⟩⟩
  have e62:((x:Int)==62)=false:=by simp;omega
  cases hD:z3k x with
  |none =>
   have HV2:=kf (v52 (last:=last) (ds:=ds) (p:=k) (l:=bs.drop (k+1)) h62 HGS.out hD);have hv:z2t x=0:=by unfold z2t;rw [hD];rfl
   rw [hv,hD] at HDG1;clear hv hD hv16;simp only [Option.isSome_none] at HDG1
   go_wp2_with first
    |(go_at_call 181;refine(HTA.out _ _ _ _ HT.out.1.1.here HX.out).mono ?_;rintro e w3 ⟨rfl,h3⟩;have HT3:=kf (HTR.out _ _ _ _ _ 0 _ _ HT.out.1 h3 HT.out.1.2.2);clear h3;obtain⟨r0,r1,r2,r3,z0,z1,z2,z3⟩:=HT3.out.2.1.cl4)
    |(go_at_call 208;refine(HDG1.out _).mono ?_;rintro e w5 ⟨rfl,rfl⟩)
    |(go_at_call 151;refine(HSP1.out _).mono ?_;rintro e w5 ⟨rfl,rfl⟩)
   simp only [z1t];refine bodyPost_ret (v:=.tuple #[.agg #[.int .i64 0,.int .i64 0,.string ⟨#[]⟩,.slice none 0 0],.int .i64 11]) (by simp [results,Tryz.results186,go_sem,r0,r1,r2,r3]) rfl ?_;refine⟨by rw [HV.out,HV2.out,y1z (by decide)],k+1,fun e=>absurd (by rw [HV.out,HV2.out] at e;exact e) (by decide),?_⟩;exact(HT3.out.1.re.set4 hgR hgW hgw _ _ _ _).back HKB.out
  |some d =>
   have HV2:=kf (v50 (last:=last) (ds:=ds) (p:=k) (l:=bs.drop (k+1)) h62 HGS.out hD);have hv:z2t x=d:=by unfold z2t;rw [hD];rfl
   rw [hv,hD] at HDG1;rw [hv] at hv16;clear hv hD;simp only [Option.isSome_some] at HDG1;have hsh:((d:Int)*2 ^ 4%256)=((16*d:Nat):Int):=by omega
   have hsh2:((d:Int)*16%256)=((16*d:Nat):Int):=by omega
   cases odd
   ·have HN:=kf (HT.out.2.2.one hv16);go_wp2_with first|(go_at_call 181;refine(HTA.out _ _ _ _ HT.out.1.1.here HX.out).mono ?_;rintro e w3 ⟨rfl,h3⟩;have HT3:=kf (HTR.out _ _ _ _ _ 0 _ _ HT.out.1 h3 HT.out.1.2.2);clear h3)|(go_at_call 208;refine(HDG1.out _).mono ?_;rintro e w5 ⟨rfl,rfl⟩)|(go_at_call 151;refine(HSP1.out _).mono ?_;rintro e w5 ⟨rfl,rfl⟩)
    go_step3;exact⟨(bs.length-(k+1))+1,by omega,.inl ⟨rfl,rfl,rfl,rfl,rfl,k+1,16*d,true,ds++[d],out,rfl,by first|rfl|exact congrArg (Value.int .u8) (by simp;omega),rfl,hk1,by omega,kf ⟨HT3.out,by rw [HV.out,HV2.out],HN.out⟩⟩⟩
   ·have HN:=kf (fun h'=>HT.out.2.2.two (d:=d) (h':=h'));obtain⟨a,ha,ha2⟩:=HT.out.2.2.lt;have hor:=v79 ha ha2 hv16;have hy256:h+d<256:=by omega
    obtain⟨y,hy⟩:∃ y,y=h+d:=⟨_,rfl⟩
    rw [<- hy] at hor hy256 HN;clear hy ha ha2;go_wp2_with first|(go_at_call 181;refine(HTA.out _ _ _ _ HT.out.1.1.here HX.out).mono ?_;rintro e w3 ⟨rfl,h3⟩;have HT3:=kf (HTR.out _ _ _ _ _ 0 _ _ HT.out.1 h3 HT.out.1.2.2);clear h3)|(go_at_call 208;refine(HDG1.out _).mono ?_;rintro e w5 ⟨rfl,rfl⟩)|(go_at_call 151;refine(HSP1.out _).mono ?_;rintro e w5 ⟨rfl,rfl⟩)|(go_at_call 172;refine(HWB.out _ _ _ y HT3.out.1.here (by omega)).mono ?_;rintro e w4 ⟨rfl,h4⟩;have HT4:=kf (HTR.out _ _ _ _ _ 0 _ _ HT3.out h4 (z1c HT3.out.2.2 hy256));clear h4)
    go_step3;exact⟨(bs.length-(k+1))+1,by omega,.inl ⟨rfl,rfl,rfl,rfl,rfl,k+1,16*d,false,ds++[d],out++[y],rfl,by first|rfl|exact congrArg (Value.int .u8) (by simp;omega),rfl,hk1,by simp only [List.length_append,List.length_cons,List.length_nil];omega,kf ⟨HT4.out,by rw [HV.out,HV2.out],HN.out _⟩⟩⟩
theorem v5k {c:Nat}:∀ {m:List Nat},(z47 c m).2.2=false->(z47 c m)=(m,[],false):=by
 intro m;induction m with
 |nil=>intro _;rfl
 |cons x l ih =>
  intro h;rw [z47] at h ⊢;by_cases hx:x=c
  ·rw [if_pos hx] at h;cases h
  ·rw [if_neg hx] at h ⊢;rw [ih h]
theorem z86 {c:Nat}:∀ {m:List Nat},c ∉ (z47 c m).1:=by
 intro m;induction m with
 |nil=>simp [z47]
 |cons x l ih =>
  rw [z47];by_cases hx:x=c
  ·rw [if_pos hx];simp
  ·rw [if_neg hx];simp only [List.mem_cons,not_or];exact⟨fun e=>hx e.symm,ih⟩
theorem v2f {c:Nat}:∀ {m:List Nat},(z47 c m).2.2=true->m=(z47 c m).1++c::(z47 c m).2.1:=by
 intro m;induction m with
 |nil=>intro h;cases h
 |cons x l ih =>
  intro h;rw [z47] at h ⊢;by_cases hx:x=c
  ·rw [if_pos hx];rw [hx];rfl
  ·rw [if_neg hx] at h ⊢;rw [List.cons_append];exact congrArg (x::·) (ih h)
theorem z4l:∀ (a l:List Nat),35 ∉ a->nameF (a++l)=(nameF l).map (a++·)
 |[],l,_=>by cases h:nameF l<;>simp [h]
 |x::a,l,h=>by
  have hx:x≠35:=fun e=>h (by rw [e];exact List.mem_cons_self ..);have ih:=z4l a l (fun e=>h (List.mem_cons_of_mem _ e));have e:∀ r,nameF (x::r)=(nameF r).map (x::·):=fun r=>by rw [nameF.eq_def];simp [hx]
  rw [List.cons_append,e,ih];cases nameF l<;>rfl
theorem y1k {a:List Nat} (h:35 ∉ a):nameF a=some a:=by
 have:=z4l a [] h;rw [List.append_nil] at this;rw [this];simp [nameF]
def nmR (out m:List Nat):Int × List Nat:=match nameF m with
 |none=>(17,[])
 |some o=>if 0∈out++o\/127<(out++o).length then(17,[]) else(0,out++o)
theorem v4l (w:List Nat):nmR [] w=z5g w:=rfl
theorem v4m {out m:List Nat} (h:35 ∉ m) (h0:0 ∉ out) (h1:0 ∉ m):nmR out m=if 127<(out++m).length then(17,[]) else(0,out++m):=by
 have h2:¬0∈out++m:=fun e=>by rcases List.mem_append.1 e with e|e;exact h0 e;exact h1 e
 unfold nmR;rw [y1k h];simp only [];by_cases h3:127<(out++m).length
 ·rw [if_pos (.inr h3),if_pos h3]
 ·rw [if_neg (by rintro(e|e);exact h2 e;exact h3 e),if_neg h3]
def z8z (m:List Nat):Nat:=match m with
 |x::y::_=>16*z2t x+z2t y
 |_=>0
def z90 (m:List Nat):Bool:=match m with
 |x::y::_=>(z3k x).isSome&&((z3k y).isSome&&decide (16*z2t x+z2t y≠0))
 |_=>false
theorem v2g (m:List Nat):z8z m<256:=by
 rcases m with _|⟨x,_|⟨y,r⟩⟩
 ·decide
 ·exact Nat.zero_lt_succ _
 ·have h1:=z6w x;have h2:=z6w y;show 16*z2t x+z2t y<256;omega
theorem v4n {out a m:List Nat} (h:35 ∉ a) (hb:z90 m=false):nmR out (a++35::m)=(17,[]):=by
 unfold nmR;rw [z4l _ _ h];rcases m with _|⟨x,_|⟨y,r⟩⟩
 ·rfl
 ·rfl
 ·cases hx:z3k x with
  |none=>simp [nameF,hx]
  |some u =>
   cases hy:z3k y with
   |none=>simp [nameF,hx,hy]
   |some v =>
    have e1:z2t x=u:=by unfold z2t;rw [hx];rfl
    have e2:z2t y=v:=by unfold z2t;rw [hy];rfl
    simp only [z90,hx,hy,e1,e2,Option.isSome_some,Bool.true_and,decide_eq_false_iff_not,Decidable.not_not] at hb;cases hr:nameF r with
    |none=>simp [nameF,hx,hy,hr]
    |some o=>simp [nameF,hx,hy,hr,hb]
theorem v16 {out a m:List Nat} (h:35 ∉ a) (hb:z90 m=true):2<=m.length/\z8z m≠0/\nmR out (a++35::m)=nmR (out++a++[z8z m]) (m.drop 2):=by
 rcases m with _|⟨x,_|⟨y,r⟩⟩
 ·cases hb
 ·cases hb
 ·cases hx:z3k x with
  |none=>simp [z90,hx] at hb
  |some u =>
   cases hy:z3k y with
   |none=>simp [z90,hx,hy] at hb
   |some v =>
    have e1:z2t x=u:=by unfold z2t;rw [hx];rfl
    have e2:z2t y=v:=by unfold z2t;rw [hy];rfl
    simp only [z90,hx,hy,e1,e2,Option.isSome_some,Bool.true_and,decide_eq_true_eq] at hb;refine⟨by simp,by show 16*z2t x+z2t y≠0;rw [e1,e2];exact hb,?_⟩;unfold nmR;rw [z4l _ _ h];have e3:nameF (35::x::y::r)=(nameF r).map ((16*u+v)::·):=by simp [nameF,hx,hy]
    rw [e3,z8z,e1,e2];simp only [List.drop_succ_cons,List.drop_zero];cases hr:nameF r with
    |none=>rfl
    |some o=>simp
theorem y6y (m:List Nat) (hb:∀ d∈m,d<256) (hl:m.length<=1000000) (w:World) :
  Calls Tryz.prog 211 #[.string (sb m)] w fun e w'=>e=.returned (.tuple #[.int .u8 (z8z m:Nat),.bool (z90 m)])/\w=w':=by
 have hs:(sb m).size=m.length:=z01 m;have hsl:=z6f m hb;rcases m with _|⟨x,_|⟨y,r⟩⟩
 ·obtain⟨t,ht⟩:∃ t,sb []=t:=⟨_,rfl⟩
  rw [ht] at hs ⊢;clear hsl ht;simp only [List.length_nil] at hs;go_enter Tryz.func211,Tryz.ntmps211;go_wp2_with fail;go_ret2;exact⟨rfl,rfl⟩
 ·obtain⟨t,ht⟩:∃ t,sb [x]=t:=⟨_,rfl⟩
  rw [ht] at hs ⊢;clear hsl ht;simp only [List.length_cons,List.length_nil] at hs;go_enter Tryz.func211,Tryz.ntmps211;go_wp2_with fail;go_ret2;exact⟨rfl,rfl⟩
 ·have hx0:x<256:=hb x (List.mem_cons_self ..);have hy0:y<256:=hb y (List.mem_cons_of_mem _ (List.mem_cons_self ..));obtain⟨t,ht⟩:∃ t,sb (x::y::r)=t:=⟨_,rfl⟩
  rw [ht] at hs hsl ⊢;have g0:∀ h:0<t.size,(t[0]'h).toNat=x:=fun h=>by rw [z5t,hsl];rfl
  have g1:∀ h:1<t.size,(t[1]'h).toNat=y:=fun h=>by rw [z5t,hsl];rfl
  obtain⟨N,hN⟩:∃ N,t.size=N:=⟨_,rfl⟩
  have hN2:2<=N:=by rw [<- hN,hs];simp
  have hN3:N<=1000000:=by rw [<- hN,hs];exact hl
  have HX:=kf (fun W=>z5a x hx0 W);have HY:=kf (fun W=>z5a y hy0 W);have hvx:=z6w x;have hvy:=z6w y;have HB:=kf (show z90 (x::y::r)=((z3k x).isSome&&((z3k y).isSome&&decide (16*z2t x+z2t y≠0))) from rfl);have HV:=kf (show z8z (x::y::r)=16*z2t x+z2t y from rfl);obtain⟨u,hu⟩:∃ u,z2t x=u:=⟨_,rfl⟩
  obtain⟨v,hv⟩:∃ v,z2t y=v:=⟨_,rfl⟩
  obtain⟨p,hp⟩:∃ p,(z3k x).isSome=p:=⟨_,rfl⟩
  obtain⟨q,hq⟩:∃ q,(z3k y).isSome=q:=⟨_,rfl⟩
  rw [hu,hp] at HX;rw [hv,hq] at HY;rw [hu,hv,hp,hq] at HB;rw [hu,hv] at HV;rw [hu] at hvx;rw [hv] at hvy;have hor:=v79 (h:=16*u) (a:=u) (d:=v) rfl hvx hvy;have hsh:((u:Int)*2 ^ 4%256)=((16*u:Nat):Int):=by omega
  have hsh2:((u:Int)*16%256)=((16*u:Nat):Int):=by omega
  obtain⟨z,hz⟩:∃ z,16*u+v=z:=⟨_,rfl⟩
  rw [hz] at hor HB HV;have hor2:bits BinOp.or IntKind.u8 ((u:Int)*16) (v:Int)=((z:Nat):Int):=by rw [show(u:Int)*16=((16*u:Nat):Int) by omega];exact hor
  clear hor hsh hsh2;clear hs hsl ht hb hl hu hv hp hq hz;by_cases hz0:z=0
  ·subst hz0;cases p<;>cases q
   all_goals
    go_enter Tryz.func211,Tryz.ntmps211;go_wp2_with first|(have hdn:=HDone.out;go_at_call 208;refine(HY.out _).mono ?_;rintro e w4 ⟨rfl,rfl⟩)|(go_at_call 208;refine(HX.out _).mono ?_;rintro e w3 ⟨rfl,rfl⟩;have HDone:=kf True.intro)
    go_ret2;exact⟨by rw [HB.out,HV.out];rfl,rfl⟩
  ·have e0:((z:Int) != 0)=true:=by simp;omega
   have e1:decide (z≠0)=true:=by simp;omega
   rw [e1] at HB;clear hz0 e1;cases p<;>cases q
   all_goals
    go_enter Tryz.func211,Tryz.ntmps211;go_wp2_with first|(have hdn:=HDone.out;go_at_call 208;refine(HY.out _).mono ?_;rintro e w4 ⟨rfl,rfl⟩)|(go_at_call 208;refine(HX.out _).mono ?_;rintro e w3 ⟨rfl,rfl⟩;have HDone:=kf True.intro)
    go_ret2;exact⟨by rw [HB.out,HV.out];rfl,rfl⟩
def z78 (t:Tkn):Value:=.agg #[.int .i64 (t.kind:Nat),.int .i64 (t.from_:Nat),.int .i64 (t.to:Nat),.int .i64 (t.vk:Nat),.int .i64 t.vn,.string (sb t.vs),.slice none 0 0,.string (sb t.s)]
def y9q (w:World) (r:Int × Tkn) (e:Ending) (w':World):Prop:=e=.returned (.tuple #[z78 r.2,.int .i64 r.1])/\Chg NoS w w'
def z07 (bs:List Nat) (p:Int) (last:Bool):Int × Tkn:=if p<0\/(bs.length:Int)<p then(2,noT 0) else z0f bs p.toNat last
section
variable {last:Bool} {p x:Nat} {l:List Nat}
theorem v6l:z1y last p 91 l=(0,⟨2,p,p+1,0,0,[],[]⟩):=rfl
theorem v6k:z1y last p 93 l=(0,⟨3,p,p+1,0,0,[],[]⟩):=rfl
theorem v0c (h:l.head?=some 60):z1y last p 60 l=(0,⟨4,p,p+2,0,0,[],[]⟩):=by
 unfold z1y;rw [if_neg (show ¬60=91 by decide),if_neg (show ¬60=93 by decide),if_pos (show 60=60/\l.head?=some 60 from⟨rfl,h⟩)]
theorem v0b (h:l.head?=some 62):z1y last p 62 l=(0,⟨5,p,p+2,0,0,[],[]⟩):=by
 unfold z1y;rw [if_neg (show ¬62=91 by decide),if_neg (show ¬62=93 by decide),if_neg (show ¬(62=60/\l.head?=some 60) from fun e=>absurd e.1 (by decide)),if_pos (show 62=62/\l.head?=some 62 from⟨rfl,h⟩)]
theorem v3s (h:l=[]) (h2:last=false):z1y last p 62 l=(6,noT p):=by
 subst h h2;rfl
theorem v3t (h:¬l.head?=some 62) (h2:¬(l=[]/\last=false)):z1y last p 62 l=(11,noT p):=by
 unfold z1y;rw [if_neg (show ¬62=91 by decide),if_neg (show ¬62=93 by decide),if_neg (show ¬(62=60/\l.head?=some 60) from fun e=>absurd e.1 (by decide)),if_neg (show ¬(62=62/\l.head?=some 62) from fun e=>h e.2),if_neg (show ¬(62=62/\l=[]/\last=false) from fun e=>h2 e.2),if_neg (show ¬62=60 by decide),if_neg (show ¬62=40 by decide),if_neg (show ¬62=47 by decide),if_pos (show z4p 62=true from rfl)]
theorem v6n:z1y last p 40 l=if (z11 last 1 [] (p+1) l).1≠0 then((z11 last 1 [] (p+1) l).1,noT p) else(0,⟨1,p,(z11 last 1 [] (p+1) l).2.2,4,0,(z11 last 1 [] (p+1) l).2.1,[]⟩):=by
 unfold z1y;rw [if_neg (show ¬40=91 by decide),if_neg (show ¬40=93 by decide),if_neg (show ¬(40=60/\l.head?=some 60) from fun e=>absurd e.1 (by decide)),if_neg (show ¬(40=62/\l.head?=some 62) from fun e=>absurd e.1 (by decide)),if_neg (show ¬(40=62/\l=[]/\last=false) from fun e=>absurd e.1 (by decide)),if_neg (show ¬40=60 by decide),if_pos (show 40=40 from rfl)]
theorem v6m:z1y last p 47 l=if rgs l=l.length/\last=false then(6,noT p) else if (z5g (l.take (rgs l))).1≠0 then((z5g (l.take (rgs l))).1,noT p) else(0,⟨1,p,p+1+rgs l,5,0,(z5g (l.take (rgs l))).2,[]⟩):=by
 unfold z1y;rw [if_neg (show ¬47=91 by decide),if_neg (show ¬47=93 by decide),if_neg (show ¬(47=60/\l.head?=some 60) from fun e=>absurd e.1 (by decide)),if_neg (show ¬(47=62/\l.head?=some 62) from fun e=>absurd e.1 (by decide)),if_neg (show ¬(47=62/\l=[]/\last=false) from fun e=>absurd e.1 (by decide)),if_neg (show ¬47=60 by decide),if_neg (show ¬47=40 by decide),if_pos (show 47=47 from rfl)]
theorem y29 (h1:x≠91) (h2:x≠93) (h3:x≠60) (h4:x≠62) (h5:x≠40) (h6:x≠47):z1y last p x l =
  if z4p x then(11,noT p)
  else if rgs l=l.length/\last=false then(6,noT p)
  else if y5a x then
   if (z0j ((x::l).take (rgs l+1))).1≠0 then((z0j ((x::l).take (rgs l+1))).1,noT p) else(0,⟨1,p,p+1+rgs l,(z0j ((x::l).take (rgs l+1))).2.1,(z0j ((x::l).take (rgs l+1))).2.2,[],[]⟩)
  else(0,⟨6,p,p+1+rgs l,0,0,[],(x::l).take (rgs l+1)⟩):=by
 unfold z1y;rw [if_neg h1,if_neg h2,if_neg (fun e=>h3 e.1),if_neg (fun e=>h4 e.1),if_neg (fun e=>h4 e.1),if_neg h3,if_neg h5,if_neg h6]
end
def z26 (st:List (Int × List VT)) (kind:Int):Int :=
 match st with
 |[]=>0
 |(k,l)::r=>if k=7/\l.length%2=0/\kind≠5 then 11 else if 64<=r.length+1 then 15 else 0
def y5m (s:List Nat):Int × VT :=
 if sb s=⟨#[110,117,108,108]⟩ then(0,z28) else if sb s=⟨#[102,97,108,115,101]⟩ then(0,.mk 1 0 ⟨#[]⟩ []) else if sb s=⟨#[116,114,117,101]⟩ then(0,.mk 1 1 ⟨#[]⟩ []) else(11,z28)
def v2t (t:Tkn):VT:=.mk (t.vk:Nat) t.vn (sb t.vs) []
def z1q (bs:List Nat) (last:Bool) (r2:Int × Tkn):Int × Tkn:=if r2.2.vk=2 then z0f bs r2.2.to last else(r2.1,noT 0)
def z4w (bs:List Nat) (last:Bool) (t:Tkn):Int × VT × Nat :=
 if t.vk≠2 then(0,v2t t,t.to)
 else if (z1q bs last (z0f bs t.to last)).1=6 then(6,z28,0)
 else if (z1q bs last (z0f bs t.to last)).2.kind≠6\/sb (z1q bs last (z0f bs t.to last)).2.s≠⟨#[82]⟩ then(0,v2t t,t.to)
 else if t.vn<1\/4096<t.vn\/(z0f bs t.to last).2.vn≠0 then(26,z28,0)
 else(0,.mk 8 t.vn ⟨#[]⟩ [],(z1q bs last (z0f bs t.to last)).2.to)
noncomputable def z9b (l:List VT):Int × VT:=if l.length%2≠0 then(11,z28) else if (z5j l).length<l.length then(16,z28) else(0,.mk 7 0 ⟨#[]⟩ (z5j l))
noncomputable def y2x (st:List (Int × List VT)) (kind:Int):Int × VT :=
 match st with
 |[]=>(11,z28)
 |(k,l)::_=>if k≠kind then(11,z28) else if kind=7 then z9b l else(0,.mk k 0 ⟨#[]⟩ l)
inductive Out
 |done (er:Int) (v:VT) (tz:Nat)
 |next (p:Nat) (st:List (Int × List VT))
def z3x (er:Int) (v:VT) (tz:Nat) (st:List (Int × List VT)):Out :=
 if er≠0 then .done er z28 0
 else match st with
  |[]=>.done 0 v tz
  |(k,l)::r=>if z26 ((k,l)::r) v.kind≠0 then .done (z26 ((k,l)::r) v.kind) z28 0 else .next tz ((k,l++[v])::r)
def y9n (kind:Int) (tz:Nat) (st:List (Int × List VT)):Out:=if z26 st kind≠0 then .done (z26 st kind) z28 0 else .next tz ((kind,[])::st)
noncomputable def z3c (bs:List Nat) (last:Bool) (r:Int × Tkn) (st:List (Int × List VT)):Out :=
 if r.1≠0 then .done r.1 z28 0
 else if r.2.kind=0 then .done 10 z28 0
 else if r.2.kind=2 then y9n 6 r.2.to st
 else if r.2.kind=4 then y9n 7 r.2.to st
 else if r.2.kind=3 then z3x (y2x st 6).1 (y2x st 6).2 r.2.to st.tail
 else if r.2.kind=5 then z3x (y2x st 7).1 (y2x st 7).2 r.2.to st.tail
 else if r.2.kind=6 then z3x (y5m r.2.s).1 (y5m r.2.s).2 r.2.to st
 else z3x (z4w bs last r.2).1 (z4w bs last r.2).2.1 (z4w bs last r.2).2.2 st
noncomputable def y61 (bs:List Nat) (last:Bool) (p:Nat) (st:List (Int × List VT)):Out:=z3c bs last (z0f bs p last) st
noncomputable def v44 (bs:List Nat) (last:Bool) (p:Nat) (st:List (Int × List VT)):Int × VT × Nat :=
 match y61 bs last p st with
 |.done er v tz=>(er,v,tz)
 |.next q st'=>if h:p<q/\q<=bs.length then v44 bs last q st' else(0,z28,0)
termination_by bs.length-p
decreasing_by omega
theorem v0j {bs:List Nat} {last:Bool} {p:Nat} {st:List (Int × List VT)} {er:Int} {v:VT} {tz:Nat} (h:y61 bs last p st=.done er v tz):v44 bs last p st=(er,v,tz):=by
 rw [v44,h]
theorem v0i {bs:List Nat} {last:Bool} {p q:Nat} {st st':List (Int × List VT)} (h:y61 bs last p st=.next q st') (hq:p<q/\q<=bs.length):v44 bs last p st=v44 bs last q st':=by
 rw [v44,h];simp only [dif_pos hq]
theorem z22 (bs:List Nat) (p:Nat) (last:Bool) (hp:p<=bs.length):((z0f bs p last).2.kind=0/\(z0f bs p last).2.vk=0/\(z0f bs p last).2.s=[])\/((z0f bs p last).1=0/\(z0f bs p last).2.kind≠0/\p<(z0f bs p last).2.to/\(z0f bs p last).2.to<=bs.length):=by
 rcases y1i bs p last hp with⟨q,_,_,h,_⟩|⟨h1,h2,h3,h4,h5,_⟩
 ·rw [h];exact .inl ⟨rfl,rfl,rfl⟩
 ·exact .inr ⟨h1,h2,by omega,h5⟩
theorem v19 {bs:List Nat} {p:Nat} {last:Bool} (hp:p<=bs.length) (h:(z0f bs p last).1≠0):(z0f bs p last).2.vk=0:=by
 rcases z22 bs p last hp with h1|h1
 ·exact h1.2.1
 ·exact absurd h1.1 h
theorem v74 {bs:List Nat} {last:Bool} {t:Tkn} (ht:t.to<=bs.length) (h:(z4w bs last t).1=0):t.to<=(z4w bs last t).2.2/\(z4w bs last t).2.2<=bs.length:=by
 unfold z4w at h ⊢;by_cases h1:t.vk≠2
 ·rw [if_pos h1];exact⟨Nat.le_refl _,ht⟩
 rw [if_neg h1] at h ⊢;by_cases h2:(z1q bs last (z0f bs t.to last)).1=6
 ·rw [if_pos h2] at h;cases h
 rw [if_neg h2] at h ⊢;by_cases h3:(z1q bs last (z0f bs t.to last)).2.kind≠6\/sb (z1q bs last (z0f bs t.to last)).2.s≠⟨#[82]⟩
 ·rw [if_pos h3];exact⟨Nat.le_refl _,ht⟩
 rw [if_neg h3] at h ⊢;by_cases h4:t.vn<1\/4096<t.vn\/(z0f bs t.to last).2.vn≠0
 ·rw [if_pos h4] at h;cases h
 rw [if_neg h4];simp only [];have h5:(z1q bs last (z0f bs t.to last)).2.kind=6:=by omega
 unfold z1q at h5 ⊢;by_cases h6:(z0f bs t.to last).2.vk=2
 ·rw [if_pos h6] at h5 ⊢;rcases z22 bs t.to last ht with h7|h7
  ·rw [h7.2.1] at h6;cases h6
  ·rcases z22 bs _ last h7.2.2.2 with h8|h8
   ·rw [h8.1] at h5;cases h5
   ·omega
 ·rw [if_neg h6] at h5;cases h5
theorem y2u {er:Int} {v:VT} {tz q:Nat} {st st':List (Int × List VT)} (h:z3x er v tz st=.next q st'):q=tz/\er=0:=by
 unfold z3x at h;by_cases h1:er≠0
 ·rw [if_pos h1] at h;cases h
 rw [if_neg h1] at h;refine⟨?_,by omega⟩;cases st with
 |nil=>cases h
 |cons x r =>
  obtain⟨k,l⟩:=x;simp only [] at h;split at h
  ·cases h
  ·cases h;rfl
theorem v32 {kind:Int} {tz q:Nat} {st st':List (Int × List VT)} (h:y9n kind tz st=.next q st'):q=tz:=by
 unfold y9n at h;split at h
 ·cases h
 ·cases h;rfl
theorem v40 {bs:List Nat} {last:Bool} {p q:Nat} {st st':List (Int × List VT)} (hp:p<=bs.length) (h:y61 bs last p st=.next q st'):p<q/\q<=bs.length:=by
 unfold y61 z3c at h;rcases z22 bs p last hp with⟨h1,_⟩|⟨h1,h2,h3,h4⟩
 ·by_cases h0:(z0f bs p last).1≠0
  ·rw [if_pos h0] at h;cases h
  ·rw [if_neg h0,if_pos h1] at h;cases h
 rw [if_neg (by rw [h1];decide),if_neg h2] at h;split at h
 ·rw [v32 h];exact⟨h3,h4⟩
 split at h
 ·rw [v32 h];exact⟨h3,h4⟩
 split at h
 ·rw [(y2u h).1];exact⟨h3,h4⟩
 split at h
 ·rw [(y2u h).1];exact⟨h3,h4⟩
 split at h
 ·rw [(y2u h).1];exact⟨h3,h4⟩
 ·have h5:=y2u h;have h6:=v74 h4 h5.2;rw [h5.1];omega
theorem v09 (last:Bool) (p c:Nat) (l:List Nat):(z1y last p c l).2.kind<=6:=by
 have hno:∀ e:Int,((e,noT p):Int × Tkn).2.kind<=6:=fun _=>Nat.zero_le _;unfold z1y;by_cases h1:c=91
 ·rw [if_pos h1];simp
 rw [if_neg h1];by_cases h2:c=93
 ·rw [if_pos h2];simp
 rw [if_neg h2];by_cases h3:c=60/\l.head?=some 60
 ·rw [if_pos h3];simp
 rw [if_neg h3];by_cases h4:c=62/\l.head?=some 62
 ·rw [if_pos h4];simp
 rw [if_neg h4];by_cases h5:c=62/\l=[]/\last=false
 ·rw [if_pos h5];exact hno _
 rw [if_neg h5];by_cases h6:c=60
 ·rw [if_pos h6];split
  ·exact hno _
  ·simp
 rw [if_neg h6];by_cases h7:c=40
 ·rw [if_pos h7];split
  ·exact hno _
  ·simp
 rw [if_neg h7];by_cases h8:c=47
 ·rw [if_pos h8];split
  ·exact hno _
  ·split
   ·exact hno _
   ·simp
 rw [if_neg h8];by_cases h9:z4p c=true
 ·rw [if_pos h9];exact hno _
 rw [if_neg h9];by_cases h10:rgs l=l.length/\last=false
 ·rw [if_pos h10];exact hno _
 rw [if_neg h10];by_cases h11:y5a c=true
 ·rw [if_pos h11];split
  ·exact hno _
  ·simp
 ·rw [if_neg h11];simp
theorem y7c (bs:List Nat) (p:Nat) (last:Bool):(z0f bs p last).2.kind<=6:=by
 unfold z0f;split
 ·simp [noT]
 ·exact v09 _ _ _ _
theorem v58 (last:Bool) (l:List Nat):(z3n last l).2.1.toList.length<=1:=by
 cases (z3n last l).2.1<;>simp
theorem v08 (last:Bool):∀ (n:Nat) (l:List Nat) (deep:Nat) (out:List Nat) (p:Nat),l.length<=n->(z11 last deep out p l).2.1.length<=out.length+l.length:=by
 intro n;induction n with
 |zero =>
  intro l deep out p hn;obtain rfl:l=[]:=List.length_eq_zero_iff.1 (by omega);rw [z1x];exact Nat.zero_le _
 |succ n ih =>
  intro l deep out p hn;cases l with
  |nil=>rw [z1x];exact Nat.zero_le _
  |cons c l =>
   have hl:l.length<=n:=by simp only [List.length_cons] at hn;omega
   simp only [List.length_cons];rw [z12];have he:=v58 last l;have h1:∀ x:Nat,(out++[x]).length=out.length+1:=fun x=>by simp
   split
   ·split
    ·exact Nat.zero_le _
    ·have:=ih (l.drop (z3n last l).2.2) deep (out++(z3n last l).2.1.toList) (p+1+(z3n last l).2.2) (by rw [List.length_drop];omega);rw [List.length_append,List.length_drop] at this;omega
   ·split
    ·split
     ·exact Nat.zero_le _
     ·split
      ·have:=ih (l.drop 1) deep (out++[10]) (p+2) (by rw [List.length_drop];omega);rw [h1,List.length_drop] at this;omega
      ·have:=ih l deep (out++[10]) (p+1) hl;rw [h1] at this;omega
    ·split
     ·have:=ih l (deep+1) (out++[40]) (p+1) hl;rw [h1] at this;omega
     ·split
      ·split
       ·show out.length<=_;omega
       ·have:=ih l (deep-1) (out++[41]) (p+1) hl;rw [h1] at this;omega
      ·have:=ih l deep (out++[c]) (p+1) hl;rw [h1] at this;omega
theorem y04:∀ ds:List Nat,(z3y ds).length<=ds.length
 |[]=>Nat.le_refl _
 |[a]=>Nat.le_refl _
 |a::b::l=>by
  have:=y04 l;rw [z3y,List.length_cons,List.length_cons,List.length_cons];omega
theorem v1j (last:Bool):∀ (l ds:List Nat) (p:Nat),(z2c last ds p l).2.1.length<=ds.length+l.length:=by
 intro l;induction l with
 |nil=>intro ds p;exact Nat.zero_le _
 |cons c l ih =>
  intro ds p;simp only [z2c,List.length_cons];split
  ·have:=y04 ds;simp only [];omega
  ·split
   ·have:=ih ds (p+1);omega
   ·split
    ·exact Nat.zero_le _
    ·next d _ =>
     have:=ih (ds++[d]) (p+1);rw [List.length_append,List.length_singleton] at this;omega
theorem y1j:∀ (n:Nat) (l o:List Nat),l.length<=n->(∀ x∈l,x<256)->nameF l=some o->o.length<=l.length/\∀ x∈o,x<256:=by
 intro n;induction n with
 |zero =>
  intro l o hn hb h;obtain rfl:l=[]:=List.length_eq_zero_iff.1 (by omega);simp [nameF] at h;subst h;exact⟨Nat.le_refl _,fun x hx=>by cases hx⟩
 |succ n ih =>
  intro l o hn hb h;match l,hn,hb,h with
  |[],_,_,h =>
   simp [nameF] at h;subst h;exact⟨Nat.le_refl _,fun x hx=>by cases hx⟩
  |[c],hn,hb,h =>
   unfold nameF at h;by_cases hc:c≠35
   ·rw [if_pos hc] at h;simp [nameF] at h;subst h;exact⟨Nat.le_refl _,fun x hx=>hb x hx⟩
   ·rw [if_neg hc] at h;cases h
  |[c,x],hn,hb,h =>
   unfold nameF at h;by_cases hc:c≠35
   ·rw [if_pos hc] at h;obtain⟨o',h1,h2⟩:=Option.map_eq_some_iff.1 h;obtain⟨h3,h4⟩:=ih [x] o' (by simp only [List.length_cons] at hn ⊢;omega) (fun z hz=>hb z (List.mem_cons_of_mem _ hz)) h1;subst h2;refine⟨by simp only [List.length_cons] at h3 ⊢;omega,fun z hz=>?_⟩;rcases List.mem_cons.1 hz with rfl|hz
    ·exact hb _ (List.mem_cons_self ..)
    ·exact h4 z hz
   ·rw [if_neg hc] at h;cases h
  |c::x::y::m,hn,hb,h =>
   unfold nameF at h;by_cases hc:c≠35
   ·rw [if_pos hc] at h;obtain⟨o',h1,h2⟩:=Option.map_eq_some_iff.1 h;obtain⟨h3,h4⟩:=ih (x::y::m) o' (by simp only [List.length_cons] at hn ⊢;omega) (fun z hz=>hb z (List.mem_cons_of_mem _ hz)) h1;subst h2;refine⟨by simp only [List.length_cons] at h3 ⊢;omega,fun z hz=>?_⟩;rcases List.mem_cons.1 hz with rfl|hz
    ·exact hb _ (List.mem_cons_self ..)
    ·exact h4 z hz
   ·rw [if_neg hc] at h;simp only [] at h;cases hx:z3k x with
    |none=>rw [hx] at h;cases h
    |some a =>
     cases hy:z3k y with
     |none=>rw [hx,hy] at h;cases h
     |some b =>
      rw [hx,hy] at h;simp only [] at h;obtain⟨o',h1,h2⟩:=Option.map_eq_some_iff.1 h;obtain⟨h3,h4⟩:=ih m o' (by simp only [List.length_cons] at hn;omega) (fun z hz=>hb z (by simp [hz])) h1;subst h2;have ha:=y1n hx;have hbb:=y1n hy;refine⟨by simp only [List.length_cons];omega,fun z hz=>?_⟩;rcases List.mem_cons.1 hz with rfl|hz
      ·omega
      ·exact h4 z hz
def v8f (N:Nat) (t:Tkn):Prop:=t.vs.length<=N/\((t.vk=4/\t.vn=0)\/(t.vk=5/\t.vn=0/\z1o (sb t.vs))\/(t.vk=2/\t.vs=[]/\t.vn.natAbs<=2147483647)\/(t.vk=3/\t.vs=[]/\t.vn.natAbs<=2147483647*1000000))
theorem v3r (last:Bool) (p c:Nat) (l:List Nat) (hb:∀ x∈l,x<256) (h:(z1y last p c l).1=0) (hk:(z1y last p c l).2.kind=1):v8f l.length (z1y last p c l).2:=by
 unfold z1y at h hk ⊢;by_cases h1:c=91
 ·rw [if_pos h1] at hk;cases hk
 rw [if_neg h1] at h hk ⊢;by_cases h2:c=93
 ·rw [if_pos h2] at hk;cases hk
 rw [if_neg h2] at h hk ⊢;by_cases h3:c=60/\l.head?=some 60
 ·rw [if_pos h3] at hk;cases hk
 rw [if_neg h3] at h hk ⊢;by_cases h4:c=62/\l.head?=some 62
 ·rw [if_pos h4] at hk;cases hk
 rw [if_neg h4] at h hk ⊢;by_cases h5:c=62/\l=[]/\last=false
 ·rw [if_pos h5] at h;cases h
 rw [if_neg h5] at h hk ⊢;by_cases h6:c=60
 ·rw [if_pos h6] at h hk ⊢;by_cases h9:(z2c last [] (p+1) l).1≠0
  ·rw [if_pos h9] at h;exact absurd h h9
  ·rw [if_neg h9];have:=v1j last l [] (p+1);exact⟨by simpa using this,.inl ⟨rfl,rfl⟩⟩
 rw [if_neg h6] at h hk ⊢;by_cases h7:c=40
 ·rw [if_pos h7] at h hk ⊢;by_cases h9:(z11 last 1 [] (p+1) l).1≠0
  ·rw [if_pos h9] at h;exact absurd h h9
  ·rw [if_neg h9];have:=v08 last _ l 1 [] (p+1) (Nat.le_refl _);exact⟨by simpa using this,.inl ⟨rfl,rfl⟩⟩
 rw [if_neg h7] at h hk ⊢;have hrl:=y6h l;by_cases h8:c=47
 ·rw [if_pos h8] at h hk ⊢;by_cases h9:rgs l=l.length/\last=false
  ·rw [if_pos h9] at h;cases h
  rw [if_neg h9] at h hk ⊢;by_cases h10:(z5g (l.take (rgs l))).1≠0
  ·rw [if_pos h10] at h;exact absurd h h10
  rw [if_neg h10];unfold z5g at h10 ⊢;cases hn:nameF (l.take (rgs l)) with
  |none=>rw [hn] at h10;exact absurd (by decide) h10
  |some o =>
   rw [hn] at h10;simp only [] at h10 ⊢;by_cases h11:0∈o\/127<o.length
   ·rw [if_pos h11] at h10;exact absurd (by decide) h10
   rw [if_neg h11];obtain⟨h12,h13⟩:=y1j _ _ o (Nat.le_refl _) (fun x hx=>hb x (List.mem_of_mem_take hx)) hn;rw [List.length_take] at h12;refine⟨by simp only [];omega,.inr (.inl ⟨rfl,rfl,?_⟩)⟩;simp only [];refine⟨fun d hd=>?_,by rw [z01];omega⟩;rw [z6f o h13] at hd;intro e;subst e;exact h11 (.inl hd)
 rw [if_neg h8] at h hk ⊢;by_cases h9:z4p c=true
 ·rw [if_pos h9] at h;cases h
 rw [if_neg h9] at h hk ⊢;by_cases h10:rgs l=l.length/\last=false
 ·rw [if_pos h10] at h;cases h
 rw [if_neg h10] at h hk ⊢;by_cases h11:y5a c=true
 ·rw [if_pos h11] at h hk ⊢;by_cases h12:(z0j ((c::l).take (rgs l+1))).1≠0
  ·rw [if_pos h12] at h;exact absurd h h12
  rw [if_neg h12];obtain⟨k,x,hx⟩:∃ k x,z0j ((c::l).take (rgs l+1))=(0,k,x):=⟨_,_,by rw [<- Decidable.not_not.1 h12]⟩
  have:=y76 hx;rw [hx];refine⟨Nat.zero_le _,?_⟩;rcases this with⟨rfl,h⟩|⟨rfl,h⟩
  ·exact .inr (.inr (.inl ⟨rfl,rfl,h⟩))
  ·exact .inr (.inr (.inr ⟨rfl,rfl,h⟩))
 ·rw [if_neg h11] at hk;cases hk
theorem y36 (bs:List Nat) (p:Nat) (last:Bool) (hb:∀ x∈bs,x<256) (h:(z0f bs p last).1=0) (hk:(z0f bs p last).2.kind=1):v8f bs.length (z0f bs p last).2:=by
 unfold z0f at h hk ⊢;cases hc:bs.drop (p+skp false (bs.drop p)) with
 |nil=>rw [hc] at hk;cases hk
 |cons c l =>
  rw [hc] at h hk;simp only [] at h hk ⊢;have hlen:=congrArg List.length hc;rw [List.length_drop,List.length_cons] at hlen;have h1:=v3r last _ c l (fun x hx=>hb x (List.mem_of_mem_drop (by rw [hc];exact List.mem_cons_of_mem _ hx))) h hk;exact⟨by have:=h1.1;omega,h1.2⟩
noncomputable def z8f (bs:List Nat) (last:Bool) (p:Int) (st:List (Int × List VT)):Int × VT × Nat:=if p<0\/(bs.length:Int)<p then(2,z28,0) else v44 bs last p.toNat st
theorem z98 {bs:List Nat} {last:Bool} {r:Int × Tkn} {st:List (Int × List VT)} (h:r.1≠0):z3c bs last r st=.done r.1 z28 0:=by unfold z3c;rw [if_pos h]
theorem z0m {bs:List Nat} {last:Bool} {p:Int} {st:List (Int × List VT)} {er:Int} {v:VT} {tz:Nat} (h:z3c bs last (z07 bs p last) st=.done er v tz):z8f bs last p st=(er,v,tz):=by
 unfold z8f;unfold z07 at h;by_cases hp:p<0\/(bs.length:Int)<p
 ·rw [if_pos hp] at h ⊢;rw [z98 (by decide)] at h;cases h
  rfl
 ·rw [if_neg hp] at h ⊢;exact v0j h
theorem z1s {bs:List Nat} {last:Bool} {p:Int} {q:Nat} {st st':List (Int × List VT)} (h:z3c bs last (z07 bs p last) st=.next q st'):z8f bs last p st=z8f bs last (q:Nat) st'/\p<q/\q<=bs.length/\0<=p:=by
 unfold z8f;unfold z07 at h;by_cases hp:p<0\/(bs.length:Int)<p
 ·rw [if_pos hp,z98 (by decide)] at h;cases h
 ·rw [if_neg hp] at h ⊢;have hq:=v40 (by omega) h;rw [if_neg (by omega),v0i h hq,Int.toNat_natCast];exact⟨rfl,by omega,hq.2,by omega⟩
end Go.Proofs.YtnhlalkeaaiefaaGreatDoor
