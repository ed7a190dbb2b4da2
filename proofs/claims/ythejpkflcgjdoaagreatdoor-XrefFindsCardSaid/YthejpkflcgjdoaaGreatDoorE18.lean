/- Merged by program. -/
import Derived.Test.YthejpkflcgjdoaaGreatDoorE16
import Derived.Test.YthejpkflcgjdoaaGreatDoorE17
import Derived.Laws.BytesArg
import Derived.Lib.SlBytesConst
set_option linter.unusedVariables false
set_option linter.unusedSimpArgs false
namespace Go.Proofs.YthejpkflcgjdoaaGreatDoor
open Go.RowKit
theorem strOfNums_sb (bs:List Nat):strOfNums (bs.map fun b:Nat=>(b:Int))=sb bs:=by
 unfold strOfNums sb
 rw [List.map_map]
 congr 2
theorem conv_l {w:World} {A:Option Addr} {n c:Nat} {bs:List Nat} (h:Src w 1 A n c (lcells bs)) :
  (convert 32 9 (.slice A n c)).run Tryz.prog w=.ok (.string (sb bs)) w:=by
 have hlen:bs.length=n:=by
  have:=h.1
  simpa [lcells] using this
 rw [<- strOfNums_sb]
 rcases Nat.eq_zero_or_pos n with h0|h0
 ·subst h0
  have hb:bs=[]:=List.eq_nil_of_length_eq_zero hlen
  subst hb
  rcases A with _|a
  ·have:=(h.2.1 rfl).2
   subst this
   exact run_convert_bytes_nil w 32 5 Tryz.underlying32 Tryz.underlying5 _ _ 9 Tryz.underlying9
  ·have hl:(loadCells a 0).run Tryz.prog w=.ok #[] w:=by simpa using run_loadCells_list (P:=Tryz.prog) w a [] (fun j v hj=>by simp at hj)
   rw [run_convert_bytes_string w 32 9 5 _ 0 c Tryz.underlying32 Tryz.underlying5 Tryz.underlying9]
   simp [Conv.bytesToString,hl,Result.andThen]
   rfl
 ·obtain⟨b,off,rfl,hcell⟩:=h.plain (by rw [lcells_len];omega)
  refine run_convert_bytes_arg w 32 5 Tryz.underlying32 Tryz.underlying5 b off n c (bs.map fun b:Nat=>(b:Int)) (by simpa using hlen) (fun i hi=>?_) 9 Tryz.underlying9
  have hc:=hcell i (.int .u8 (bs.getD i 0:Nat)) (lcells_at (by rw [List.getD_eq_getElem?_getD,List.getElem?_eq_getElem (by omega)];rfl))
  rw [hc]
  simp [hlen,hi]
def RuJ (w w0:World) (A:Option Addr) (bs:List Nat) (c:Nat) (last:Bool) (R p:Nat) (out:List Nat) (n:Nat) (x:Act) (w':World):Prop :=
 x.defers=[]/\x.tmps.size=60/\x.tmps.getD 0 undef=.pointer (some ⟨R,0,none⟩)/\x.tmps.getD 4 undef=.int .i64 (p:Nat)/\x.tmps.getD 5 undef=.int .i64 0/\∃ k:Nat,n=(bs.length-k)+1/\k<=bs.length/\p<=k /\
  Hid (RD w w0 w' A bs.length c last R k out/\p+rgs (bs.drop p)=k+rgs (bs.drop k))
theorem slots_60 {x:Act} {v0 v4 v5:Value} {C:Act->Prop} (h1:x.defers=[]) (h2:x.tmps.size=60) (h3:x.tmps.getD 0 undef=v0) (h4:x.tmps.getD 4 undef=v4) (h5:x.tmps.getD 5 undef=v5)
  (k:∀ f:Nat->Value,C { tmps:=#[v0,f 1,f 2,f 3,v4,v5,f 6,f 7,f 8,f 9,f 10,f 11,f 12,f 13,f 14,f 15,f 16,f 17,f 18,f 19,f 20,f 21,f 22,f 23,f 24,f 25,f 26,f 27,f 28,f 29,f 30,f 31,f 32,f 33,f 34,f 35,f 36,f 37,f 38,f 39,f 40,f 41,f 42,f 43,f 44,f 45,f 46,f 47,f 48,f 49,f 50,f 51,f 52,f 53,f 54,f 55,f 56,f 57,f 58,f 59],defers:=[] }):C x:=by
 obtain⟨t,d⟩:=x
 simp only at h1 h2 h3 h4 h5
 subst h1
 have h6:=k (fun i=>t.getD i undef)
 rw [<- h3,<- h4,<- h5] at h6
 rw [arr_slots t 60 h2]
 exact h6
theorem rgs_stop {x:Nat} {l:List Nat} (h:isRg x=false):rgs (x::l)=0:=by rw [rgs,if_neg (by rw [h];decide)]
theorem rgs_go {x:Nat} {l:List Nat} (h:isRg x=true):rgs (x::l)=rgs l+1:=by rw [rgs,if_pos h]
def runE (last:Bool) (l:List Nat):Int:=if rgs l=l.length/\last=false then 6 else 0
set_option maxHeartbeats 4000000 in
set_option maxRecDepth 100000 in
theorem prun_any {V w W:World} {A:Option Addr} {bs:List Nat} {c R p:Nat} {last:Bool} {out:List Nat} (h:RD V w W A bs.length c last R p out) (hS:Src w 1 A bs.length c (lcells bs)) (hl:bs.length<=500000) (hc:bs.length<=c) (hp:p<=bs.length) (hn0:0<bs.length) :
  Calls Tryz.prog 209 #[.pointer (some ⟨R,0,none⟩)] W fun e W'=>e=.returned (.tuple #[.string (sb ((bs.drop p).take (rgs (bs.drop p)))),.int .i64 (runE last (bs.drop p))])/\RD V w W' A bs.length c last R (p+rgs (bs.drop p)) out:=by
 have HSP:=kf (fun y X=>pspace_any y X)
 have HDL:=kf (fun y X=>pdelim_any y X)
 have HCU:=kf (fun X k (hX:RD V w X A bs.length c last R k out)=>pcut_any hX 0)
 have HR0:=kf h
 have HS:=kf hS
 obtain⟨c2,c3,c4,f3⟩:=h.cells
 obtain⟨b,off,rfl,hcell⟩:=lcell hS (Chg.refl NoS w) hn0
 have HCELL:=kf hcell
 have HBR:=kf (fun(k x:Nat) (hx:bs[k]?=some x)=>(show b≠R from by have h1:=cell_lt (hcell k x hx);have h2:=h.new;simp only at h1;omega))
 have HCV:=kf (fun(X:World) (hX:Chg NoS w X) (m:Nat) (hm:p+m<=bs.length)=>(show(convert 32 9 (.slice (cutL (some ⟨b,off,none⟩) p c) m (c-p))).run Tryz.prog X=.ok (.string (sb ((bs.drop p).take m))) X from by
  have h1:=src_cutL (lo:=p) (m:=m) (Src.below (w0:=w) hS hX) hc hm
  have e:((lcells bs).drop p).take m=lcells ((bs.drop p).take m):=by unfold lcells;rw [<- List.map_drop,<- List.map_take]
  rw [e] at h1
  exact conv_l h1))
 obtain⟨L,hL⟩:∃ L,L=rgs (bs.drop p):=⟨_,rfl⟩
 have HLen:=kf (show p+L<=bs.length from by have:=rgs_le (bs.drop p);rw [List.length_drop,<- hL] at this;omega)
 obtain⟨S,hS2⟩:∃ S,S=sb ((bs.drop p).take L):=⟨_,rfl⟩
 have HS2:=kf hS2
 have HL:=kf hL
 have HEr:=kf (show runE last (bs.drop p)=if p+L=bs.length/\last=false then 6 else 0 from by
  unfold runE
  rw [<- hL,List.length_drop]
  by_cases h1:p+L=bs.length
  ·by_cases h2:last=false
   ·rw [if_pos ⟨by omega,h2⟩,if_pos ⟨h1,h2⟩]
   ·rw [if_neg (fun e=>h2 e.2),if_neg (fun e=>h2 e.2)]
  ·rw [if_neg (fun e=>h1 (by omega)),if_neg (fun e=>h1 e.1)])
 rw [<- hL,<- hS2]
 obtain⟨E,hE⟩:∃ E,E=runE last (bs.drop p):=⟨_,rfl⟩
 rw [<- hE]
 rw [<- hE] at HEr
 clear h hS hcell hE hL hS2
 go_enter Tryz.func209,Tryz.ntmps209
 go_wp2
 refine wp_scope1 (RuJ V w (some ⟨b,off,none⟩) bs c last R p out) rfl ?pass0 ?first
 case first =>
  intro hpass
  have HPass:=kf hpass
  clear hpass
  go_wp2
  go_step3
  rename_i hK
  refine hK _ _ (HPass.out _ _ _ ⟨rfl,rfl,rfl,rfl,rfl,p,rfl,hp,Nat.le_refl _,kf ⟨HR0.out,rfl⟩⟩)
 case pass0 =>
  intro n x w1 hx
  obtain⟨h1,h2,h3,h4,h5,k,rfl,hk,hpk,HT⟩:=hx
  refine slots_60 h1 h2 h3 h4 h5 (C:=fun y=>Code.wp _ _ _ y w1) ?_
  intro f
  clear h1 h2 h3 h4 h5 c2 c3 c4 f3
  obtain⟨c2,c3,c4,f3⟩:=HT.out.1.cells
  by_cases hkn:k=bs.length
  ·have HK:=kf (show p+L=k from by rw [HL.out,HT.out.2,hkn,List.drop_of_length_le (Nat.le_refl _)];rfl)
   have HE1:=kf (show(if last then(0:Int) else 6)=E from by rw [HEr.out,HK.out];cases last<;>simp [hkn])
   have HCU1:=kf (fun X hX=>HCU.out X k hX)
   rw [HE1.out] at HCU1
   have hcv:=fun m m2=>HCV.out ((w1.drewN m).drewN m2) ((HT.out.1.chg.drewN m).drewN m2) L HLen.out
   have hcv1:=fun m=>HCV.out (w1.drewN m) (HT.out.1.chg.drewN m) L HLen.out
   have hLk:L=k-p:=by have:=HK.out;omega
   rw [<- HS2.out,hLk] at hcv hcv1
   have HNK:=kf hkn
   have k2:((k:Int)==bs.length)=true:=by simp;omega
   have k3:(k==bs.length)=true:=by simp;omega
   clear hkn HCU
   have p1:(p:Int)<=k:=by omega
   have p2:(k:Int)<=c:=by omega
   have p3:(k:Int)<=bs.length:=by omega
   rw [cutL_some] at hcv hcv1
   go_upto_region 2 with fail
   go_quiet (fail)
   go_upto_region 7 with first|(go_at_call 182;refine(HCU1.out _ (HT.out.1.drewN _)).mono ?_;rintro e w5 ⟨rfl,rfl⟩)|(go_at_call 151;refine(HSP1.out _).mono ?_;rintro e w5 ⟨rfl,rfl⟩)|(go_at_call 173;refine(HDL1.out _).mono ?_;rintro e w5 ⟨rfl,rfl⟩)
   go_quiet (fail)
   go_wp2_with fail
   all_goals (try simp only [hops])
   all_goals (go_ret2;exact⟨rfl,by rw [HK.out];exact HT.out.1.drewN _⟩)
  obtain⟨x,hx,hd⟩:=drop_at (bs:=bs) (k:=k) (by omega)
  have hbR:=HBR.out k x hx
  have c0:w1.cell? ⟨b,off+k,none⟩=some (.int .u8 (x:Nat)):=(HT.out.1.chg.cell (p:=⟨b,off+k,none⟩) (cell_lt (HCELL.out k x hx)) (fun h=>h)).trans (HCELL.out k x hx)
  have k1:(k:Int)<bs.length:=by omega
  have k2:((k:Int)==bs.length)=false:=by simp;omega
  have k3:(k==bs.length)=false:=by simp;omega
  have HD:=kf hd
  have HSP1:=kf (fun X=>HSP.out x X)
  have HDL1:=kf (fun X=>HDL.out x X)
  clear hx hd
  by_cases hr:isRg x=true
  ·have HV:=kf (show p+rgs (bs.drop p)=k+1+rgs (bs.drop (k+1)) from by rw [HT.out.2,HD.out,rgs_go hr];omega)
   have hs1:isSp x=false:=by
    cases h7:isSp x with
    |false=>rfl
    |true=>rw [isRg,h7] at hr;cases hr
   have hd1:isDl x=false:=by
    cases h7:isDl x with
    |false=>rfl
    |true=>rw [isRg,hs1,h7] at hr;cases hr
   rw [hs1] at HSP1
   rw [hd1] at HDL1
   clear hs1 hd1 hr
   go_upto_region 2 with fail
   go_quiet (fail)
   go_upto_region 4 with fail
   go_quiet (fail)
   go_wp2_with first|(go_at_call 151;refine(HSP1.out _).mono ?_;rintro e w5 ⟨rfl,rfl⟩)|(go_at_call 173;refine(HDL1.out _).mono ?_;rintro e w5 ⟨rfl,rfl⟩)
   go_step3
   exact⟨(bs.length-(k+1))+1,by omega,rfl,rfl,rfl,rfl,rfl,rfl,k+1,rfl,by omega,by omega,kf ⟨(HT.out.1.drewN _).at_ _,HV.out⟩⟩
  ·have hr2:isRg x=false:=by simpa using hr
   have HK:=kf (show p+L=k from by rw [HL.out,HT.out.2,HD.out,rgs_stop hr2];rfl)
   have HE1:=kf (show E=0 from by rw [HEr.out,if_neg (fun e=>by have:=HK.out;omega)])
   have hcv:=fun m m2=>HCV.out ((w1.drewN m).drewN m2) ((HT.out.1.chg.drewN m).drewN m2) L HLen.out
   have hcv1:=fun m=>HCV.out (w1.drewN m) (HT.out.1.chg.drewN m) L HLen.out
   have hLk:L=k-p:=by have:=HK.out;omega
   rw [<- HS2.out,hLk] at hcv hcv1
   clear hr
   cases h7:isSp x with
   |true =>
    rw [h7] at HSP1
    clear h7 hr2
    have p1:(p:Int)<=k:=by omega
    have p2:(k:Int)<=c:=by omega
    have p3:(k:Int)<=bs.length:=by omega
    rw [cutL_some] at hcv hcv1
    go_upto_region 2 with fail
    go_quiet (fail)
    go_upto_region 4 with fail
    go_quiet (fail)
    go_upto_region 7 with first|(go_at_call 182;refine(HCU1.out _ (HT.out.1.drewN _)).mono ?_;rintro e w5 ⟨rfl,rfl⟩)|(go_at_call 151;refine(HSP1.out _).mono ?_;rintro e w5 ⟨rfl,rfl⟩)|(go_at_call 173;refine(HDL1.out _).mono ?_;rintro e w5 ⟨rfl,rfl⟩)
    go_quiet (fail)
    go_wp2_with fail
    all_goals (try simp only [hops])
    all_goals (go_ret2;exact⟨by rw [HE1.out];rfl,by rw [HK.out];exact HT.out.1.drewN _⟩)
   |false =>
    have h8:isDl x=true:=by
     cases h9:isDl x with
     |true=>rfl
     |false=>rw [isRg,h7,h9] at hr2;cases hr2
    rw [h7] at HSP1
    rw [h8] at HDL1
    clear h7 h8 hr2
    have p1:(p:Int)<=k:=by omega
    have p2:(k:Int)<=c:=by omega
    have p3:(k:Int)<=bs.length:=by omega
    rw [cutL_some] at hcv hcv1
    go_upto_region 2 with fail
    go_quiet (fail)
    go_upto_region 4 with fail
    go_quiet (fail)
    go_upto_region 7 with first|(go_at_call 182;refine(HCU1.out _ (HT.out.1.drewN _)).mono ?_;rintro e w5 ⟨rfl,rfl⟩)|(go_at_call 151;refine(HSP1.out _).mono ?_;rintro e w5 ⟨rfl,rfl⟩)|(go_at_call 173;refine(HDL1.out _).mono ?_;rintro e w5 ⟨rfl,rfl⟩)
    go_quiet (fail)
    go_wp2_with fail
    all_goals (try simp only [hops])
    all_goals (go_ret2;exact⟨by rw [HE1.out];rfl,by rw [HK.out];exact HT.out.1.drewN _⟩)
def tknV (t:Tkn):Value:=.agg #[.int .i64 (t.kind:Nat),.int .i64 (t.from_:Nat),.int .i64 (t.to:Nat),.int .i64 (t.vk:Nat),.int .i64 t.vn,.string (sb t.vs),.slice none 0 0,.string (sb t.s)]
def NxTo (w:World) (r:Int × Tkn) (e:Ending) (w':World):Prop:=e=.returned (.tuple #[tknV r.2,.int .i64 r.1])/\Chg NoS w w'
def nextA (bs:List Nat) (p:Int) (last:Bool):Int × Tkn:=if p<0\/(bs.length:Int)<p then(2,noT 0) else nextO bs p.toNat last
section
variable {last:Bool} {p x:Nat} {l:List Nat}
theorem tok_91:tokO last p 91 l=(0,⟨2,p,p+1,0,0,[],[]⟩):=rfl
theorem tok_93:tokO last p 93 l=(0,⟨3,p,p+1,0,0,[],[]⟩):=rfl
theorem tok_6060 (h:l.head?=some 60):tokO last p 60 l=(0,⟨4,p,p+2,0,0,[],[]⟩):=by
 unfold tokO
 rw [if_neg (show ¬60=91 by decide),if_neg (show ¬60=93 by decide),if_pos (show 60=60/\l.head?=some 60 from⟨rfl,h⟩)]
theorem tok_6262 (h:l.head?=some 62):tokO last p 62 l=(0,⟨5,p,p+2,0,0,[],[]⟩):=by
 unfold tokO
 rw [if_neg (show ¬62=91 by decide),if_neg (show ¬62=93 by decide),if_neg (show ¬(62=60/\l.head?=some 60) from fun e=>absurd e.1 (by decide)),if_pos (show 62=62/\l.head?=some 62 from⟨rfl,h⟩)]
theorem tok_62m (h:l=[]) (h2:last=false):tokO last p 62 l=(6,noT p):=by
 subst h h2
 rfl
theorem tok_62f (h:¬l.head?=some 62) (h2:¬(l=[]/\last=false)):tokO last p 62 l=(11,noT p):=by
 unfold tokO
 rw [if_neg (show ¬62=91 by decide),if_neg (show ¬62=93 by decide),if_neg (show ¬(62=60/\l.head?=some 60) from fun e=>absurd e.1 (by decide)),if_neg (show ¬(62=62/\l.head?=some 62) from fun e=>h e.2),if_neg (show ¬(62=62/\l=[]/\last=false) from fun e=>h2 e.2),if_neg (show ¬62=60 by decide),if_neg (show ¬62=40 by decide),if_neg (show ¬62=47 by decide),if_pos (show isDl 62=true from rfl)]
theorem tok_40:tokO last p 40 l=if (txtO last 1 [] (p+1) l).1≠0 then((txtO last 1 [] (p+1) l).1,noT p) else(0,⟨1,p,(txtO last 1 [] (p+1) l).2.2,4,0,(txtO last 1 [] (p+1) l).2.1,[]⟩):=by
 unfold tokO
 rw [if_neg (show ¬40=91 by decide),if_neg (show ¬40=93 by decide),if_neg (show ¬(40=60/\l.head?=some 60) from fun e=>absurd e.1 (by decide)),if_neg (show ¬(40=62/\l.head?=some 62) from fun e=>absurd e.1 (by decide)),if_neg (show ¬(40=62/\l=[]/\last=false) from fun e=>absurd e.1 (by decide)),if_neg (show ¬40=60 by decide),if_pos (show 40=40 from rfl)]
theorem tok_47:tokO last p 47 l=if rgs l=l.length/\last=false then(6,noT p) else if (nameO (l.take (rgs l))).1≠0 then((nameO (l.take (rgs l))).1,noT p) else(0,⟨1,p,p+1+rgs l,5,0,(nameO (l.take (rgs l))).2,[]⟩):=by
 unfold tokO
 rw [if_neg (show ¬47=91 by decide),if_neg (show ¬47=93 by decide),if_neg (show ¬(47=60/\l.head?=some 60) from fun e=>absurd e.1 (by decide)),if_neg (show ¬(47=62/\l.head?=some 62) from fun e=>absurd e.1 (by decide)),if_neg (show ¬(47=62/\l=[]/\last=false) from fun e=>absurd e.1 (by decide)),if_neg (show ¬47=60 by decide),if_neg (show ¬47=40 by decide),if_pos (show 47=47 from rfl)]
theorem tok_rest (h1:x≠91) (h2:x≠93) (h3:x≠60) (h4:x≠62) (h5:x≠40) (h6:x≠47):tokO last p x l =
  if isDl x then(11,noT p)
  else if rgs l=l.length/\last=false then(6,noT p)
  else if isNm x then
   if (numOf ((x::l).take (rgs l+1))).1≠0 then((numOf ((x::l).take (rgs l+1))).1,noT p) else(0,⟨1,p,p+1+rgs l,(numOf ((x::l).take (rgs l+1))).2.1,(numOf ((x::l).take (rgs l+1))).2.2,[],[]⟩)
  else(0,⟨6,p,p+1+rgs l,0,0,[],(x::l).take (rgs l+1)⟩):=by
 unfold tokO
 rw [if_neg h1,if_neg h2,if_neg (fun e=>h3 e.1),if_neg (fun e=>h4 e.1),if_neg (fun e=>h4 e.1),if_neg h3,if_neg h5,if_neg h6]
end
def roomO (st:List (Int × List VT)) (kind:Int):Int :=
 match st with
 |[]=>0
 |(k,l)::r=>if k=7/\l.length%2=0/\kind≠5 then 11 else if 64<=r.length+1 then 15 else 0
def wordO (s:List Nat):Int × VT :=
 if sb s=⟨#[110,117,108,108]⟩ then(0,nilT) else if sb s=⟨#[102,97,108,115,101]⟩ then(0,.mk 1 0 ⟨#[]⟩ []) else if sb s=⟨#[116,114,117,101]⟩ then(0,.mk 1 1 ⟨#[]⟩ []) else(11,nilT)
def tokV (t:Tkn):VT:=.mk (t.vk:Nat) t.vn (sb t.vs) []
def thirdO (bs:List Nat) (last:Bool) (r2:Int × Tkn):Int × Tkn:=if r2.2.vk=2 then nextO bs r2.2.to last else(r2.1,noT 0)
def refO (bs:List Nat) (last:Bool) (t:Tkn):Int × VT × Nat :=
 if t.vk≠2 then(0,tokV t,t.to)
 else if (thirdO bs last (nextO bs t.to last)).1=6 then(6,nilT,0)
 else if (thirdO bs last (nextO bs t.to last)).2.kind≠6\/sb (thirdO bs last (nextO bs t.to last)).2.s≠⟨#[82]⟩ then(0,tokV t,t.to)
 else if t.vn<1\/4096<t.vn\/(nextO bs t.to last).2.vn≠0 then(26,nilT,0)
 else(0,.mk 8 t.vn ⟨#[]⟩ [],(thirdO bs last (nextO bs t.to last)).2.to)
noncomputable def dicO (l:List VT):Int × VT:=if l.length%2≠0 then(11,nilT) else if (dictT l).length<l.length then(16,nilT) else(0,.mk 7 0 ⟨#[]⟩ (dictT l))
noncomputable def popO (st:List (Int × List VT)) (kind:Int):Int × VT :=
 match st with
 |[]=>(11,nilT)
 |(k,l)::_=>if k≠kind then(11,nilT) else if kind=7 then dicO l else(0,.mk k 0 ⟨#[]⟩ l)
inductive Out
 |done (er:Int) (v:VT) (tz:Nat)
 |next (p:Nat) (st:List (Int × List VT))
def putO (er:Int) (v:VT) (tz:Nat) (st:List (Int × List VT)):Out :=
 if er≠0 then .done er nilT 0
 else match st with
  |[]=>.done 0 v tz
  |(k,l)::r=>if roomO ((k,l)::r) v.kind≠0 then .done (roomO ((k,l)::r) v.kind) nilT 0 else .next tz ((k,l++[v])::r)
def opnO (kind:Int) (tz:Nat) (st:List (Int × List VT)):Out:=if roomO st kind≠0 then .done (roomO st kind) nilT 0 else .next tz ((kind,[])::st)
noncomputable def actO (bs:List Nat) (last:Bool) (r:Int × Tkn) (st:List (Int × List VT)):Out :=
 if r.1≠0 then .done r.1 nilT 0
 else if r.2.kind=0 then .done 10 nilT 0
 else if r.2.kind=2 then opnO 6 r.2.to st
 else if r.2.kind=4 then opnO 7 r.2.to st
 else if r.2.kind=3 then putO (popO st 6).1 (popO st 6).2 r.2.to st.tail
 else if r.2.kind=5 then putO (popO st 7).1 (popO st 7).2 r.2.to st.tail
 else if r.2.kind=6 then putO (wordO r.2.s).1 (wordO r.2.s).2 r.2.to st
 else putO (refO bs last r.2).1 (refO bs last r.2).2.1 (refO bs last r.2).2.2 st
noncomputable def stepO (bs:List Nat) (last:Bool) (p:Nat) (st:List (Int × List VT)):Out:=actO bs last (nextO bs p last) st
noncomputable def runO (bs:List Nat) (last:Bool) (p:Nat) (st:List (Int × List VT)):Int × VT × Nat :=
 match stepO bs last p st with
 |.done er v tz=>(er,v,tz)
 |.next q st'=>if h:p<q/\q<=bs.length then runO bs last q st' else(0,nilT,0)
termination_by bs.length-p
decreasing_by omega
theorem run_done {bs:List Nat} {last:Bool} {p:Nat} {st:List (Int × List VT)} {er:Int} {v:VT} {tz:Nat} (h:stepO bs last p st=.done er v tz):runO bs last p st=(er,v,tz):=by
 rw [runO,h]
theorem run_next {bs:List Nat} {last:Bool} {p q:Nat} {st st':List (Int × List VT)} (h:stepO bs last p st=.next q st') (hq:p<q/\q<=bs.length):runO bs last p st=runO bs last q st':=by
 rw [runO,h]
 simp only [dif_pos hq]
theorem next_tok (bs:List Nat) (p:Nat) (last:Bool) (hp:p<=bs.length):((nextO bs p last).2.kind=0/\(nextO bs p last).2.vk=0/\(nextO bs p last).2.s=[])\/((nextO bs p last).1=0/\(nextO bs p last).2.kind≠0/\p<(nextO bs p last).2.to/\(nextO bs p last).2.to<=bs.length):=by
 rcases nextO_place bs p last hp with⟨q,_,_,h,_⟩|⟨h1,h2,h3,h4,h5,_⟩
 ·rw [h];exact .inl ⟨rfl,rfl,rfl⟩
 ·exact .inr ⟨h1,h2,by omega,h5⟩
theorem next_err {bs:List Nat} {p:Nat} {last:Bool} (hp:p<=bs.length) (h:(nextO bs p last).1≠0):(nextO bs p last).2.vk=0:=by
 rcases next_tok bs p last hp with h1|h1
 ·exact h1.2.1
 ·exact absurd h1.1 h
theorem ref_to {bs:List Nat} {last:Bool} {t:Tkn} (ht:t.to<=bs.length) (h:(refO bs last t).1=0):t.to<=(refO bs last t).2.2/\(refO bs last t).2.2<=bs.length:=by
 unfold refO at h ⊢
 by_cases h1:t.vk≠2
 ·rw [if_pos h1];exact⟨Nat.le_refl _,ht⟩
 rw [if_neg h1] at h ⊢
 by_cases h2:(thirdO bs last (nextO bs t.to last)).1=6
 ·rw [if_pos h2] at h;cases h
 rw [if_neg h2] at h ⊢
 by_cases h3:(thirdO bs last (nextO bs t.to last)).2.kind≠6\/sb (thirdO bs last (nextO bs t.to last)).2.s≠⟨#[82]⟩
 ·rw [if_pos h3];exact⟨Nat.le_refl _,ht⟩
 rw [if_neg h3] at h ⊢
 by_cases h4:t.vn<1\/4096<t.vn\/(nextO bs t.to last).2.vn≠0
 ·rw [if_pos h4] at h;cases h
 rw [if_neg h4]
 simp only []
 have h5:(thirdO bs last (nextO bs t.to last)).2.kind=6:=by omega
 unfold thirdO at h5 ⊢
 by_cases h6:(nextO bs t.to last).2.vk=2
 ·rw [if_pos h6] at h5 ⊢
  rcases next_tok bs t.to last ht with h7|h7
  ·rw [h7.2.1] at h6;cases h6
  ·rcases next_tok bs _ last h7.2.2.2 with h8|h8
   ·rw [h8.1] at h5;cases h5
   ·omega
 ·rw [if_neg h6] at h5;cases h5
theorem put_to {er:Int} {v:VT} {tz q:Nat} {st st':List (Int × List VT)} (h:putO er v tz st=.next q st'):q=tz/\er=0:=by
 unfold putO at h
 by_cases h1:er≠0
 ·rw [if_pos h1] at h;cases h
 rw [if_neg h1] at h
 refine⟨?_,by omega⟩
 cases st with
 |nil=>cases h
 |cons x r =>
  obtain⟨k,l⟩:=x
  simp only [] at h
  split at h
  ·cases h
  ·cases h;rfl
theorem opn_to {kind:Int} {tz q:Nat} {st st':List (Int × List VT)} (h:opnO kind tz st=.next q st'):q=tz:=by
 unfold opnO at h
 split at h
 ·cases h
 ·cases h;rfl
theorem step_to {bs:List Nat} {last:Bool} {p q:Nat} {st st':List (Int × List VT)} (hp:p<=bs.length) (h:stepO bs last p st=.next q st'):p<q/\q<=bs.length:=by
 unfold stepO actO at h
 rcases next_tok bs p last hp with⟨h1,_⟩|⟨h1,h2,h3,h4⟩
 ·by_cases h0:(nextO bs p last).1≠0
  ·rw [if_pos h0] at h;cases h
  ·rw [if_neg h0,if_pos h1] at h;cases h
 rw [if_neg (by rw [h1];decide),if_neg h2] at h
 split at h
 ·rw [opn_to h];exact⟨h3,h4⟩
 split at h
 ·rw [opn_to h];exact⟨h3,h4⟩
 split at h
 ·rw [(put_to h).1];exact⟨h3,h4⟩
 split at h
 ·rw [(put_to h).1];exact⟨h3,h4⟩
 split at h
 ·rw [(put_to h).1];exact⟨h3,h4⟩
 ·have h5:=put_to h
  have h6:=ref_to h4 h5.2
  rw [h5.1]
  omega
theorem tok_kind (last:Bool) (p c:Nat) (l:List Nat):(tokO last p c l).2.kind<=6:=by
 have hno:∀ e:Int,((e,noT p):Int × Tkn).2.kind<=6:=fun _=>Nat.zero_le _
 unfold tokO
 by_cases h1:c=91
 ·rw [if_pos h1];simp
 rw [if_neg h1]
 by_cases h2:c=93
 ·rw [if_pos h2];simp
 rw [if_neg h2]
 by_cases h3:c=60/\l.head?=some 60
 ·rw [if_pos h3];simp
 rw [if_neg h3]
 by_cases h4:c=62/\l.head?=some 62
 ·rw [if_pos h4];simp
 rw [if_neg h4]
 by_cases h5:c=62/\l=[]/\last=false
 ·rw [if_pos h5];exact hno _
 rw [if_neg h5]
 by_cases h6:c=60
 ·rw [if_pos h6]
  split
  ·exact hno _
  ·simp
 rw [if_neg h6]
 by_cases h7:c=40
 ·rw [if_pos h7]
  split
  ·exact hno _
  ·simp
 rw [if_neg h7]
 by_cases h8:c=47
 ·rw [if_pos h8]
  split
  ·exact hno _
  ·split
   ·exact hno _
   ·simp
 rw [if_neg h8]
 by_cases h9:isDl c=true
 ·rw [if_pos h9];exact hno _
 rw [if_neg h9]
 by_cases h10:rgs l=l.length/\last=false
 ·rw [if_pos h10];exact hno _
 rw [if_neg h10]
 by_cases h11:isNm c=true
 ·rw [if_pos h11]
  split
  ·exact hno _
  ·simp
 ·rw [if_neg h11];simp
theorem next_kind (bs:List Nat) (p:Nat) (last:Bool):(nextO bs p last).2.kind<=6:=by
 unfold nextO
 split
 ·simp [noT]
 ·exact tok_kind _ _ _ _
theorem esc_len (last:Bool) (l:List Nat):(escO last l).2.1.toList.length<=1:=by
 cases (escO last l).2.1<;>simp
theorem txtO_len (last:Bool):∀ (n:Nat) (l:List Nat) (deep:Nat) (out:List Nat) (p:Nat),l.length<=n->(txtO last deep out p l).2.1.length<=out.length+l.length:=by
 intro n
 induction n with
 |zero =>
  intro l deep out p hn
  obtain rfl:l=[]:=List.length_eq_zero_iff.1 (by omega)
  rw [txtO_nil]
  exact Nat.zero_le _
 |succ n ih =>
  intro l deep out p hn
  cases l with
  |nil=>rw [txtO_nil];exact Nat.zero_le _
  |cons c l =>
   have hl:l.length<=n:=by simp only [List.length_cons] at hn;omega
   simp only [List.length_cons]
   rw [txtO_cons]
   have he:=esc_len last l
   have h1:∀ x:Nat,(out++[x]).length=out.length+1:=fun x=>by simp
   split
   ·split
    ·exact Nat.zero_le _
    ·have:=ih (l.drop (escO last l).2.2) deep (out++(escO last l).2.1.toList) (p+1+(escO last l).2.2) (by rw [List.length_drop];omega)
     rw [List.length_append,List.length_drop] at this
     omega
   ·split
    ·split
     ·exact Nat.zero_le _
     ·split
      ·have:=ih (l.drop 1) deep (out++[10]) (p+2) (by rw [List.length_drop];omega)
       rw [h1,List.length_drop] at this
       omega
      ·have:=ih l deep (out++[10]) (p+1) hl
       rw [h1] at this
       omega
    ·split
     ·have:=ih l (deep+1) (out++[40]) (p+1) hl
      rw [h1] at this
      omega
     ·split
      ·split
       ·show out.length<=_;omega
       ·have:=ih l (deep-1) (out++[41]) (p+1) hl
        rw [h1] at this
        omega
      ·have:=ih l deep (out++[c]) (p+1) hl
       rw [h1] at this
       omega
theorem pairs_len:∀ ds:List Nat,(pairs ds).length<=ds.length
 |[]=>Nat.le_refl _
 |[a]=>Nat.le_refl _
 |a::b::l=>by
  have:=pairs_len l
  rw [pairs,List.length_cons,List.length_cons,List.length_cons]
  omega
theorem hexO_len (last:Bool):∀ (l ds:List Nat) (p:Nat),(hexO last ds p l).2.1.length<=ds.length+l.length:=by
 intro l
 induction l with
 |nil=>intro ds p;exact Nat.zero_le _
 |cons c l ih =>
  intro ds p
  simp only [hexO,List.length_cons]
  split
  ·have:=pairs_len ds;simp only [];omega
  ·split
   ·have:=ih ds (p+1);omega
   ·split
    ·exact Nat.zero_le _
    ·next d _ =>
     have:=ih (ds++[d]) (p+1)
     rw [List.length_append,List.length_singleton] at this
     omega
theorem nameF_small:∀ (n:Nat) (l o:List Nat),l.length<=n->(∀ x∈l,x<256)->nameF l=some o->o.length<=l.length/\∀ x∈o,x<256:=by
 intro n
 induction n with
 |zero =>
  intro l o hn hb h
  obtain rfl:l=[]:=List.length_eq_zero_iff.1 (by omega)
  simp [nameF] at h
  subst h
  exact⟨Nat.le_refl _,fun x hx=>by cases hx⟩
 |succ n ih =>
  intro l o hn hb h
  match l,hn,hb,h with
  |[],_,_,h =>
   simp [nameF] at h
   subst h
   exact⟨Nat.le_refl _,fun x hx=>by cases hx⟩
  |[c],hn,hb,h =>
   unfold nameF at h
   by_cases hc:c≠35
   ·rw [if_pos hc] at h
    simp [nameF] at h
    subst h
    exact⟨Nat.le_refl _,fun x hx=>hb x hx⟩
   ·rw [if_neg hc] at h;cases h
  |[c,x],hn,hb,h =>
   unfold nameF at h
   by_cases hc:c≠35
   ·rw [if_pos hc] at h
    obtain⟨o',h1,h2⟩:=Option.map_eq_some_iff.1 h
    obtain⟨h3,h4⟩:=ih [x] o' (by simp only [List.length_cons] at hn ⊢;omega) (fun z hz=>hb z (List.mem_cons_of_mem _ hz)) h1
    subst h2
    refine⟨by simp only [List.length_cons] at h3 ⊢;omega,fun z hz=>?_⟩
    rcases List.mem_cons.1 hz with rfl|hz
    ·exact hb _ (List.mem_cons_self ..)
    ·exact h4 z hz
   ·rw [if_neg hc] at h;cases h
  |c::x::y::m,hn,hb,h =>
   unfold nameF at h
   by_cases hc:c≠35
   ·rw [if_pos hc] at h
    obtain⟨o',h1,h2⟩:=Option.map_eq_some_iff.1 h
    obtain⟨h3,h4⟩:=ih (x::y::m) o' (by simp only [List.length_cons] at hn ⊢;omega) (fun z hz=>hb z (List.mem_cons_of_mem _ hz)) h1
    subst h2
    refine⟨by simp only [List.length_cons] at h3 ⊢;omega,fun z hz=>?_⟩
    rcases List.mem_cons.1 hz with rfl|hz
    ·exact hb _ (List.mem_cons_self ..)
    ·exact h4 z hz
   ·rw [if_neg hc] at h
    simp only [] at h
    cases hx:hexD x with
    |none=>rw [hx] at h;cases h
    |some a =>
     cases hy:hexD y with
     |none=>rw [hx,hy] at h;cases h
     |some b =>
      rw [hx,hy] at h
      simp only [] at h
      obtain⟨o',h1,h2⟩:=Option.map_eq_some_iff.1 h
      obtain⟨h3,h4⟩:=ih m o' (by simp only [List.length_cons] at hn;omega) (fun z hz=>hb z (by simp [hz])) h1
      subst h2
      have ha:=hexD_lt hx
      have hbb:=hexD_lt hy
      refine⟨by simp only [List.length_cons];omega,fun z hz=>?_⟩
      rcases List.mem_cons.1 hz with rfl|hz
      ·omega
      ·exact h4 z hz
def TokV (N:Nat) (t:Tkn):Prop:=t.vs.length<=N/\((t.vk=4/\t.vn=0)\/(t.vk=5/\t.vn=0/\textO (sb t.vs))\/(t.vk=2/\t.vs=[]/\t.vn.natAbs<=2147483647)\/(t.vk=3/\t.vs=[]/\t.vn.natAbs<=2147483647*1000000))
theorem tok_val (last:Bool) (p c:Nat) (l:List Nat) (hb:∀ x∈l,x<256) (h:(tokO last p c l).1=0) (hk:(tokO last p c l).2.kind=1):TokV l.length (tokO last p c l).2:=by
 unfold tokO at h hk ⊢
 by_cases h1:c=91
 ·rw [if_pos h1] at hk;cases hk
 rw [if_neg h1] at h hk ⊢
 by_cases h2:c=93
 ·rw [if_pos h2] at hk;cases hk
 rw [if_neg h2] at h hk ⊢
 by_cases h3:c=60/\l.head?=some 60
 ·rw [if_pos h3] at hk;cases hk
 rw [if_neg h3] at h hk ⊢
 by_cases h4:c=62/\l.head?=some 62
 ·rw [if_pos h4] at hk;cases hk
 rw [if_neg h4] at h hk ⊢
 by_cases h5:c=62/\l=[]/\last=false
 ·rw [if_pos h5] at h;cases h
 rw [if_neg h5] at h hk ⊢
 by_cases h6:c=60
 ·rw [if_pos h6] at h hk ⊢
  by_cases h9:(hexO last [] (p+1) l).1≠0
  ·rw [if_pos h9] at h;exact absurd h h9
  ·rw [if_neg h9]
   have:=hexO_len last l [] (p+1)
   exact⟨by simpa using this,.inl ⟨rfl,rfl⟩⟩
 rw [if_neg h6] at h hk ⊢
 by_cases h7:c=40
 ·rw [if_pos h7] at h hk ⊢
  by_cases h9:(txtO last 1 [] (p+1) l).1≠0
  ·rw [if_pos h9] at h;exact absurd h h9
  ·rw [if_neg h9]
   have:=txtO_len last _ l 1 [] (p+1) (Nat.le_refl _)
   exact⟨by simpa using this,.inl ⟨rfl,rfl⟩⟩
 rw [if_neg h7] at h hk ⊢
 have hrl:=rgs_le l
 by_cases h8:c=47
 ·rw [if_pos h8] at h hk ⊢
  by_cases h9:rgs l=l.length/\last=false
  ·rw [if_pos h9] at h;cases h
  rw [if_neg h9] at h hk ⊢
  by_cases h10:(nameO (l.take (rgs l))).1≠0
  ·rw [if_pos h10] at h;exact absurd h h10
  rw [if_neg h10]
  unfold nameO at h10 ⊢
  cases hn:nameF (l.take (rgs l)) with
  |none=>rw [hn] at h10;exact absurd (by decide) h10
  |some o =>
   rw [hn] at h10
   simp only [] at h10 ⊢
   by_cases h11:0∈o\/127<o.length
   ·rw [if_pos h11] at h10;exact absurd (by decide) h10
   rw [if_neg h11]
   obtain⟨h12,h13⟩:=nameF_small _ _ o (Nat.le_refl _) (fun x hx=>hb x (List.mem_of_mem_take hx)) hn
   rw [List.length_take] at h12
   refine⟨by simp only [];omega,.inr (.inl ⟨rfl,rfl,?_⟩)⟩
   simp only []
   refine⟨fun d hd=>?_,by rw [sb_size];omega⟩
   rw [sl_sb o h13] at hd
   intro e
   subst e
   exact h11 (.inl hd)
 rw [if_neg h8] at h hk ⊢
 by_cases h9:isDl c=true
 ·rw [if_pos h9] at h;cases h
 rw [if_neg h9] at h hk ⊢
 by_cases h10:rgs l=l.length/\last=false
 ·rw [if_pos h10] at h;cases h
 rw [if_neg h10] at h hk ⊢
 by_cases h11:isNm c=true
 ·rw [if_pos h11] at h hk ⊢
  by_cases h12:(numOf ((c::l).take (rgs l+1))).1≠0
  ·rw [if_pos h12] at h;exact absurd h h12
  rw [if_neg h12]
  obtain⟨k,x,hx⟩:∃ k x,numOf ((c::l).take (rgs l+1))=(0,k,x):=⟨_,_,by rw [<- Decidable.not_not.1 h12]⟩
  have:=numOf_may hx
  rw [hx]
  refine⟨Nat.zero_le _,?_⟩
  rcases this with⟨rfl,h⟩|⟨rfl,h⟩
  ·exact .inr (.inr (.inl ⟨rfl,rfl,h⟩))
  ·exact .inr (.inr (.inr ⟨rfl,rfl,h⟩))
 ·rw [if_neg h11] at hk;cases hk
theorem next_val (bs:List Nat) (p:Nat) (last:Bool) (hb:∀ x∈bs,x<256) (h:(nextO bs p last).1=0) (hk:(nextO bs p last).2.kind=1):TokV bs.length (nextO bs p last).2:=by
 unfold nextO at h hk ⊢
 cases hc:bs.drop (p+skp false (bs.drop p)) with
 |nil=>rw [hc] at hk;cases hk
 |cons c l =>
  rw [hc] at h hk
  simp only [] at h hk ⊢
  have hlen:=congrArg List.length hc
  rw [List.length_drop,List.length_cons] at hlen
  have h1:=tok_val last _ c l (fun x hx=>hb x (List.mem_of_mem_drop (by rw [hc];exact List.mem_cons_of_mem _ hx))) h hk
  exact⟨by have:=h1.1;omega,h1.2⟩
noncomputable def runI (bs:List Nat) (last:Bool) (p:Int) (st:List (Int × List VT)):Int × VT × Nat:=if p<0\/(bs.length:Int)<p then(2,nilT,0) else runO bs last p.toNat st
theorem actO_err {bs:List Nat} {last:Bool} {r:Int × Tkn} {st:List (Int × List VT)} (h:r.1≠0):actO bs last r st=.done r.1 nilT 0:=by unfold actO;rw [if_pos h]
theorem runI_done {bs:List Nat} {last:Bool} {p:Int} {st:List (Int × List VT)} {er:Int} {v:VT} {tz:Nat} (h:actO bs last (nextA bs p last) st=.done er v tz):runI bs last p st=(er,v,tz):=by
 unfold runI
 unfold nextA at h
 by_cases hp:p<0\/(bs.length:Int)<p
 ·rw [if_pos hp] at h ⊢
  rw [actO_err (by decide)] at h
  cases h
  rfl
 ·rw [if_neg hp] at h ⊢
  exact run_done h
theorem runI_next {bs:List Nat} {last:Bool} {p:Int} {q:Nat} {st st':List (Int × List VT)} (h:actO bs last (nextA bs p last) st=.next q st'):runI bs last p st=runI bs last (q:Nat) st'/\p<q/\q<=bs.length/\0<=p:=by
 unfold runI
 unfold nextA at h
 by_cases hp:p<0\/(bs.length:Int)<p
 ·rw [if_pos hp,actO_err (by decide)] at h
  cases h
 ·rw [if_neg hp] at h ⊢
  have hq:=step_to (by omega) h
  rw [if_neg (by omega),run_next h hq,Int.toNat_natCast]
  exact⟨rfl,by omega,hq.2,by omega⟩
end Go.Proofs.YthejpkflcgjdoaaGreatDoor
