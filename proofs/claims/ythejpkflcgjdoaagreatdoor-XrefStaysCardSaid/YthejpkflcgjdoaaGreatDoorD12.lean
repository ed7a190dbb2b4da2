/- Merged by program. -/
import Derived.Test.YthejpkflcgjdoaaGreatDoorD01
import Derived.Test.YthejpkflcgjdoaaGreatDoorD05
import Derived.Laws.Runes
set_option linter.unusedVariables false
set_option linter.unusedSimpArgs false
namespace Go.Proofs.YthejpkflcgjdoaaGreatDoor
open Go.RowKit
theorem pspace_any (c:Nat) (w:World):Calls Tryz.prog 151 #[.int .u8 (c:Nat)] w fun e w'=>e=.returned (.bool (isSp c))/\w=w':=by
 by_cases h:c=0\/c=9\/c=10\/c=12\/c=13\/c=32
 ·rcases h with rfl|rfl|rfl|rfl|rfl|rfl
  all_goals
   go_enter Tryz.func151,Tryz.ntmps151
   go_wp2_with fail
   go_ret
   exact⟨rfl,rfl⟩
 ·have HS:=kf (isSp_no (c:=c) (by omega) (by omega) (by omega) (by omega) (by omega) (by omega))
  have e0:((c:Int)==0)=false:=by simp;omega
  have e1:((c:Int)==9)=false:=by simp;omega
  have e2:((c:Int)==10)=false:=by simp;omega
  have e3:((c:Int)==12)=false:=by simp;omega
  have e4:((c:Int)==13)=false:=by simp;omega
  have e5:((c:Int)==32)=false:=by simp;omega
  clear h
  go_enter Tryz.func151,Tryz.ntmps151
  go_wp2_with fail
  go_ret
  exact⟨by rw [HS.out];rfl,rfl⟩
theorem pdelim_any (c:Nat) (w:World):Calls Tryz.prog 173 #[.int .u8 (c:Nat)] w fun e w'=>e=.returned (.bool (isDl c))/\w=w':=by
 by_cases h:c=40\/c=41\/c=60\/c=62\/c=91\/c=93\/c=123\/c=125\/c=47\/c=37
 ·rcases h with rfl|rfl|rfl|rfl|rfl|rfl|rfl|rfl|rfl|rfl
  all_goals
   go_enter Tryz.func173,Tryz.ntmps173
   go_wp2_with fail
   go_ret
   exact⟨rfl,rfl⟩
 ·have HS:=kf (isDl_no (c:=c) (by omega) (by omega) (by omega) (by omega) (by omega) (by omega) (by omega) (by omega) (by omega) (by omega))
  have e0:((c:Int)==40)=false:=by simp;omega
  have e1:((c:Int)==41)=false:=by simp;omega
  have e2:((c:Int)==60)=false:=by simp;omega
  have e3:((c:Int)==62)=false:=by simp;omega
  have e4:((c:Int)==91)=false:=by simp;omega
  have e5:((c:Int)==93)=false:=by simp;omega
  have e6:((c:Int)==123)=false:=by simp;omega
  have e7:((c:Int)==125)=false:=by simp;omega
  have e8:((c:Int)==47)=false:=by simp;omega
  have e9:((c:Int)==37)=false:=by simp;omega
  clear h
  go_enter Tryz.func173,Tryz.ntmps173
  go_wp2_with fail
  go_ret
  exact⟨by rw [HS.out];rfl,rfl⟩
def hexV (c:Nat):Nat:=(hexD c).getD 0
theorem hexV_lt (c:Nat):hexV c<16:=by
 unfold hexV
 cases h:hexD c with
 |none=>decide
 |some d=>exact hexD_lt h
theorem pdigit_any (c:Nat) (hc:c<256) (w:World):Calls Tryz.prog 208 #[.int .u8 (c:Nat)] w fun e w'=>e=.returned (.tuple #[.int .u8 (hexV c:Nat),.bool (hexD c).isSome])/\w=w':=by
 by_cases h1:48<=c/\c<=57
 ·have HE:=kf (show hexD c=some (c-48) from by unfold hexD;rw [if_pos h1])
  have HV:=kf (show(hexV c:Int)=(c:Int)-48 from by unfold hexV;rw [HE.out];simp only [Option.getD_some];omega)
  obtain⟨a,b⟩:=h1
  have d1:IntKind.u8.wrap ((c:Int)-48)=(c:Int)-48:=by rw [IntKind.wrap_u8];omega
  go_enter Tryz.func208,Tryz.ntmps208
  go_wp2_with fail
  go_ret2
  exact⟨by rw [HE.out,HV.out];rfl,rfl⟩
 by_cases h2:97<=c/\c<=102
 ·have HE:=kf (show hexD c=some (c-87) from by unfold hexD;rw [if_neg h1,if_pos h2])
  have HV:=kf (show(hexV c:Int)=(c:Int)-97+10 from by unfold hexV;rw [HE.out];simp only [Option.getD_some];omega)
  have g1:¬c<=57:=by omega
  have d1:IntKind.u8.wrap ((c:Int)-97)=(c:Int)-97:=by rw [IntKind.wrap_u8];omega
  have d2:IntKind.u8.wrap ((c:Int)-97+10)=(c:Int)-97+10:=by rw [IntKind.wrap_u8];omega
  obtain⟨a,b⟩:=h2
  clear h1
  go_enter Tryz.func208,Tryz.ntmps208
  go_wp2_with fail
  go_ret2
  exact⟨by rw [HE.out,HV.out];rfl,rfl⟩
 by_cases h3:65<=c/\c<=70
 ·have HE:=kf (show hexD c=some (c-55) from by unfold hexD;rw [if_neg h1,if_neg h2,if_pos h3])
  have HV:=kf (show(hexV c:Int)=(c:Int)-65+10 from by unfold hexV;rw [HE.out];simp only [Option.getD_some];omega)
  have g1:¬c<=57:=by omega
  have g2:¬97<=c:=by omega
  have d1:IntKind.u8.wrap ((c:Int)-65)=(c:Int)-65:=by rw [IntKind.wrap_u8];omega
  have d2:IntKind.u8.wrap ((c:Int)-65+10)=(c:Int)-65+10:=by rw [IntKind.wrap_u8];omega
  obtain⟨a,b⟩:=h3
  clear h1 h2
  go_enter Tryz.func208,Tryz.ntmps208
  go_wp2_with fail
  go_ret2
  exact⟨by rw [HE.out,HV.out];rfl,rfl⟩
 ·have HE:=kf (show hexD c=none from by unfold hexD;rw [if_neg h1,if_neg h2,if_neg h3])
  have HV:=kf (show hexV c=0 from by unfold hexV;rw [HE.out];rfl)
  have m1:(decide ((48:Int)<=c)&&decide ((c:Int)<=57))=false:=by simp;omega
  have m2:(decide ((97:Int)<=c)&&decide ((c:Int)<=102))=false:=by simp;omega
  have m3:(decide ((65:Int)<=c)&&decide ((c:Int)<=70))=false:=by simp;omega
  go_enter Tryz.func208,Tryz.ntmps208
  by_cases k1:48<=c
  ·have k2:¬c<=57:=by omega
   by_cases k3:97<=c
   ·have k4:¬c<=102:=by omega
    have k5:65<=c:=by omega
    have k6:¬c<=70:=by omega
    clear h1 h2 h3 m1 m2 m3
    go_wp2_with fail
    go_ret2
    exact⟨by rw [HE.out,HV.out];rfl,rfl⟩
   ·by_cases k5:65<=c
    ·have k6:¬c<=70:=by omega
     clear h1 h2 h3 m1 m2 m3
     go_wp2_with fail
     go_ret2
     exact⟨by rw [HE.out,HV.out];rfl,rfl⟩
    ·clear h1 h2 h3 m1 m2 m3
     go_wp2_with fail
     go_ret2
     exact⟨by rw [HE.out,HV.out];rfl,rfl⟩
  ·have k3:¬97<=c:=by omega
   have k5:¬65<=c:=by omega
   clear h1 h2 h3 m1 m2 m3
   go_wp2_with fail
   go_ret2
   exact⟨by rw [HE.out,HV.out];rfl,rfl⟩
def mnt (c:Nat):Nat:=if c=110 then 10 else if c=114 then 13 else if c=116 then 9 else if c=98 then 8 else if c=102 then 12 else c
theorem mnt_lt {c:Nat} (h:c<256):mnt c<256:=by
 unfold mnt
 repeat' split
 all_goals omega
theorem pmeant_any (c:Nat) (w:World):Calls Tryz.prog 207 #[.int .u8 (c:Nat)] w fun e w'=>e=.returned (.int .u8 (mnt c:Nat))/\w=w':=by
 by_cases h:c=110\/c=114\/c=116\/c=98\/c=102
 ·rcases h with rfl|rfl|rfl|rfl|rfl
  all_goals
   go_enter Tryz.func207,Tryz.ntmps207
   go_wp2_with fail
   go_ret
   exact⟨rfl,rfl⟩
 ·have HE:=kf (show mnt c=c from by unfold mnt;rw [if_neg (by omega),if_neg (by omega),if_neg (by omega),if_neg (by omega),if_neg (by omega)])
  have e0:((c:Int)==110)=false:=by simp;omega
  have e1:((c:Int)==114)=false:=by simp;omega
  have e2:((c:Int)==116)=false:=by simp;omega
  have e3:((c:Int)==98)=false:=by simp;omega
  have e4:((c:Int)==102)=false:=by simp;omega
  clear h
  go_enter Tryz.func207,Tryz.ntmps207
  go_wp2_with fail
  go_ret
  exact⟨by rw [HE.out];rfl,rfl⟩
set_option maxHeartbeats 1000000 in
theorem ptake_end {V w W:World} {A:Option Addr} {n c R:Nat} {last:Bool} {out:List Nat} (h:RD V w W A n c last R n out) :
  Calls Tryz.prog 181 #[.pointer (some ⟨R,0,none⟩)] W fun e W'=>e=.returned (.tuple #[.int .u8 0,.bool false])/\RD V w W' A n c last R n out:=by
 obtain⟨c2,c3,c4,f3⟩:=h.cells
 have H:=kf h
 clear h
 go_enter Tryz.func181,Tryz.ntmps181
 go_upto_region 1 with fail
 go_quiet (fail)
 go_wp2_with fail
 go_ret2
 exact⟨rfl,H.out.drewN _⟩
set_option maxHeartbeats 1000000 in
theorem ptake_at {V w W:World} {A:Option Addr} {bs:List Nat} {c R p x:Nat} {last:Bool} {out:List Nat} (h:RD V w W A bs.length c last R p out) (hS:Src w 1 A bs.length c (lcells bs)) (hl:bs.length<=1000000) (hc:bs.length<=c) (hx:bs[p]?=some x) :
  Calls Tryz.prog 181 #[.pointer (some ⟨R,0,none⟩)] W fun e W'=>e=.returned (.tuple #[.int .u8 (x:Nat),.bool true])/\RD V w W' A bs.length c last R (p+1) out:=by
 have hp:p<bs.length:=(List.getElem?_eq_some_iff.1 hx).1
 obtain⟨c2,c3,c4,f3⟩:=h.cells
 have hR:=h.new
 obtain⟨b,off,rfl,hcell⟩:=lcell hS h.chg (by omega)
 have c0:=hcell p x hx
 have hbR:b≠R:=by
  have h0:=(lcell hS (Chg.refl NoS w) (by omega))
  obtain⟨b',off',e,hc'⟩:=h0
  cases e
  have:=cell_lt (hc' p x hx)
  simp only at this
  omega
 have H:=kf h
 obtain⟨n,hn⟩:∃ n,bs.length=n:=⟨_,rfl⟩
 rw [hn] at c2 hp hl hc H ⊢
 clear h hS hx hcell hn
 have e1:((p:Int)==n)=false:=by simp;omega
 have e2:(p==n)=false:=by simp;omega
 have i1:((p:Int)+1-1)=p:=by omega
 have i2:((p:Int)+1).toNat=p+1:=by omega
 go_enter Tryz.func181,Tryz.ntmps181
 go_upto_region 1 with fail
 go_quiet (fail)
 go_upto_region 4 with fail
 go_quiet (fail)
 go_wp2_with fail
 go_ret2
 exact⟨rfl,((H.out.drewN _).at_ _).drewN _⟩
set_option maxHeartbeats 1000000 in
theorem ppass_end {V w W:World} {A:Option Addr} {n c R:Nat} {last:Bool} {out:List Nat} (h:RD V w W A n c last R n out) (y:Nat) :
  Calls Tryz.prog 185 #[.pointer (some ⟨R,0,none⟩),.int .u8 (y:Nat)] W fun e W'=>e=.returned (.bool false)/\RD V w W' A n c last R n out:=by
 obtain⟨c2,c3,c4,f3⟩:=h.cells
 have H:=kf h
 clear h
 go_enter Tryz.func185,Tryz.ntmps185
 go_upto_region 1 with fail
 go_quiet (fail)
 go_wp2_with fail
 go_ret
 exact⟨rfl,H.out.drewN _⟩
set_option maxHeartbeats 1000000 in
theorem ppass_no {V w W:World} {A:Option Addr} {bs:List Nat} {c R p x:Nat} {last:Bool} {out:List Nat} (h:RD V w W A bs.length c last R p out) (hS:Src w 1 A bs.length c (lcells bs)) (hl:bs.length<=1000000) (hc:bs.length<=c) (hx:bs[p]?=some x) (y:Nat) (hy:x≠y) :
  Calls Tryz.prog 185 #[.pointer (some ⟨R,0,none⟩),.int .u8 (y:Nat)] W fun e W'=>e=.returned (.bool false)/\RD V w W' A bs.length c last R p out:=by
 have hp:p<bs.length:=(List.getElem?_eq_some_iff.1 hx).1
 obtain⟨c2,c3,c4,f3⟩:=h.cells
 have hR:=h.new
 obtain⟨b,off,rfl,hcell⟩:=lcell hS h.chg (by omega)
 have c0:=hcell p x hx
 have hbR:b≠R:=by
  have h0:=(lcell hS (Chg.refl NoS w) (by omega))
  obtain⟨b',off',e,hc'⟩:=h0
  cases e
  have:=cell_lt (hc' p x hx)
  simp only at this
  omega
 have H:=kf h
 obtain⟨n,hn⟩:∃ n,bs.length=n:=⟨_,rfl⟩
 rw [hn] at c2 hp hl hc H ⊢
 clear h hS hx hcell hn
 have e1:((p:Int)==n)=false:=by simp;omega
 have e2:(p==n)=false:=by simp;omega
 have e3:((x:Int) != y)=true:=by simp;omega
 have e4:(x != y)=true:=by simp;omega
 go_enter Tryz.func185,Tryz.ntmps185
 go_upto_region 1 with fail
 go_quiet (fail)
 go_wp2_with fail
 go_ret
 exact⟨rfl,H.out.drewN _⟩
set_option maxHeartbeats 1000000 in
theorem ppass_at {V w W:World} {A:Option Addr} {bs:List Nat} {c R p x:Nat} {last:Bool} {out:List Nat} (h:RD V w W A bs.length c last R p out) (hS:Src w 1 A bs.length c (lcells bs)) (hl:bs.length<=1000000) (hc:bs.length<=c) (hx:bs[p]?=some x) :
  Calls Tryz.prog 185 #[.pointer (some ⟨R,0,none⟩),.int .u8 (x:Nat)] W fun e W'=>e=.returned (.bool true)/\RD V w W' A bs.length c last R (p+1) out:=by
 have hp:p<bs.length:=(List.getElem?_eq_some_iff.1 hx).1
 obtain⟨c2,c3,c4,f3⟩:=h.cells
 have hR:=h.new
 obtain⟨b,off,rfl,hcell⟩:=lcell hS h.chg (by omega)
 have c0:=hcell p x hx
 have hbR:b≠R:=by
  have h0:=(lcell hS (Chg.refl NoS w) (by omega))
  obtain⟨b',off',e,hc'⟩:=h0
  cases e
  have:=cell_lt (hc' p x hx)
  simp only at this
  omega
 have H:=kf h
 obtain⟨n,hn⟩:∃ n,bs.length=n:=⟨_,rfl⟩
 rw [hn] at c2 hp hl hc H ⊢
 clear h hS hx hcell hn
 have e1:((p:Int)==n)=false:=by simp;omega
 have e2:(p==n)=false:=by simp;omega
 go_enter Tryz.func185,Tryz.ntmps185
 go_upto_region 1 with fail
 go_quiet (fail)
 go_wp2_with fail
 go_ret
 exact⟨rfl,(H.out.drewN _).at_ _⟩
theorem pcut_any {V w W:World} {A:Option Addr} {n c R p:Nat} {last:Bool} {out:List Nat} (h:RD V w W A n c last R p out) (er:Int) :
  Calls Tryz.prog 182 #[.pointer (some ⟨R,0,none⟩),.int .i64 er] W fun e W'=>e=.returned (.int .i64 (if last then er else 6))/\W=W':=by
 obtain⟨c2,c3,c4,f3⟩:=h.cells
 clear h
 cases last
 all_goals
  go_enter Tryz.func182,Tryz.ntmps182
  go_wp2_with fail
  go_ret
  exact⟨rfl,rfl⟩
set_option maxHeartbeats 1000000 in
theorem pbuilt_any {V w W:World} {A:Option Addr} {n c R p:Nat} {last:Bool} {out:List Nat} (h:RD V w W A n c last R p out) (hb:∀ d∈out,d<256) (hl:out.length<=1000000) (k:Nat) :
  Calls Tryz.prog 205 #[.pointer (some ⟨R,0,none⟩),.int .i64 (k:Nat)] W fun e W'=>e=.returned (.tuple #[.agg #[.int .i64 (k:Nat),.int .i64 0,.string (sb out),.slice none 0 0],.int .i64 0])/\RE V w W' R p:=by
 have HST:=kf (fun(X:World) (hX:Chg NoS W X)=>pstring_any (h.call hX).here hb hl)
 obtain⟨s,hs⟩:∃ s,sb out=s:=⟨_,rfl⟩
 rw [hs] at HST ⊢
 have hR:=h.lt
 have HKB:=kf (h.kb)
 have hwg:=h.chg.size
 clear hs h hb hl
 go_enter Tryz.func205,Tryz.ntmps205
 go_upto_region 1 with fail
 have HNEW:=kf (Blk.new W 25 #[.int .i64 0,.int .i64 0,.string ⟨#[]⟩,.slice none 0 0])
 have HCH:=kf ((Chg.refl NoS W).alloc (.cells #[.int .i64 0,.int .i64 0,.string ⟨#[]⟩,.slice none 0 0] 25))
 obtain⟨W1,hW1⟩:∃ W1,W1=W.alloc (.cells #[.int .i64 0,.int .i64 0,.string ⟨#[]⟩,.slice none 0 0] 25):=⟨_,rfl⟩
 rw [<- hW1] at HNEW HCH ⊢
 clear hW1
 obtain⟨g,hg⟩:∃ g,g=W.heap.size:=⟨_,rfl⟩
 rw [<- hg] at HNEW ⊢
 have hgR:g≠R:=by omega
 have HG:=kf hg
 clear hg
 go_upto_region 2 with(go_at_call 99;refine(HST.out _ HCH.out).mono ?_;rintro e w3 ⟨rfl,hre⟩;have hcl:=(hre.kb _ _ _ hgR (by decide) HNEW.out).cl4;obtain⟨r0,r1,r2,r3,z0,z1,z2,z3⟩:=hcl;have HRE:=kf hre;clear hre)
 go_wp2_with fail
 refine bodyPost_ret (v:=.tuple #[.agg #[.int .i64 (k:Nat),.int .i64 0,.string s,.slice none 0 0],.int .i64 0]) (by simp [results,Tryz.results205,go_sem,r0,r1,r2,r3]) rfl ?_
 have h8:=HG.out
 exact⟨rfl,((HRE.out.back (KB.chg HCH.out)).set4 hgR (by omega) (by omega) _ _ _ _).back HKB.out⟩
def numStr:ByteArray:=⟨#[48,49,50,51,52,53,54,55,56,57,43,45,46]⟩
theorem enc_val (x:Nat) (h2:x<256):Utf8.valid (x:Int)=true:=by
 have h1:(x:Int)<55296:=by omega
 have h0:(0:Int)<=x:=by omega
 unfold Utf8.valid
 have e1:decide ((0:Int)<=x)=true:=decide_eq_true h0
 have e2:decide ((x:Int)<55296)=true:=decide_eq_true h1
 simp [e1,e2,h0,h1]
 try omega
theorem enc_eq (x:Nat) (h:128<=x) (h2:x<256):Utf8.encode (x:Int)=⟨#[UInt8.ofNat (192+x / 64),UInt8.ofNat (128+x%64)]⟩:=by
 have hc:¬(x:Int).toNat<128:=by omega
 have hd:(x:Int).toNat<2048:=by omega
 unfold Utf8.encode
 simp only [enc_val x h2,if_true,hc,hd,if_false]
 rfl
theorem enc_two (x:Nat) (h:128<=x) (h2:x<256):∃ (t:ByteArray) (y:Nat),Utf8.encode (x:Int)=t/\t.size=2/\128<=y/\y<256/\∀ k:1<t.size,(t[1]'k).toNat=y:=by
 refine⟨_,128+x%64,enc_eq x h h2,rfl,by omega,by omega,fun k=>?_⟩
 show(UInt8.ofNat (128+x%64)).toNat=_
 simp
 omega
theorem idx_none (l:List UInt8) (y:Nat) (hy:128<=y) (hy2:y<256) (h:∀ b∈l,b.toNat<128):Lib.indexByte l (y:Int).toNat.toUInt8=-1:=by
 induction l with
 |nil=>rfl
 |cons x l ih =>
  have hx:=h x (List.mem_cons_self ..)
  have h3:(x==(y:Int).toNat.toUInt8)=false:=by
   rw [beq_eq_false_iff_ne]
   rintro rfl
   simp at hx
   omega
  rw [Lib.indexByte]
  rw [ih (fun b hb=>h b (List.mem_cons_of_mem _ hb))]
  have h4:¬x=UInt8.ofNat y:=by simpa using h3
  simp [h3,h4]
set_option maxRecDepth 100000 in
theorem num_ascii:∀ x:Fin 128,decide (0<=Lib.indexByte numStr.data.toList ((x.val:Int).toNat.toUInt8))=isNm x.val:=by decide
set_option maxHeartbeats 2000000 in
set_option maxRecDepth 100000 in
theorem idxrune_gen (s s2:ByteArray) (n:Nat) (hs:s.size=n) (hn:2<n) (hn2:n<=1000) (hs1:∀ k:1<s.size,(s[1]'k).toNat=49) (hs2:s.extract 2 n=s2) (hs3:∀ b∈s2.data.toList,b.toNat<128) (x:Nat) (h:128<=x) (h2:x<256) (w:World):Calls Tryz.prog 228 #[.string s,.int .i32 (x:Nat)] w fun e w'=>e=.returned (.int .i64 (-1))/\Chg NoS w w':=by
 obtain⟨t,y,ht,hsz,hy1,hy2,g1⟩:=enc_two x h h2
 have hcv:∀ W,(convert 21 9 (.int .i32 (x:Nat))).run Tryz.prog W=.ok (.string t) W:=fun W=>by
  rw [<- ht]
  exact run_convert_int_string W _ _ _ _ (by kernel_rfl) Tryz.underlying9
 clear ht
 have HVR:=kf (fun W=>Tryz.utf8_ValidRune (x:Int) W)
 rw [show Lib.validRune (x:Int)=true from by unfold Lib.validRune;simp;omega] at HVR
 have HIB:=kf (fun W=>(show Calls Tryz.prog 235 #[.string s2,.int .u8 (y:Nat)] W fun e w'=>e=.returned (.int .i64 (-1))/\W=w' from by
  have:=Tryz.strings_IndexByte s2 (y:Int) W
  rw [idx_none _ y hy1 hy2 hs3] at this
  exact this.mono fun _ _ ⟨he,hm⟩=>⟨he,hm.symm⟩))
 have e1:((49:Int) != (y:Int))=true:=by simp;omega
 have e2:(49 != y)=true:=by simp;omega
 have d1:decide ((x:Int)<128)=false:=by simp;omega
 have d2:((x:Int)==65533)=false:=by simp;omega
 have i1:(2:Int)<=n:=by omega
 have i2:(1:Int)<n:=by omega
 have hw2:IntKind.i64.wrap 2=2:=by decide
 have HHS:=kf hs3
 clear hs3
 go_enter Tryz.func228,Tryz.ntmps228
 go_wp2_with (go_at_call 236;refine(HVR.out _).mono ?_;rintro e w2 ⟨rfl,hw⟩;rw [hw];clear hw)
 go_step3
 go_upto_region 5 with fail
 go_loopw [9] (fun vi wr=>vi=.int .i64 1/\wr=w) (fun _ _=>0)
 case atStart=>exact⟨rfl,rfl⟩
 case round =>
  obtain⟨rfl,rfl⟩:=hrel
  go_upto_region 6 with fail
  (try go_step3)
  go_upto_region 6 with fail
  go_quiet (fail)
  go_upto_region 7 with fail
  go_quiet ((go_at_call 235;first|exact quiet_left_add (HIB.out _)|exact quiet_left (HIB.out _)))
  go_wp2_with fail
  simp only [Exit.noGoto_ret,Exit.inBlock]
  change bodyPost Tryz.prog _ (fun e w2=>e=.returned (.int .i64 (-1))/\Chg NoS wr w2) Exit.ret _ _
  go_ret
  exact⟨rfl,(Chg.refl _ _).drewN _⟩
set_option maxHeartbeats 2000000 in
set_option maxRecDepth 100000 in
theorem crune_any (x:Nat) (h2:x<256) (w:World):Calls Tryz.prog 212 #[.string ⟨#[48,49,50,51,52,53,54,55,56,57,43,45,46]⟩,.int .i32 (x:Nat)] w fun e w'=>e=.returned (.bool (isNm x))/\Chg NoS w w':=by
 by_cases h:x<128
 ·have H:=Tryz.strings_ContainsRune_ascii numStr (x:Int) w (by omega) (by omega)
  rw [num_ascii ⟨x,h⟩] at H
  exact H.mono fun _ _ ⟨he,hm⟩=>⟨he,by rw [hm];exact Chg.refl _ _⟩
 ·have HI:=kf (fun W=>idxrune_gen ⟨#[48,49,50,51,52,53,54,55,56,57,43,45,46]⟩ ⟨#[50,51,52,53,54,55,56,57,43,45,46]⟩ 13 rfl (by decide) (by decide) (fun _=>rfl) (by decide) (by decide) x (by omega) h2 W)
  have HN:=kf (show isNm x=false from by simp [isNm];omega)
  obtain⟨s,hs⟩:∃ s,(⟨#[48,49,50,51,52,53,54,55,56,57,43,45,46]⟩:ByteArray)=s:=⟨_,rfl⟩
  rw [hs] at HI ⊢
  clear hs
  go_enter Tryz.func212,Tryz.ntmps212
  go_wp2_with (go_at_call 228;refine(HI.out _).mono ?_;rintro e w2 ⟨rfl,hc2⟩;have HC2:=kf hc2;clear hc2)
  go_ret
  exact⟨by rw [HN.out];rfl,HC2.out⟩
end Go.Proofs.YthejpkflcgjdoaaGreatDoor
