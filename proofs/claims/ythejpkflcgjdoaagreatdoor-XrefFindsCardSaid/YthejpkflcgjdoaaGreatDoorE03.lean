/- Merged by program. -/
import Derived.Test.YthejpkflcgjdoaaGreatDoorE01
import Derived.Shelf.Strings.Builder1
import Derived.Shelf.Strings.Builder2
import Derived.Shelf.Strings.Trim
import Derived.Shelf.Small.Utf8
import Derived.Shelf.Small.Strs
import Derived.Shelf.Small.Wraps
import Derived.Shelf.Strings.BuilderF
import Derived.Shelf.Strconv.Itoa0
import Derived.Shelf.Strconv.Itoa1
import Derived.Shelf.LaysM
import Derived.Shelf.Strconv.Itoa2
import Derived.Shelf.Strconv.Itoa3
import Derived.Shelf.Bytes.GrowSliceCatch
import Derived.Shelf.Bytes.GrowSlice
import Derived.Shelf.Strings.Search1
import Derived.Shelf.Strings.Search2
import Derived.Shelf.Strings.Search3
import Derived.Shelf.Strings.Cut
import Derived.Shelf.Strings.Shaped
import Derived.Shelf.Bytes.LenAt
import Derived.Shelf.Bytes.TryGrowAt
import Derived.Shelf.GgClosure.StringsIndexFunc
import Derived.Ground.GgwProg
import Derived.Shelf.GgClosure.StringsIndexFuncTop
import Derived.Shelf.Strings.Prefix
import Derived.Shelf.Strings.Runes
import Derived.Shelf.Strings.AsciiSet
import Derived.Shelf.Bits.Mul64
import Derived.Shelf.Strings.Repeat
import Derived.Shelf.Unicode.DecodeSlow
import Derived.Shelf.Unicode.DecodeAny
import Derived.Shelf.Unicode.DecodeLast
import Derived.Shelf.Strings.FuncGrows
import Derived.Laws.Runes
set_option linter.unusedVariables false
set_option linter.unusedSimpArgs false
namespace Go.Proofs.YthejpkflcgjdoaaGreatDoor
open Go.RowKit
theorem pspace_any (c:Nat) (w:World):Calls Tryz.prog 151 #[.int .u8 (c:Nat)] w fun e w'=>e=.returned (.bool (isSp c))/\w=w':=by
 by_cases h:c=0\/c=9\/c=10\/c=12\/c=13\/c=32
 ·rcases h with rfl|rfl|rfl|rfl|rfl|rfl
  all_goals
   go_enter Tryz.func151,Tryz.ntmps151
   go_wp2_with fail
   go_ret
   exact⟨rfl,rfl⟩
 ·have HS:=kf (isSp_no (c:=c) (by omega) (by omega) (by omega) (by omega) (by omega) (by omega))
  have e0:((c:Int)==0)=false:=by simp;omega
  have e1:((c:Int)==9)=false:=by simp;omega
  have e2:((c:Int)==10)=false:=by simp;omega
  have e3:((c:Int)==12)=false:=by simp;omega
  have e4:((c:Int)==13)=false:=by simp;omega
  have e5:((c:Int)==32)=false:=by simp;omega
  clear h
  go_enter Tryz.func151,Tryz.ntmps151
  go_wp2_with fail
  go_ret
  exact⟨by rw [HS.out];rfl,rfl⟩
theorem pdelim_any (c:Nat) (w:World):Calls Tryz.prog 173 #[.int .u8 (c:Nat)] w fun e w'=>e=.returned (.bool (isDl c))/\w=w':=by
 by_cases h:c=40\/c=41\/c=60\/c=62\/c=91\/c=93\/c=123\/c=125\/c=47\/c=37
 ·rcases h with rfl|rfl|rfl|rfl|rfl|rfl|rfl|rfl|rfl|rfl
  all_goals
   go_enter Tryz.func173,Tryz.ntmps173
   go_wp2_with fail
   go_ret
   exact⟨rfl,rfl⟩
 ·have HS:=kf (isDl_no (c:=c) (by omega) (by omega) (by omega) (by omega) (by omega) (by omega) (by omega) (by omega) (by omega) (by omega))
  have e0:((c:Int)==40)=false:=by simp;omega
  have e1:((c:Int)==41)=false:=by simp;omega
  have e2:((c:Int)==60)=false:=by simp;omega
  have e3:((c:Int)==62)=false:=by simp;omega
  have e4:((c:Int)==91)=false:=by simp;omega
  have e5:((c:Int)==93)=false:=by simp;omega
  have e6:((c:Int)==123)=false:=by simp;omega
  have e7:((c:Int)==125)=false:=by simp;omega
  have e8:((c:Int)==47)=false:=by simp;omega
  have e9:((c:Int)==37)=false:=by simp;omega
  clear h
  go_enter Tryz.func173,Tryz.ntmps173
  go_wp2_with fail
  go_ret
  exact⟨by rw [HS.out];rfl,rfl⟩
def hexV (c:Nat):Nat:=(hexD c).getD 0
theorem hexV_lt (c:Nat):hexV c<16:=by
 unfold hexV
 cases h:hexD c with
 |none=>decide
 |some d=>exact hexD_lt h
theorem pdigit_any (c:Nat) (hc:c<256) (w:World):Calls Tryz.prog 208 #[.int .u8 (c:Nat)] w fun e w'=>e=.returned (.tuple #[.int .u8 (hexV c:Nat),.bool (hexD c).isSome])/\w=w':=by
 by_cases h1:48<=c/\c<=57
 ·have HE:=kf (show hexD c=some (c-48) from by unfold hexD;rw [if_pos h1])
  have HV:=kf (show(hexV c:Int)=(c:Int)-48 from by unfold hexV;rw [HE.out];simp only [Option.getD_some];omega)
  obtain⟨a,b⟩:=h1
  have d1:IntKind.u8.wrap ((c:Int)-48)=(c:Int)-48:=by rw [IntKind.wrap_u8];omega
  go_enter Tryz.func208,Tryz.ntmps208
  go_wp2_with fail
  go_ret2
  exact⟨by rw [HE.out,HV.out];rfl,rfl⟩
 by_cases h2:97<=c/\c<=102
 ·have HE:=kf (show hexD c=some (c-87) from by unfold hexD;rw [if_neg h1,if_pos h2])
  have HV:=kf (show(hexV c:Int)=(c:Int)-97+10 from by unfold hexV;rw [HE.out];simp only [Option.getD_some];omega)
  have g1:¬c<=57:=by omega
  have d1:IntKind.u8.wrap ((c:Int)-97)=(c:Int)-97:=by rw [IntKind.wrap_u8];omega
  have d2:IntKind.u8.wrap ((c:Int)-97+10)=(c:Int)-97+10:=by rw [IntKind.wrap_u8];omega
  obtain⟨a,b⟩:=h2
  clear h1
  go_enter Tryz.func208,Tryz.ntmps208
  go_wp2_with fail
  go_ret2
  exact⟨by rw [HE.out,HV.out];rfl,rfl⟩
 by_cases h3:65<=c/\c<=70
 ·have HE:=kf (show hexD c=some (c-55) from by unfold hexD;rw [if_neg h1,if_neg h2,if_pos h3])
  have HV:=kf (show(hexV c:Int)=(c:Int)-65+10 from by unfold hexV;rw [HE.out];simp only [Option.getD_some];omega)
  have g1:¬c<=57:=by omega
  have g2:¬97<=c:=by omega
  have d1:IntKind.u8.wrap ((c:Int)-65)=(c:Int)-65:=by rw [IntKind.wrap_u8];omega
  have d2:IntKind.u8.wrap ((c:Int)-65+10)=(c:Int)-65+10:=by rw [IntKind.wrap_u8];omega
  obtain⟨a,b⟩:=h3
  clear h1 h2
  go_enter Tryz.func208,Tryz.ntmps208
  go_wp2_with fail
  go_ret2
  exact⟨by rw [HE.out,HV.out];rfl,rfl⟩
 ·have HE:=kf (show hexD c=none from by unfold hexD;rw [if_neg h1,if_neg h2,if_neg h3])
  have HV:=kf (show hexV c=0 from by unfold hexV;rw [HE.out];rfl)
  have m1:(decide ((48:Int)<=c)&&decide ((c:Int)<=57))=false:=by simp;omega
  have m2:(decide ((97:Int)<=c)&&decide ((c:Int)<=102))=false:=by simp;omega
  have m3:(decide ((65:Int)<=c)&&decide ((c:Int)<=70))=false:=by simp;omega
  go_enter Tryz.func208,Tryz.ntmps208
  by_cases k1:48<=c
  ·have k2:¬c<=57:=by omega
   by_cases k3:97<=c
   ·have k4:¬c<=102:=by omega
    have k5:65<=c:=by omega
    have k6:¬c<=70:=by omega
    clear h1 h2 h3 m1 m2 m3
    go_wp2_with fail
    go_ret2
    exact⟨by rw [HE.out,HV.out];rfl,rfl⟩
   ·by_cases k5:65<=c
    ·have k6:¬c<=70:=by omega
     clear h1 h2 h3 m1 m2 m3
     go_wp2_with fail
     go_ret2
     exact⟨by rw [HE.out,HV.out];rfl,rfl⟩
    ·clear h1 h2 h3 m1 m2 m3
     go_wp2_with fail
     go_ret2
     exact⟨by rw [HE.out,HV.out];rfl,rfl⟩
  ·have k3:¬97<=c:=by omega
   have k5:¬65<=c:=by omega
   clear h1 h2 h3 m1 m2 m3
   go_wp2_with fail
   go_ret2
   exact⟨by rw [HE.out,HV.out];rfl,rfl⟩
def mnt (c:Nat):Nat:=if c=110 then 10 else if c=114 then 13 else if c=116 then 9 else if c=98 then 8 else if c=102 then 12 else c
theorem mnt_lt {c:Nat} (h:c<256):mnt c<256:=by
 unfold mnt
 repeat' split
 all_goals omega
theorem pmeant_any (c:Nat) (w:World):Calls Tryz.prog 207 #[.int .u8 (c:Nat)] w fun e w'=>e=.returned (.int .u8 (mnt c:Nat))/\w=w':=by
 by_cases h:c=110\/c=114\/c=116\/c=98\/c=102
 ·rcases h with rfl|rfl|rfl|rfl|rfl
  all_goals
   go_enter Tryz.func207,Tryz.ntmps207
   go_wp2_with fail
   go_ret
   exact⟨rfl,rfl⟩
 ·have HE:=kf (show mnt c=c from by unfold mnt;rw [if_neg (by omega),if_neg (by omega),if_neg (by omega),if_neg (by omega),if_neg (by omega)])
  have e0:((c:Int)==110)=false:=by simp;omega
  have e1:((c:Int)==114)=false:=by simp;omega
  have e2:((c:Int)==116)=false:=by simp;omega
  have e3:((c:Int)==98)=false:=by simp;omega
  have e4:((c:Int)==102)=false:=by simp;omega
  clear h
  go_enter Tryz.func207,Tryz.ntmps207
  go_wp2_with fail
  go_ret
  exact⟨by rw [HE.out];rfl,rfl⟩
set_option maxHeartbeats 1000000 in
theorem ptake_end {V w W:World} {A:Option Addr} {n c R:Nat} {last:Bool} {out:List Nat} (h:RD V w W A n c last R n out) :
  Calls Tryz.prog 181 #[.pointer (some ⟨R,0,none⟩)] W fun e W'=>e=.returned (.tuple #[.int .u8 0,.bool false])/\RD V w W' A n c last R n out:=by
 obtain⟨c2,c3,c4,f3⟩:=h.cells
 have H:=kf h
 clear h
 go_enter Tryz.func181,Tryz.ntmps181
 go_upto_region 1 with fail
 go_quiet (fail)
 go_wp2_with fail
 go_ret2
 exact⟨rfl,H.out.drewN _⟩
set_option maxHeartbeats 1000000 in
theorem ptake_at {V w W:World} {A:Option Addr} {bs:List Nat} {c R p x:Nat} {last:Bool} {out:List Nat} (h:RD V w W A bs.length c last R p out) (hS:Src w 1 A bs.length c (lcells bs)) (hl:bs.length<=1000000) (hc:bs.length<=c) (hx:bs[p]?=some x) :
  Calls Tryz.prog 181 #[.pointer (some ⟨R,0,none⟩)] W fun e W'=>e=.returned (.tuple #[.int .u8 (x:Nat),.bool true])/\RD V w W' A bs.length c last R (p+1) out:=by
 have hp:p<bs.length:=(List.getElem?_eq_some_iff.1 hx).1
 obtain⟨c2,c3,c4,f3⟩:=h.cells
 have hR:=h.new
 obtain⟨b,off,rfl,hcell⟩:=lcell hS h.chg (by omega)
 have c0:=hcell p x hx
 have hbR:b≠R:=by
  have h0:=(lcell hS (Chg.refl NoS w) (by omega))
  obtain⟨b',off',e,hc'⟩:=h0
  cases e
  have:=cell_lt (hc' p x hx)
  simp only at this
  omega
 have H:=kf h
 obtain⟨n,hn⟩:∃ n,bs.length=n:=⟨_,rfl⟩
 rw [hn] at c2 hp hl hc H ⊢
 clear h hS hx hcell hn
 have e1:((p:Int)==n)=false:=by simp;omega
 have e2:(p==n)=false:=by simp;omega
 have i1:((p:Int)+1-1)=p:=by omega
 have i2:((p:Int)+1).toNat=p+1:=by omega
 go_enter Tryz.func181,Tryz.ntmps181
 go_upto_region 1 with fail
 go_quiet (fail)
 go_upto_region 4 with fail
 go_quiet (fail)
 go_wp2_with fail
 go_ret2
 exact⟨rfl,((H.out.drewN _).at_ _).drewN _⟩
set_option maxHeartbeats 1000000 in
theorem ppass_end {V w W:World} {A:Option Addr} {n c R:Nat} {last:Bool} {out:List Nat} (h:RD V w W A n c last R n out) (y:Nat) :
  Calls Tryz.prog 185 #[.pointer (some ⟨R,0,none⟩),.int .u8 (y:Nat)] W fun e W'=>e=.returned (.bool false)/\RD V w W' A n c last R n out:=by
 obtain⟨c2,c3,c4,f3⟩:=h.cells
 have H:=kf h
 clear h
 go_enter Tryz.func185,Tryz.ntmps185
 go_upto_region 1 with fail
 go_quiet (fail)
 go_wp2_with fail
 go_ret
 exact⟨rfl,H.out.drewN _⟩
set_option maxHeartbeats 1000000 in
theorem ppass_no {V w W:World} {A:Option Addr} {bs:List Nat} {c R p x:Nat} {last:Bool} {out:List Nat} (h:RD V w W A bs.length c last R p out) (hS:Src w 1 A bs.length c (lcells bs)) (hl:bs.length<=1000000) (hc:bs.length<=c) (hx:bs[p]?=some x) (y:Nat) (hy:x≠y) :
  Calls Tryz.prog 185 #[.pointer (some ⟨R,0,none⟩),.int .u8 (y:Nat)] W fun e W'=>e=.returned (.bool false)/\RD V w W' A bs.length c last R p out:=by
 have hp:p<bs.length:=(List.getElem?_eq_some_iff.1 hx).1
 obtain⟨c2,c3,c4,f3⟩:=h.cells
 have hR:=h.new
 obtain⟨b,off,rfl,hcell⟩:=lcell hS h.chg (by omega)
 have c0:=hcell p x hx
 have hbR:b≠R:=by
  have h0:=(lcell hS (Chg.refl NoS w) (by omega))
  obtain⟨b',off',e,hc'⟩:=h0
  cases e
  have:=cell_lt (hc' p x hx)
  simp only at this
  omega
 have H:=kf h
 obtain⟨n,hn⟩:∃ n,bs.length=n:=⟨_,rfl⟩
 rw [hn] at c2 hp hl hc H ⊢
 clear h hS hx hcell hn
 have e1:((p:Int)==n)=false:=by simp;omega
 have e2:(p==n)=false:=by simp;omega
 have e3:((x:Int) != y)=true:=by simp;omega
 have e4:(x != y)=true:=by simp;omega
 go_enter Tryz.func185,Tryz.ntmps185
 go_upto_region 1 with fail
 go_quiet (fail)
 go_wp2_with fail
 go_ret
 exact⟨rfl,H.out.drewN _⟩
set_option maxHeartbeats 1000000 in
theorem ppass_at {V w W:World} {A:Option Addr} {bs:List Nat} {c R p x:Nat} {last:Bool} {out:List Nat} (h:RD V w W A bs.length c last R p out) (hS:Src w 1 A bs.length c (lcells bs)) (hl:bs.length<=1000000) (hc:bs.length<=c) (hx:bs[p]?=some x) :
  Calls Tryz.prog 185 #[.pointer (some ⟨R,0,none⟩),.int .u8 (x:Nat)] W fun e W'=>e=.returned (.bool true)/\RD V w W' A bs.length c last R (p+1) out:=by
 have hp:p<bs.length:=(List.getElem?_eq_some_iff.1 hx).1
 obtain⟨c2,c3,c4,f3⟩:=h.cells
 have hR:=h.new
 obtain⟨b,off,rfl,hcell⟩:=lcell hS h.chg (by omega)
 have c0:=hcell p x hx
 have hbR:b≠R:=by
  have h0:=(lcell hS (Chg.refl NoS w) (by omega))
  obtain⟨b',off',e,hc'⟩:=h0
  cases e
  have:=cell_lt (hc' p x hx)
  simp only at this
  omega
 have H:=kf h
 obtain⟨n,hn⟩:∃ n,bs.length=n:=⟨_,rfl⟩
 rw [hn] at c2 hp hl hc H ⊢
 clear h hS hx hcell hn
 have e1:((p:Int)==n)=false:=by simp;omega
 have e2:(p==n)=false:=by simp;omega
 go_enter Tryz.func185,Tryz.ntmps185
 go_upto_region 1 with fail
 go_quiet (fail)
 go_wp2_with fail
 go_ret
 exact⟨rfl,(H.out.drewN _).at_ _⟩
theorem pcut_any {V w W:World} {A:Option Addr} {n c R p:Nat} {last:Bool} {out:List Nat} (h:RD V w W A n c last R p out) (er:Int) :
  Calls Tryz.prog 182 #[.pointer (some ⟨R,0,none⟩),.int .i64 er] W fun e W'=>e=.returned (.int .i64 (if last then er else 6))/\W=W':=by
 obtain⟨c2,c3,c4,f3⟩:=h.cells
 clear h
 cases last
 all_goals
  go_enter Tryz.func182,Tryz.ntmps182
  go_wp2_with fail
  go_ret
  exact⟨rfl,rfl⟩
set_option maxHeartbeats 1000000 in
theorem pbuilt_any {V w W:World} {A:Option Addr} {n c R p:Nat} {last:Bool} {out:List Nat} (h:RD V w W A n c last R p out) (hb:∀ d∈out,d<256) (hl:out.length<=1000000) (k:Nat) :
  Calls Tryz.prog 205 #[.pointer (some ⟨R,0,none⟩),.int .i64 (k:Nat)] W fun e W'=>e=.returned (.tuple #[.agg #[.int .i64 (k:Nat),.int .i64 0,.string (sb out),.slice none 0 0],.int .i64 0])/\RE V w W' R p:=by
 have HST:=kf (fun(X:World) (hX:Chg NoS W X)=>pstring_any (h.call hX).here hb hl)
 obtain⟨s,hs⟩:∃ s,sb out=s:=⟨_,rfl⟩
 rw [hs] at HST ⊢
 have hR:=h.lt
 have HKB:=kf (h.kb)
 have hwg:=h.chg.size
 clear hs h hb hl
 go_enter Tryz.func205,Tryz.ntmps205
 go_upto_region 1 with fail
 have HNEW:=kf (Blk.new W 25 #[.int .i64 0,.int .i64 0,.string ⟨#[]⟩,.slice none 0 0])
 have HCH:=kf ((Chg.refl NoS W).alloc (.cells #[.int .i64 0,.int .i64 0,.string ⟨#[]⟩,.slice none 0 0] 25))
 obtain⟨W1,hW1⟩:∃ W1,W1=W.alloc (.cells #[.int .i64 0,.int .i64 0,.string ⟨#[]⟩,.slice none 0 0] 25):=⟨_,rfl⟩
 rw [<- hW1] at HNEW HCH ⊢
 clear hW1
 obtain⟨g,hg⟩:∃ g,g=W.heap.size:=⟨_,rfl⟩
 rw [<- hg] at HNEW ⊢
 have hgR:g≠R:=by omega
 have HG:=kf hg
 clear hg
 go_upto_region 2 with(go_at_call 99;refine(HST.out _ HCH.out).mono ?_;rintro e w3 ⟨rfl,hre⟩;have hcl:=(hre.kb _ _ _ hgR (by decide) HNEW.out).cl4;obtain⟨r0,r1,r2,r3,z0,z1,z2,z3⟩:=hcl;have HRE:=kf hre;clear hre)
 go_wp2_with fail
 refine bodyPost_ret (v:=.tuple #[.agg #[.int .i64 (k:Nat),.int .i64 0,.string s,.slice none 0 0],.int .i64 0]) (by simp [results,Tryz.results205,go_sem,r0,r1,r2,r3]) rfl ?_
 have h8:=HG.out
 exact⟨rfl,((HRE.out.back (KB.chg HCH.out)).set4 hgR (by omega) (by omega) _ _ _ _).back HKB.out⟩
end Go.Proofs.YthejpkflcgjdoaaGreatDoor
namespace Go.Proofs
open Go.Shelf
def Tryz.lays119_ren:Go.Shelf.Ren:=⟨fun|119=>236|n=>n,fun|21=>21|4=>4|n=>n,fun|n=>n⟩
theorem Tryz.lays119:Go.Proofs.Lays.n119 Tryz.prog Tryz.lays119_ren:={
 mixed:=by kernel_rfl
 f119:=Tryz.func236.trans (congrArg some (by kernel_rfl))
 t4:=Tryz.underlying4
 a4:=Tryz.isAgg4
 z4:=Tryz.sizeOf4
 v4:=Tryz.zeroValue4
 t21:=Tryz.underlying21
 a21:=Tryz.isAgg21
 z21:=Tryz.sizeOf21
 v21:=Tryz.zeroValue21 }
theorem Tryz.utf8_ValidRune (r:Int) (w:World) :
  Calls Tryz.prog 236 #[.int .i32 r] w fun e w'=>e=.returned (.bool (Lib.validRune r))/\w'=w:=Any.utf8_ValidRune Tryz.lays119 r w
def Tryz.lays106_ren:Go.Shelf.Ren:=⟨fun|106=>56|213=>94|265=>130|n=>n,fun|9=>9|3=>3|n=>n,fun|n=>n⟩
theorem Tryz.lays106:Go.Proofs.Lays.n106 Tryz.prog Tryz.lays106_ren:={
 mixed:=by kernel_rfl
 f106:=Tryz.func56.trans (congrArg some (by kernel_rfl))
 f213:=Tryz.func94.trans (congrArg some (by kernel_rfl))
 f265:=Tryz.func130.trans (congrArg some (by kernel_rfl))
 t3:=Tryz.underlying3
 a3:=Tryz.isAgg3
 z3:=Tryz.sizeOf3
 v3:=Tryz.zeroValue3
 t9:=Tryz.underlying9
 a9:=Tryz.isAgg9
 z9:=Tryz.sizeOf9
 v9:=Tryz.zeroValue9 }
open Go.RowKit in
theorem Tryz.strings_Compare (a b:ByteArray) (w:World) :
  Calls Tryz.prog 56 #[.string a,.string b] w fun e w'=>e=.returned (.int .i64 (Lib.compareBytes a.data.toList b.data.toList))/\w'=w:=Any.strings_Compare Tryz.lays106 a b w
def Tryz.lays137_ren:Go.Shelf.Ren:=⟨fun|137=>235|217=>201|266=>225|n=>n,fun|9=>9|5=>5|3=>3|n=>n,fun|n=>n⟩
theorem Tryz.lays137:Go.Proofs.Lays.n137 Tryz.prog Tryz.lays137_ren:={
 mixed:=by kernel_rfl
 f137:=Tryz.func235.trans (congrArg some (by kernel_rfl))
 f217:=Tryz.func201.trans (congrArg some (by kernel_rfl))
 f266:=Tryz.func225.trans (congrArg some (by kernel_rfl))
 t3:=Tryz.underlying3
 a3:=Tryz.isAgg3
 z3:=Tryz.sizeOf3
 v3:=Tryz.zeroValue3
 t5:=Tryz.underlying5
 a5:=Tryz.isAgg5
 z5:=Tryz.sizeOf5
 v5:=Tryz.zeroValue5
 t9:=Tryz.underlying9
 a9:=Tryz.isAgg9
 z9:=Tryz.sizeOf9
 v9:=Tryz.zeroValue9 }
open Go.RowKit in
theorem Tryz.strings_IndexByte (s:ByteArray) (c:Int) (w:World) :
  Calls Tryz.prog 235 #[.string s,.int .u8 c] w fun e w'=>e=.returned (.int .i64 (Lib.indexByte s.data.toList c.toNat.toUInt8))/\w'=w:=Any.strings_IndexByte Tryz.lays137 s c w
def Tryz.lays103_ren:Go.Shelf.Ren:=⟨fun|103=>237|210=>241|206=>178|n=>n,fun|9=>9|4=>4|24=>260|3=>3|n=>n,fun|n=>n⟩
theorem Tryz.lays103:Go.Proofs.Lays.n103 Tryz.prog Tryz.lays103_ren:={
 mixed:=by kernel_rfl
 f103:=Tryz.func237.trans (congrArg some (by kernel_rfl))
 f206:=Tryz.func178.trans (congrArg some (by kernel_rfl))
 f210:=Tryz.func241.trans (congrArg some (by kernel_rfl))
 t3:=Tryz.underlying3
 a3:=Tryz.isAgg3
 z3:=Tryz.sizeOf3
 v3:=Tryz.zeroValue3
 t4:=Tryz.underlying4
 a4:=Tryz.isAgg4
 z4:=Tryz.sizeOf4
 v4:=Tryz.zeroValue4
 t9:=Tryz.underlying9
 a9:=Tryz.isAgg9
 z9:=Tryz.sizeOf9
 v9:=Tryz.zeroValue9
 t24:=Tryz.underlying260
 a24:=Tryz.isAgg260
 z24:=Tryz.sizeOf260
 v24:=Tryz.zeroValue260 }
open Go.RowKit in
theorem Tryz.strings_CutPrefix (s p:ByteArray) (w:World) :
  Calls Tryz.prog 237 #[.string s,.string p] w fun e w'=>e=.returned (.tuple #[.string ⟨(Lib.trimPrefix s.data.toList p.data.toList).toArray⟩,.bool (Lib.hasPrefix s.data.toList p.data.toList)])/\w'=w:=Any.strings_CutPrefix Tryz.lays103 s p w
def Tryz.lays122_ren:Go.Shelf.Ren:=⟨fun|122=>89|215=>127|n=>n,fun|3=>3|4=>4|n=>n,fun|n=>n⟩
theorem Tryz.lays122:Go.Proofs.Lays.n122 Tryz.prog Tryz.lays122_ren:={
 mixed:=by kernel_rfl
 f122:=Tryz.func89.trans (congrArg some (by kernel_rfl))
 f215:=Tryz.func127.trans (congrArg some (by kernel_rfl))
 t3:=Tryz.underlying3
 a3:=Tryz.isAgg3
 z3:=Tryz.sizeOf3
 v3:=Tryz.zeroValue3
 t4:=Tryz.underlying4
 a4:=Tryz.isAgg4
 z4:=Tryz.sizeOf4
 v4:=Tryz.zeroValue4 }
open Go.RowKit in
theorem Tryz.cmp_Compare_int (x y:Int) (w:World) :
  Calls Tryz.prog 89 #[.int .i64 x,.int .i64 y] w fun e w'=>e=.returned (.int .i64 (Lib.compareInt x y))/\w'=w:=Any.cmp_Compare_int Tryz.lays122 x y w
def Tryz.laysM171_ren:Go.Shelf.Ren:=⟨fun|171=>100|243=>142|246=>175|283=>196|284=>197|285=>198|286=>199|129=>221|317=>220|318=>222|319=>223|320=>224|337=>233|338=>234|n=>n,fun|3=>3|9=>9|2=>2|4=>4|171=>232|0=>0|53=>219|37=>32|5=>5|173=>235|212=>255|51=>216|20=>20|213=>256|46=>97|232=>266|233=>267|n=>n,fun|17=>2|18=>3|19=>4|n=>n⟩
theorem Tryz.laysM171:Go.Proofs.LaysM.n171 Tryz.prog Tryz.laysM171_ren:={
 mixed:=by kernel_rfl
 f129:=Tryz.func221.trans (congrArg some (by kernel_rfl))
 f171:=Tryz.func100.trans (congrArg some (by kernel_rfl))
 f243:=Tryz.func142.trans (congrArg some (by kernel_rfl))
 f246:=Tryz.func175.trans (congrArg some (by kernel_rfl))
 f283:=Tryz.func196.trans (congrArg some (by kernel_rfl))
 f284:=Tryz.func197.trans (congrArg some (by kernel_rfl))
 f285:=Tryz.func198.trans (congrArg some (by kernel_rfl))
 f286:=Tryz.func199.trans (congrArg some (by kernel_rfl))
 f317:=Tryz.func220.trans (congrArg some (by kernel_rfl))
 f318:=Tryz.func222.trans (congrArg some (by kernel_rfl))
 f319:=Tryz.func223.trans (congrArg some (by kernel_rfl))
 f320:=Tryz.func224.trans (congrArg some (by kernel_rfl))
 f337:=Tryz.func233.trans (congrArg some (by kernel_rfl))
 f338:=Tryz.func234.trans (congrArg some (by kernel_rfl))
 t0:=Tryz.underlying0
 a0:=Tryz.isAgg0
 z0:=Tryz.sizeOf0
 v0:=Tryz.zeroValue0
 t2:=Tryz.underlying2
 a2:=Tryz.isAgg2
 z2:=Tryz.sizeOf2
 v2:=Tryz.zeroValue2
 t3:=Tryz.underlying3
 a3:=Tryz.isAgg3
 z3:=Tryz.sizeOf3
 v3:=Tryz.zeroValue3
 t4:=Tryz.underlying4
 a4:=Tryz.isAgg4
 z4:=Tryz.sizeOf4
 v4:=Tryz.zeroValue4
 t5:=Tryz.underlying5
 a5:=Tryz.isAgg5
 z5:=Tryz.sizeOf5
 v5:=Tryz.zeroValue5
 t9:=Tryz.underlying9
 a9:=Tryz.isAgg9
 z9:=Tryz.sizeOf9
 v9:=Tryz.zeroValue9
 t20:=Tryz.underlying20
 a20:=Tryz.isAgg20
 z20:=Tryz.sizeOf20
 v20:=Tryz.zeroValue20
 t37:=Tryz.underlying32
 a37:=Tryz.isAgg32
 z37:=Tryz.sizeOf32
 v37:=Tryz.zeroValue32
 t46:=Tryz.underlying97
 a46:=Tryz.isAgg97
 z46:=Tryz.sizeOf97
 v46:=Tryz.zeroValue97
 t51:=Tryz.underlying216
 a51:=Tryz.isAgg216
 z51:=Tryz.sizeOf216
 v51:=Tryz.zeroValue216
 t53:=Tryz.underlying219
 a53:=Tryz.isAgg219
 z53:=Tryz.sizeOf219
 v53:=Tryz.zeroValue219
 t171:=Tryz.underlying232
 a171:=Tryz.isAgg232
 z171:=Tryz.sizeOf232
 v171:=Tryz.zeroValue232
 t173:=Tryz.underlying235
 a173:=Tryz.isAgg235
 z173:=Tryz.sizeOf235
 v173:=Tryz.zeroValue235
 t212:=Tryz.underlying255
 a212:=Tryz.isAgg255
 z212:=Tryz.sizeOf255
 v212:=Tryz.zeroValue255
 t213:=Tryz.underlying256
 a213:=Tryz.isAgg256
 z213:=Tryz.sizeOf256
 t232:=Tryz.underlying266
 a232:=Tryz.isAgg266
 z232:=Tryz.sizeOf266
 v232:=Tryz.zeroValue266
 t233:=Tryz.underlying267
 a233:=Tryz.isAgg267
 z233:=Tryz.sizeOf267
 v233:=Tryz.zeroValue267
 g17:=by kernel_rfl
 g18:=by kernel_rfl
 g19:=by kernel_rfl
 i0:=by kernel_rfl
 i2:=by kernel_rfl
 i3:=by kernel_rfl
 i4:=by kernel_rfl
 i5:=by kernel_rfl
 i9:=by kernel_rfl
 i20:=by kernel_rfl
 i37:=by kernel_rfl
 i46:=by kernel_rfl
 i51:=by kernel_rfl
 i53:=by kernel_rfl
 i171:=by kernel_rfl
 i173:=by kernel_rfl
 i212:=by kernel_rfl
 i232:=by kernel_rfl
 i233:=by kernel_rfl
 m17:=by kernel_rfl
 m18:=by kernel_rfl
 m19:=by kernel_rfl }
open Go.RowKit Go.Sort Go.Lib in
theorem Tryz.strconv_Itoa (n:Int) (h0:-9223372036854775808<=n) (h1:n<=9223372036854775807) (w:World) (htab:Lib.TabIs Tryz.prog w "internal/strconv.uint64pow10" .u64 Lib.pow10Tab) :
  Calls Tryz.prog 100 #[.int .i64 n] w fun e w'=>e=.returned (.string ⟨(Lib.itoa n).toArray⟩)/\∃ k os,w'=grow (w.drewN k) os:=Any.strconv_Itoa Tryz.laysM171 n h0 h1 w htab
def Tryz.lays219_ren:Go.Shelf.Ren:=⟨fun|219=>180|217=>201|225=>202|224=>203|267=>204|266=>225|314=>226|n=>n,fun|9=>9|3=>3|4=>4|5=>5|46=>97|146=>217|51=>216|n=>n,fun|1=>0|n=>n⟩
theorem Tryz.lays219:Go.Proofs.Lays.n219 Tryz.prog Tryz.lays219_ren:={
 mixed:=by kernel_rfl
 f217:=Tryz.func201.trans (congrArg some (by kernel_rfl))
 f219:=Tryz.func180.trans (congrArg some (by kernel_rfl))
 f224:=Tryz.func203.trans (congrArg some (by kernel_rfl))
 f225:=Tryz.func202.trans (congrArg some (by kernel_rfl))
 f266:=Tryz.func225.trans (congrArg some (by kernel_rfl))
 f267:=Tryz.func204.trans (congrArg some (by kernel_rfl))
 f314:=Tryz.func226.trans (congrArg some (by kernel_rfl))
 t3:=Tryz.underlying3
 a3:=Tryz.isAgg3
 z3:=Tryz.sizeOf3
 v3:=Tryz.zeroValue3
 t4:=Tryz.underlying4
 a4:=Tryz.isAgg4
 z4:=Tryz.sizeOf4
 v4:=Tryz.zeroValue4
 t5:=Tryz.underlying5
 a5:=Tryz.isAgg5
 z5:=Tryz.sizeOf5
 v5:=Tryz.zeroValue5
 t9:=Tryz.underlying9
 a9:=Tryz.isAgg9
 z9:=Tryz.sizeOf9
 v9:=Tryz.zeroValue9
 t46:=Tryz.underlying97
 a46:=Tryz.isAgg97
 z46:=Tryz.sizeOf97
 v46:=Tryz.zeroValue97
 t51:=Tryz.underlying216
 a51:=Tryz.isAgg216
 z51:=Tryz.sizeOf216
 v51:=Tryz.zeroValue216
 t146:=Tryz.underlying217
 a146:=Tryz.isAgg217
 z146:=Tryz.sizeOf217
 v146:=Tryz.zeroValue217
 g1:=by kernel_rfl }
open Go.RowKit Go.Lib in
theorem Tryz.stringslite_Index_one (s:ByteArray) (c:UInt8) (w:World) :
  Calls Tryz.prog 180 #[.string s,.string ⟨#[c]⟩] w fun e w'=>e=.returned (.int .i64 (Lib.indexByte s.data.toList c))/\w'=w:=Any.stringslite_Index_one Tryz.lays219 s c w
def Tryz.laysM145_ren:Go.Shelf.Ren:=⟨fun|145=>210|220=>227|219=>180|217=>201|225=>202|224=>203|267=>204|266=>225|314=>226|n=>n,fun|9=>9|4=>4|59=>242|3=>3|5=>5|46=>97|146=>217|51=>216|n=>n,fun|1=>0|n=>n⟩
theorem Tryz.laysM145:Go.Proofs.LaysM.n145 Tryz.prog Tryz.laysM145_ren:={
 mixed:=by kernel_rfl
 f145:=Tryz.func210.trans (congrArg some (by kernel_rfl))
 f217:=Tryz.func201.trans (congrArg some (by kernel_rfl))
 f219:=Tryz.func180.trans (congrArg some (by kernel_rfl))
 f220:=Tryz.func227.trans (congrArg some (by kernel_rfl))
 f224:=Tryz.func203.trans (congrArg some (by kernel_rfl))
 f225:=Tryz.func202.trans (congrArg some (by kernel_rfl))
 f266:=Tryz.func225.trans (congrArg some (by kernel_rfl))
 f267:=Tryz.func204.trans (congrArg some (by kernel_rfl))
 f314:=Tryz.func226.trans (congrArg some (by kernel_rfl))
 t3:=Tryz.underlying3
 a3:=Tryz.isAgg3
 z3:=Tryz.sizeOf3
 v3:=Tryz.zeroValue3
 t4:=Tryz.underlying4
 a4:=Tryz.isAgg4
 z4:=Tryz.sizeOf4
 v4:=Tryz.zeroValue4
 t5:=Tryz.underlying5
 a5:=Tryz.isAgg5
 z5:=Tryz.sizeOf5
 v5:=Tryz.zeroValue5
 t9:=Tryz.underlying9
 a9:=Tryz.isAgg9
 z9:=Tryz.sizeOf9
 v9:=Tryz.zeroValue9
 t46:=Tryz.underlying97
 a46:=Tryz.isAgg97
 z46:=Tryz.sizeOf97
 v46:=Tryz.zeroValue97
 t51:=Tryz.underlying216
 a51:=Tryz.isAgg216
 z51:=Tryz.sizeOf216
 v51:=Tryz.zeroValue216
 t59:=Tryz.underlying242
 a59:=Tryz.isAgg242
 z59:=Tryz.sizeOf242
 v59:=Tryz.zeroValue242
 t146:=Tryz.underlying217
 a146:=Tryz.isAgg217
 z146:=Tryz.sizeOf217
 v146:=Tryz.zeroValue217
 g1:=by kernel_rfl
 i3:=by kernel_rfl
 i4:=by kernel_rfl
 i5:=by kernel_rfl
 i9:=by kernel_rfl
 i46:=by kernel_rfl
 i51:=by kernel_rfl
 i59:=by kernel_rfl
 i146:=by kernel_rfl
 m1:=by kernel_rfl
 s1_3:=fun w h=>Go.Proofs.cell_of_shapedOpen_int (zero:=#[.int .i64 0]) (t:=3) h (of_decide_eq_true (by kernel_rfl)) (by kernel_rfl) rfl (by kernel_rfl) (by kernel_rfl) Tryz.underlying3 }
def Tryz.lays101_ren:Go.Shelf.Ren:=⟨fun|101=>238|208=>242|206=>178|n=>n,fun|9=>9|4=>4|3=>3|n=>n,fun|n=>n⟩
theorem Tryz.lays101:Go.Proofs.Lays.n101 Tryz.prog Tryz.lays101_ren:={
 mixed:=by kernel_rfl
 f101:=Tryz.func238.trans (congrArg some (by kernel_rfl))
 f206:=Tryz.func178.trans (congrArg some (by kernel_rfl))
 f208:=Tryz.func242.trans (congrArg some (by kernel_rfl))
 t3:=Tryz.underlying3
 a3:=Tryz.isAgg3
 z3:=Tryz.sizeOf3
 v3:=Tryz.zeroValue3
 t4:=Tryz.underlying4
 a4:=Tryz.isAgg4
 z4:=Tryz.sizeOf4
 v4:=Tryz.zeroValue4
 t9:=Tryz.underlying9
 a9:=Tryz.isAgg9
 z9:=Tryz.sizeOf9
 v9:=Tryz.zeroValue9 }
open Go.RowKit Go.Lib in
theorem Tryz.strings_TrimPrefix (s p:ByteArray) (w:World) :
  Calls Tryz.prog 238 #[.string s,.string p] w fun e w'=>e=.returned (.string ⟨(Lib.trimPrefix s.data.toList p.data.toList).toArray⟩)/\w'=w:=Any.strings_TrimPrefix Tryz.lays101 s p w
def Tryz.lays151_ren:Go.Shelf.Ren:=⟨fun|151=>212|152=>228|137=>235|119=>236|224=>203|225=>202|217=>201|266=>225|n=>n,fun|9=>9|21=>21|4=>4|3=>3|5=>5|0=>0|46=>97|n=>n,fun|n=>n⟩
theorem Tryz.lays151:Go.Proofs.Lays.n151 Tryz.prog Tryz.lays151_ren:={
 mixed:=by kernel_rfl
 f119:=Tryz.func236.trans (congrArg some (by kernel_rfl))
 f137:=Tryz.func235.trans (congrArg some (by kernel_rfl))
 f151:=Tryz.func212.trans (congrArg some (by kernel_rfl))
 f152:=Tryz.func228.trans (congrArg some (by kernel_rfl))
 f217:=Tryz.func201.trans (congrArg some (by kernel_rfl))
 f224:=Tryz.func203.trans (congrArg some (by kernel_rfl))
 f225:=Tryz.func202.trans (congrArg some (by kernel_rfl))
 f266:=Tryz.func225.trans (congrArg some (by kernel_rfl))
 t0:=Tryz.underlying0
 a0:=Tryz.isAgg0
 z0:=Tryz.sizeOf0
 v0:=Tryz.zeroValue0
 t3:=Tryz.underlying3
 a3:=Tryz.isAgg3
 z3:=Tryz.sizeOf3
 v3:=Tryz.zeroValue3
 t4:=Tryz.underlying4
 a4:=Tryz.isAgg4
 z4:=Tryz.sizeOf4
 v4:=Tryz.zeroValue4
 t5:=Tryz.underlying5
 a5:=Tryz.isAgg5
 z5:=Tryz.sizeOf5
 v5:=Tryz.zeroValue5
 t9:=Tryz.underlying9
 a9:=Tryz.isAgg9
 z9:=Tryz.sizeOf9
 v9:=Tryz.zeroValue9
 t21:=Tryz.underlying21
 a21:=Tryz.isAgg21
 z21:=Tryz.sizeOf21
 v21:=Tryz.zeroValue21
 t46:=Tryz.underlying97
 a46:=Tryz.isAgg97
 z46:=Tryz.sizeOf97
 v46:=Tryz.zeroValue97 }
open Go.RowKit Go.Lib in
theorem Tryz.strings_ContainsRune_ascii (s:ByteArray) (r:Int) (w:World) (h0:0<=r) (h1:r<128) :
  Calls Tryz.prog 212 #[.string s,.int .i32 r] w fun e w'=>e=.returned (.bool (decide (0<=Lib.indexByte s.data.toList r.toNat.toUInt8)))/\w'=w:=Any.strings_ContainsRune_ascii Tryz.lays151 s r w h0 h1
def Tryz.lays105_ren:Go.Shelf.Ren:=⟨fun|105=>101|212=>143|99=>144|165=>145|166=>136|170=>146|169=>99|263=>176|264=>177|206=>178|240=>166|241=>179|276=>194|277=>200|n=>n,fun|9=>9|3=>3|4=>4|20=>20|0=>0|46=>97|109=>193|5=>5|72=>155|76=>117|51=>216|146=>217|53=>219|148=>220|70=>153|37=>32|75=>116|127=>192|164=>229|80=>159|n=>n,fun|n=>n⟩
theorem Tryz.lays105:Go.Proofs.Lays.n105 Tryz.prog Tryz.lays105_ren:={
 mixed:=by kernel_rfl
 f99:=Tryz.func144.trans (congrArg some (by kernel_rfl))
 f105:=Tryz.func101.trans (congrArg some (by kernel_rfl))
 f165:=Tryz.func145.trans (congrArg some (by kernel_rfl))
 f166:=Tryz.func136.trans (congrArg some (by kernel_rfl))
 f169:=Tryz.func99.trans (congrArg some (by kernel_rfl))
 f170:=Tryz.func146.trans (congrArg some (by kernel_rfl))
 f206:=Tryz.func178.trans (congrArg some (by kernel_rfl))
 f212:=Tryz.func143.trans (congrArg some (by kernel_rfl))
 f240:=Tryz.func166.trans (congrArg some (by kernel_rfl))
 f241:=Tryz.func179.trans (congrArg some (by kernel_rfl))
 f263:=Tryz.func176.trans (congrArg some (by kernel_rfl))
 f264:=Tryz.func177.trans (congrArg some (by kernel_rfl))
 f276:=Tryz.func194.trans (congrArg some (by kernel_rfl))
 f277:=Tryz.func200.trans (congrArg some (by kernel_rfl))
 t0:=Tryz.underlying0
 a0:=Tryz.isAgg0
 z0:=Tryz.sizeOf0
 v0:=Tryz.zeroValue0
 t3:=Tryz.underlying3
 a3:=Tryz.isAgg3
 z3:=Tryz.sizeOf3
 v3:=Tryz.zeroValue3
 t4:=Tryz.underlying4
 a4:=Tryz.isAgg4
 z4:=Tryz.sizeOf4
 v4:=Tryz.zeroValue4
 t5:=Tryz.underlying5
 a5:=Tryz.isAgg5
 z5:=Tryz.sizeOf5
 v5:=Tryz.zeroValue5
 t9:=Tryz.underlying9
 a9:=Tryz.isAgg9
 z9:=Tryz.sizeOf9
 v9:=Tryz.zeroValue9
 t20:=Tryz.underlying20
 a20:=Tryz.isAgg20
 z20:=Tryz.sizeOf20
 v20:=Tryz.zeroValue20
 t37:=Tryz.underlying32
 a37:=Tryz.isAgg32
 z37:=Tryz.sizeOf32
 v37:=Tryz.zeroValue32
 t46:=Tryz.underlying97
 a46:=Tryz.isAgg97
 z46:=Tryz.sizeOf97
 v46:=Tryz.zeroValue97
 t51:=Tryz.underlying216
 a51:=Tryz.isAgg216
 z51:=Tryz.sizeOf216
 v51:=Tryz.zeroValue216
 t53:=Tryz.underlying219
 a53:=Tryz.isAgg219
 z53:=Tryz.sizeOf219
 v53:=Tryz.zeroValue219
 t70:=Tryz.underlying153
 a70:=Tryz.isAgg153
 z70:=Tryz.sizeOf153
 v70:=Tryz.zeroValue153
 t72:=Tryz.underlying155
 a72:=Tryz.isAgg155
 z72:=Tryz.sizeOf155
 v72:=Tryz.zeroValue155
 t75:=Tryz.underlying116
 a75:=Tryz.isAgg116
 z75:=Tryz.sizeOf116
 v75:=Tryz.zeroValue116
 t76:=Tryz.underlying117
 a76:=Tryz.isAgg117
 z76:=Tryz.sizeOf117
 v76:=Tryz.zeroValue117
 t109:=Tryz.underlying193
 a109:=Tryz.isAgg193
 z109:=Tryz.sizeOf193
 v109:=Tryz.zeroValue193
 t127:=Tryz.underlying192
 a127:=Tryz.isAgg192
 z127:=Tryz.sizeOf192
 v127:=Tryz.zeroValue192
 t146:=Tryz.underlying217
 a146:=Tryz.isAgg217
 z146:=Tryz.sizeOf217
 v146:=Tryz.zeroValue217
 t148:=Tryz.underlying220
 a148:=Tryz.isAgg220
 z148:=Tryz.sizeOf220
 v148:=Tryz.zeroValue220
 t164:=Tryz.underlying229
 a164:=Tryz.isAgg229
 z164:=Tryz.sizeOf229
 v164:=Tryz.zeroValue229 }
theorem Tryz.Builder_Extra_105:Builder.Extra Tryz.prog Tryz.lays105_ren:={
 sizeBuilder:=by kernel_rfl
 liesBuilder:=by kernel_rfl
 t5:=Tryz.underlying5
 a5:=Tryz.isAgg5
 z5:=Tryz.sizeOf5
 v5:=Tryz.zeroValue5
 infoByte:=by kernel_rfl
 cellsByte:=by kernel_rfl
 sizeByte:=by kernel_rfl
 neB5:=by decide }
open Go.RowKit Go.Lib in
theorem Tryz.strings_Repeat (s:ByteArray) (c:Nat) (w:World) (hc:c<=9223372036854775807) (hlen:s.size*c<=140737488355328) :
  Calls Tryz.prog 101 #[.string s,.int .i64 c] w fun e w'=>e=.returned (.string ⟨(Lib.repeatL s.data.toList c).toArray⟩)/\Below w.heap.size w w':=Any.strings_Repeat Tryz.lays105 Tryz.Builder_Extra_105 s c w hc hlen
end Go.Proofs
namespace Go.Proofs.YthejpkflcgjdoaaGreatDoor
open Go.RowKit
def numStr:ByteArray:=⟨#[48,49,50,51,52,53,54,55,56,57,43,45,46]⟩
theorem enc_val (x:Nat) (h2:x<256):Utf8.valid (x:Int)=true:=by
 have h1:(x:Int)<55296:=by omega
 have h0:(0:Int)<=x:=by omega
 unfold Utf8.valid
 have e1:decide ((0:Int)<=x)=true:=decide_eq_true h0
 have e2:decide ((x:Int)<55296)=true:=decide_eq_true h1
 simp [e1,e2,h0,h1]
 try omega
theorem enc_eq (x:Nat) (h:128<=x) (h2:x<256):Utf8.encode (x:Int)=⟨#[UInt8.ofNat (192+x / 64),UInt8.ofNat (128+x%64)]⟩:=by
 have hc:¬(x:Int).toNat<128:=by omega
 have hd:(x:Int).toNat<2048:=by omega
 unfold Utf8.encode
 simp only [enc_val x h2,if_true,hc,hd,if_false]
 rfl
theorem enc_two (x:Nat) (h:128<=x) (h2:x<256):∃ (t:ByteArray) (y:Nat),Utf8.encode (x:Int)=t/\t.size=2/\128<=y/\y<256/\∀ k:1<t.size,(t[1]'k).toNat=y:=by
 refine⟨_,128+x%64,enc_eq x h h2,rfl,by omega,by omega,fun k=>?_⟩
 show(UInt8.ofNat (128+x%64)).toNat=_
 simp
 omega
theorem idx_none (l:List UInt8) (y:Nat) (hy:128<=y) (hy2:y<256) (h:∀ b∈l,b.toNat<128):Lib.indexByte l (y:Int).toNat.toUInt8=-1:=by
 induction l with
 |nil=>rfl
 |cons x l ih =>
  have hx:=h x (List.mem_cons_self ..)
  have h3:(x==(y:Int).toNat.toUInt8)=false:=by
   rw [beq_eq_false_iff_ne]
   rintro rfl
   simp at hx
   omega
  rw [Lib.indexByte]
  rw [ih (fun b hb=>h b (List.mem_cons_of_mem _ hb))]
  have h4:¬x=UInt8.ofNat y:=by simpa using h3
  simp [h3,h4]
set_option maxRecDepth 100000 in
theorem num_ascii:∀ x:Fin 128,decide (0<=Lib.indexByte numStr.data.toList ((x.val:Int).toNat.toUInt8))=isNm x.val:=by decide
set_option maxHeartbeats 2000000 in
set_option maxRecDepth 100000 in
theorem idxrune_gen (s s2:ByteArray) (n:Nat) (hs:s.size=n) (hn:2<n) (hn2:n<=1000) (hs1:∀ k:1<s.size,(s[1]'k).toNat=49) (hs2:s.extract 2 n=s2) (hs3:∀ b∈s2.data.toList,b.toNat<128) (x:Nat) (h:128<=x) (h2:x<256) (w:World):Calls Tryz.prog 228 #[.string s,.int .i32 (x:Nat)] w fun e w'=>e=.returned (.int .i64 (-1))/\Chg NoS w w':=by
 obtain⟨t,y,ht,hsz,hy1,hy2,g1⟩:=enc_two x h h2
 have hcv:∀ W,(convert 21 9 (.int .i32 (x:Nat))).run Tryz.prog W=.ok (.string t) W:=fun W=>by
  rw [<- ht]
  exact run_convert_int_string W _ _ _ _ (by kernel_rfl) Tryz.underlying9
 clear ht
 have HVR:=kf (fun W=>Tryz.utf8_ValidRune (x:Int) W)
 rw [show Lib.validRune (x:Int)=true from by unfold Lib.validRune;simp;omega] at HVR
 have HIB:=kf (fun W=>(show Calls Tryz.prog 235 #[.string s2,.int .u8 (y:Nat)] W fun e w'=>e=.returned (.int .i64 (-1))/\W=w' from by
  have:=Tryz.strings_IndexByte s2 (y:Int) W
  rw [idx_none _ y hy1 hy2 hs3] at this
  exact this.mono fun _ _ ⟨he,hm⟩=>⟨he,hm.symm⟩))
 have e1:((49:Int) != (y:Int))=true:=by simp;omega
 have e2:(49 != y)=true:=by simp;omega
 have d1:decide ((x:Int)<128)=false:=by simp;omega
 have d2:((x:Int)==65533)=false:=by simp;omega
 have i1:(2:Int)<=n:=by omega
 have i2:(1:Int)<n:=by omega
 have hw2:IntKind.i64.wrap 2=2:=by decide
 have HHS:=kf hs3
 clear hs3
 go_enter Tryz.func228,Tryz.ntmps228
 go_wp2_with (go_at_call 236;refine(HVR.out _).mono ?_;rintro e w2 ⟨rfl,hw⟩;rw [hw];clear hw)
 go_step3
 go_upto_region 5 with fail
 go_loopw [9] (fun vi wr=>vi=.int .i64 1/\wr=w) (fun _ _=>0)
 case atStart=>exact⟨rfl,rfl⟩
 case round =>
  obtain⟨rfl,rfl⟩:=hrel
  go_upto_region 6 with fail
  (try go_step3)
  go_upto_region 6 with fail
  go_quiet (fail)
  go_upto_region 7 with fail
  go_quiet ((go_at_call 235;first|exact quiet_left_add (HIB.out _)|exact quiet_left (HIB.out _)))
  go_wp2_with fail
  simp only [Exit.noGoto_ret,Exit.inBlock]
  change bodyPost Tryz.prog _ (fun e w2=>e=.returned (.int .i64 (-1))/\Chg NoS wr w2) Exit.ret _ _
  go_ret
  exact⟨rfl,(Chg.refl _ _).drewN _⟩
set_option maxHeartbeats 2000000 in
set_option maxRecDepth 100000 in
theorem crune_any (x:Nat) (h2:x<256) (w:World):Calls Tryz.prog 212 #[.string ⟨#[48,49,50,51,52,53,54,55,56,57,43,45,46]⟩,.int .i32 (x:Nat)] w fun e w'=>e=.returned (.bool (isNm x))/\Chg NoS w w':=by
 by_cases h:x<128
 ·have H:=Tryz.strings_ContainsRune_ascii numStr (x:Int) w (by omega) (by omega)
  rw [num_ascii ⟨x,h⟩] at H
  exact H.mono fun _ _ ⟨he,hm⟩=>⟨he,by rw [hm];exact Chg.refl _ _⟩
 ·have HI:=kf (fun W=>idxrune_gen ⟨#[48,49,50,51,52,53,54,55,56,57,43,45,46]⟩ ⟨#[50,51,52,53,54,55,56,57,43,45,46]⟩ 13 rfl (by decide) (by decide) (fun _=>rfl) (by decide) (by decide) x (by omega) h2 W)
  have HN:=kf (show isNm x=false from by simp [isNm];omega)
  obtain⟨s,hs⟩:∃ s,(⟨#[48,49,50,51,52,53,54,55,56,57,43,45,46]⟩:ByteArray)=s:=⟨_,rfl⟩
  rw [hs] at HI ⊢
  clear hs
  go_enter Tryz.func212,Tryz.ntmps212
  go_wp2_with (go_at_call 228;refine(HI.out _).mono ?_;rintro e w2 ⟨rfl,hc2⟩;have HC2:=kf hc2;clear hc2)
  go_ret
  exact⟨by rw [HN.out];rfl,HC2.out⟩
end Go.Proofs.YthejpkflcgjdoaaGreatDoor
