import Derived.Test.YtnhlalkeaaiefaaGreatDoorE02
set_option linter.unusedVariables false
set_option maxHeartbeats 64000000
set_option maxRecDepth 100000
set_option linter.unusedSimpArgs false
namespace Go.Proofs.YtnhlalkeaaiefaaGreatDoor
open Go.RowKit
theorem v4t {c:Nat} (h0:c≠0) (h1:c≠9) (h2:c≠10) (h3:c≠12) (h4:c≠13) (h5:c≠32):z3s c=false:=by simp [z3s,h0,h1,h2,h3,h4,h5]
theorem y7p {c:Nat} (h0:c≠40) (h1:c≠41) (h2:c≠60) (h3:c≠62) (h4:c≠91) (h5:c≠93) (h6:c≠123) (h7:c≠125) (h8:c≠47) (h9:c≠37):z4p c=false:=by simp [z4p,h0,h1,h2,h3,h4,h5,h6,h7,h8,h9]
theorem y4k (c:Nat) (w:World):Calls Tryz.prog 87 #[.int .u8 (c:Nat)] w fun e w'=>e=.returned (.bool (z4p c))/\w=w':=by
 by_cases h:c=40\/c=41\/c=60\/c=62\/c=91\/c=93\/c=123\/c=125\/c=47\/c=37
 ·rcases h with rfl|rfl|rfl|rfl|rfl|rfl|rfl|rfl|rfl|rfl
  all_goals
   go_enter Tryz.func87,Tryz.ntmps87;go_wp2_with fail;go_ret;exact⟨rfl,rfl⟩
 ·have HS:=kf (y7p (c:=c) (by omega) (by omega) (by omega) (by omega) (by omega) (by omega) (by omega) (by omega) (by omega) (by omega));have e0:((c:Int)==40)=false:=by simp;omega
  have e1:((c:Int)==41)=false:=by simp;omega
  have e2:((c:Int)==60)=false:=by simp;omega
  have e3:((c:Int)==62)=false:=by simp;omega
  have e4:((c:Int)==91)=false:=by simp;omega
  have e5:((c:Int)==93)=false:=by simp;omega
  have e6:((c:Int)==123)=false:=by simp;omega
  have e7:((c:Int)==125)=false:=by simp;omega
  have e8:((c:Int)==47)=false:=by simp;omega
  have e9:((c:Int)==37)=false:=by simp;omega
  clear h;go_enter Tryz.func87,Tryz.ntmps87;go_wp2_with fail;go_ret;exact⟨by rw [HS.out];rfl,rfl⟩
def y4b (bs:List Nat) (p:Int):Nat:=if p<0 then 0 else if p<=bs.length then p.toNat+skp false (bs.drop p.toNat) else bs.length
theorem v6u {c:Nat} (l:List Nat) (h:z3s c=true):skp false (c::l)=skp false l+1:=by rw [skp,if_pos h]
theorem v6x (l:List Nat):skp false (37::l)=skp true (37::l):=by simp [skp,z3s]
theorem v6v {c:Nat} (l:List Nat) (h:z3s c=false) (h2:c≠37):skp false (c::l)=0:=by rw [skp,if_neg (by rw [h];decide),if_neg h2]
theorem v43 {c:Nat} (l:List Nat) (h1:c≠10) (h2:c≠13):skp true (c::l)=skp true l+1:=by
 have e:(!(c==10 || c==13))=true:=by simp [h1,h2]
 rw [skp,e]
theorem v42 {c:Nat} (l:List Nat) (h:c=10\/c=13):skp true (c::l)=skp false (c::l):=by
 rcases h with rfl|rfl<;>simp [skp,z3s]
theorem z3i (c:Nat) (w:World):Calls Tryz.prog 151 #[.int .u8 (c:Nat)] w fun e w'=>e=.returned (.bool (z3s c))/\w=w':=by
 by_cases h:c=0\/c=9\/c=10\/c=12\/c=13\/c=32
 ·rcases h with rfl|rfl|rfl|rfl|rfl|rfl
  all_goals
   go_enter Tryz.func151,Tryz.ntmps151;go_wp2_with fail;go_ret;exact⟨rfl,rfl⟩
 ·have HS:=kf (v4t (c:=c) (by omega) (by omega) (by omega) (by omega) (by omega) (by omega));have e0:((c:Int)==0)=false:=by simp;omega
  have e1:((c:Int)==9)=false:=by simp;omega
  have e2:((c:Int)==10)=false:=by simp;omega
  have e3:((c:Int)==12)=false:=by simp;omega
  have e4:((c:Int)==13)=false:=by simp;omega
  have e5:((c:Int)==32)=false:=by simp;omega
  clear h;go_enter Tryz.func151,Tryz.ntmps151;go_wp2_with fail;go_ret;exact⟨by rw [HS.out];rfl,rfl⟩
theorem z7w (c:Nat) (w:World):Calls Tryz.prog 173 #[.int .u8 (c:Nat)] w fun e w'=>e=.returned (.bool (z4p c))/\w=w':=by
 by_cases h:c=40\/c=41\/c=60\/c=62\/c=91\/c=93\/c=123\/c=125\/c=47\/c=37
 ·rcases h with rfl|rfl|rfl|rfl|rfl|rfl|rfl|rfl|rfl|rfl
  all_goals
   go_enter Tryz.func173,Tryz.ntmps173;go_wp2_with fail;go_ret;exact⟨rfl,rfl⟩
 ·have HS:=kf (y7p (c:=c) (by omega) (by omega) (by omega) (by omega) (by omega) (by omega) (by omega) (by omega) (by omega) (by omega));have e0:((c:Int)==40)=false:=by simp;omega
  have e1:((c:Int)==41)=false:=by simp;omega
  have e2:((c:Int)==60)=false:=by simp;omega
  have e3:((c:Int)==62)=false:=by simp;omega
  have e4:((c:Int)==91)=false:=by simp;omega
  have e5:((c:Int)==93)=false:=by simp;omega
  have e6:((c:Int)==123)=false:=by simp;omega
  have e7:((c:Int)==125)=false:=by simp;omega
  have e8:((c:Int)==47)=false:=by simp;omega
  have e9:((c:Int)==37)=false:=by simp;omega
  clear h;go_enter Tryz.func173,Tryz.ntmps173;go_wp2_with fail;go_ret;exact⟨by rw [HS.out];rfl,rfl⟩
def z2t (c:Nat):Nat:=(z3k c).getD 0
theorem z6w (c:Nat):z2t c<16:=by
 unfold z2t;cases h:z3k c with
 |none=>decide
 |some d=>exact y1n h
theorem z5a (c:Nat) (hc:c<256) (w:World):Calls Tryz.prog 208 #[.int .u8 (c:Nat)] w fun e w'=>e=.returned (.tuple #[.int .u8 (z2t c:Nat),.bool (z3k c).isSome])/\w=w':=by
 by_cases h1:48<=c/\c<=57
 ·have HE:=kf (show z3k c=some (c-48) from by unfold z3k;rw [if_pos h1]);have HV:=kf (show(z2t c:Int)=(c:Int)-48 from by unfold z2t;rw [HE.out];simp only [Option.getD_some];omega);obtain⟨a,b⟩:=h1;have d1:IntKind.u8.wrap ((c:Int)-48)=(c:Int)-48:=by rw [IntKind.wrap_u8];omega
  go_enter Tryz.func208,Tryz.ntmps208;go_wp2_with fail;go_ret2;exact⟨by rw [HE.out,HV.out];rfl,rfl⟩
 by_cases h2:97<=c/\c<=102
 ·have HE:=kf (show z3k c=some (c-87) from by unfold z3k;rw [if_neg h1,if_pos h2]);have HV:=kf (show(z2t c:Int)=(c:Int)-97+10 from by unfold z2t;rw [HE.out];simp only [Option.getD_some];omega);have g1:¬c<=57:=by omega
  have d1:IntKind.u8.wrap ((c:Int)-97)=(c:Int)-97:=by rw [IntKind.wrap_u8];omega
  have d2:IntKind.u8.wrap ((c:Int)-97+10)=(c:Int)-97+10:=by rw [IntKind.wrap_u8];omega
  obtain⟨a,b⟩:=h2;clear h1;go_enter Tryz.func208,Tryz.ntmps208;go_wp2_with fail;go_ret2;exact⟨by rw [HE.out,HV.out];rfl,rfl⟩
 by_cases h3:65<=c/\c<=70
 ·have HE:=kf (show z3k c=some (c-55) from by unfold z3k;rw [if_neg h1,if_neg h2,if_pos h3]);have HV:=kf (show(z2t c:Int)=(c:Int)-65+10 from by unfold z2t;rw [HE.out];simp only [Option.getD_some];omega);have g1:¬c<=57:=by omega
  have g2:¬97<=c:=by omega
  have d1:IntKind.u8.wrap ((c:Int)-65)=(c:Int)-65:=by rw [IntKind.wrap_u8];omega
  have d2:IntKind.u8.wrap ((c:Int)-65+10)=(c:Int)-65+10:=by rw [IntKind.wrap_u8];omega
  obtain⟨a,b⟩:=h3;clear h1 h2;go_enter Tryz.func208,Tryz.ntmps208;go_wp2_with fail;go_ret2;exact⟨by rw [HE.out,HV.out];rfl,rfl⟩
 ·have HE:=kf (show z3k c=none from by unfold z3k;rw [if_neg h1,if_neg h2,if_neg h3]);have HV:=kf (show z2t c=0 from by unfold z2t;rw [HE.out];rfl);have m1:(decide ((48:Int)<=c)&&decide ((c:Int)<=57))=false:=by simp;omega
  have m2:(decide ((97:Int)<=c)&&decide ((c:Int)<=102))=false:=by simp;omega
  have m3:(decide ((65:Int)<=c)&&decide ((c:Int)<=70))=false:=by simp;omega
  go_enter Tryz.func208,Tryz.ntmps208;by_cases k1:48<=c
  ·have k2:¬c<=57:=by omega
   by_cases k3:97<=c
   ·have k4:¬c<=102:=by omega
    have k5:65<=c:=by omega
    have k6:¬c<=70:=by omega
    clear h1 h2 h3 m1 m2 m3;go_wp2_with fail;go_ret2;exact⟨by rw [HE.out,HV.out];rfl,rfl⟩
   ·by_cases k5:65<=c
    ·have k6:¬c<=70:=by omega
     clear h1 h2 h3 m1 m2 m3;go_wp2_with fail;go_ret2;exact⟨by rw [HE.out,HV.out];rfl,rfl⟩
    ·clear h1 h2 h3 m1 m2 m3;go_wp2_with fail;go_ret2;exact⟨by rw [HE.out,HV.out];rfl,rfl⟩
  ·have k3:¬97<=c:=by omega
   have k5:¬65<=c:=by omega
   clear h1 h2 h3 m1 m2 m3;go_wp2_with fail;go_ret2;exact⟨by rw [HE.out,HV.out];rfl,rfl⟩
def mnt (c:Nat):Nat:=if c=110 then 10 else if c=114 then 13 else if c=116 then 9 else if c=98 then 8 else if c=102 then 12 else c
theorem v7i {c:Nat} (h:c<256):mnt c<256:=by
 unfold mnt;repeat' split
 all_goals omega
theorem y4p (c:Nat) (w:World):Calls Tryz.prog 207 #[.int .u8 (c:Nat)] w fun e w'=>e=.returned (.int .u8 (mnt c:Nat))/\w=w':=by
 by_cases h:c=110\/c=114\/c=116\/c=98\/c=102
 ·rcases h with rfl|rfl|rfl|rfl|rfl
  all_goals
   go_enter Tryz.func207,Tryz.ntmps207;go_wp2_with fail;go_ret;exact⟨rfl,rfl⟩
 ·have HE:=kf (show mnt c=c from by unfold mnt;rw [if_neg (by omega),if_neg (by omega),if_neg (by omega),if_neg (by omega),if_neg (by omega)]);have e0:((c:Int)==110)=false:=by simp;omega
  have e1:((c:Int)==114)=false:=by simp;omega
  have e2:((c:Int)==116)=false:=by simp;omega
  have e3:((c:Int)==98)=false:=by simp;omega
  have e4:((c:Int)==102)=false:=by simp;omega
  clear h;go_enter Tryz.func207,Tryz.ntmps207;go_wp2_with fail;go_ret;exact⟨by rw [HE.out];rfl,rfl⟩
def numStr:ByteArray:=⟨#[48,49,50,51,52,53,54,55,56,57,43,45,46]⟩
theorem v5d (x:Nat) (h2:x<256):Utf8.valid (x:Int)=true:=by
 have h1:(x:Int)<55296:=by omega
 have h0:(0:Int)<=x:=by omega
 unfold Utf8.valid;have e1:decide ((0:Int)<=x)=true:=decide_eq_true h0;have e2:decide ((x:Int)<55296)=true:=decide_eq_true h1;simp [e1,e2,h0,h1];try omega
theorem v7z (x:Nat) (h:128<=x) (h2:x<256):Utf8.encode (x:Int)=⟨#[UInt8.ofNat (192+x / 64),UInt8.ofNat (128+x%64)]⟩:=by
 have hc:¬(x:Int).toNat<128:=by omega
 have hd:(x:Int).toNat<2048:=by omega
 unfold Utf8.encode;simp only [v5d x h2,if_true,hc,hd,if_false];rfl
theorem v5e (x:Nat) (h:128<=x) (h2:x<256):∃ (t:ByteArray) (y:Nat),Utf8.encode (x:Int)=t/\t.size=2/\128<=y/\y<256/\∀ k:1<t.size,(t[1]'k).toNat=y:=by
 refine⟨_,128+x%64,v7z x h h2,rfl,by omega,by omega,fun k=>?_⟩;show(UInt8.ofNat (128+x%64)).toNat=_;simp;omega
theorem v1g (l:List UInt8) (y:Nat) (hy:128<=y) (hy2:y<256) (h:∀ b∈l,b.toNat<128):Lib.indexByte l (y:Int).toNat.toUInt8=-1:=by
 induction l with
 |nil=>rfl
 |cons x l ih =>
  have hx:=h x (List.mem_cons_self ..)
  have h3:(x==(y:Int).toNat.toUInt8)=false:=by
   rw [beq_eq_false_iff_ne];rintro rfl;simp at hx;omega
  rw [Lib.indexByte];rw [ih (fun b hb=>h b (List.mem_cons_of_mem _ hb))];have h4:¬x=UInt8.ofNat y:=by simpa using h3
  simp [h3,h4]
theorem y75:∀ x:Fin 128,decide (0<=Lib.indexByte numStr.data.toList ((x.val:Int).toNat.toUInt8))=y5a x.val:=by decide
theorem y1m (s s2:ByteArray) (n:Nat) (hs:s.size=n) (hn:2<n) (hn2:n<=1000) (hs1:∀ k:1<s.size,(s[1]'k).toNat=49) (hs2:s.extract 2 n=s2) (hs3:∀ b∈s2.data.toList,b.toNat<128) (x:Nat) (h:128<=x) (h2:x<256) (w:World):Calls Tryz.prog 228 #[.string s,.int .i32 (x:Nat)] w fun e w'=>e=.returned (.int .i64 (-1))/\Chg NoS w w':=by
 obtain⟨t,y,ht,hsz,hy1,hy2,g1⟩:=v5e x h h2
 have hcv:∀ W,(convert 21 9 (.int .i32 (x:Nat))).run Tryz.prog W=.ok (.string t) W:=fun W=>by
  rw [<- ht];exact run_convert_int_string W _ _ _ _ (by kernel_rfl) Tryz.underlying9
 clear ht;have HVR:=kf (fun W=>Tryz.utf8_ValidRune (x:Int) W);rw [show Lib.validRune (x:Int)=true from by unfold Lib.validRune;simp;omega] at HVR
 have HIB:=kf (fun W=>(show Calls Tryz.prog 235 #[.string s2,.int .u8 (y:Nat)] W fun e w'=>e=.returned (.int .i64 (-1))/\W=w' from by
  have:=Tryz.strings_IndexByte s2 (y:Int) W;rw [v1g _ y hy1 hy2 hs3] at this;exact this.mono fun _ _ ⟨he,hm⟩=>⟨he,hm.symm⟩))
 have e1:((49:Int) != (y:Int))=true:=by simp;omega
 have e2:(49 != y)=true:=by simp;omega
 have d1:decide ((x:Int)<128)=false:=by simp;omega
 have d2:((x:Int)==65533)=false:=by simp;omega
 have i1:(2:Int)<=n:=by omega
 have i2:(1:Int)<n:=by omega
 have hw2:IntKind.i64.wrap 2=2:=by decide
 have HHS:=kf hs3;clear hs3;go_enter Tryz.func228,Tryz.ntmps228;go_wp2_with (go_at_call 236;refine(HVR.out _).mono ?_;rintro e w2 ⟨rfl,hw⟩;rw [hw];clear hw);go_step3;go_upto_region 5 with fail;go_loopw [9] (fun vi wr=>vi=.int .i64 1/\wr=w) (fun _ _=>0)
 case atStart=>exact⟨rfl,rfl⟩
 case round =>
  obtain⟨rfl,rfl⟩:=hrel;go_upto_region 6 with fail;(try go_step3)
  go_upto_region 6 with fail;go_quiet (fail);go_upto_region 7 with fail;go_quiet ((go_at_call 235;first|exact z7a (HIB.out _)|exact z57 (HIB.out _)));go_wp2_with fail;simp only [Exit.noGoto_ret,Exit.inBlock];change bodyPost Tryz.prog _ (fun e w2=>e=.returned (.int .i64 (-1))/\Chg NoS wr w2) Exit.ret _ _;go_ret;exact⟨rfl,(Chg.refl _ _).drewN _⟩
theorem y97 (x:Nat) (h2:x<256) (w:World):Calls Tryz.prog 212 #[.string ⟨#[48,49,50,51,52,53,54,55,56,57,43,45,46]⟩,.int .i32 (x:Nat)] w fun e w'=>e=.returned (.bool (y5a x))/\Chg NoS w w':=by
 by_cases h:x<128
 ·have H:=Tryz.strings_ContainsRune_ascii numStr (x:Int) w (by omega) (by omega);rw [y75 ⟨x,h⟩] at H;exact H.mono fun _ _ ⟨he,hm⟩=>⟨he,by rw [hm];exact Chg.refl _ _⟩
 ·have HI:=kf (fun W=>y1m ⟨#[48,49,50,51,52,53,54,55,56,57,43,45,46]⟩ ⟨#[50,51,52,53,54,55,56,57,43,45,46]⟩ 13 rfl (by decide) (by decide) (fun _=>rfl) (by decide) (by decide) x (by omega) h2 W);have HN:=kf (show y5a x=false from by simp [y5a];omega);obtain⟨s,hs⟩:∃ s,(⟨#[48,49,50,51,52,53,54,55,56,57,43,45,46]⟩:ByteArray)=s:=⟨_,rfl⟩
  rw [hs] at HI ⊢;clear hs;go_enter Tryz.func212,Tryz.ntmps212;go_wp2_with (go_at_call 228;refine(HI.out _).mono ?_;rintro e w2 ⟨rfl,hc2⟩;have HC2:=kf hc2;clear hc2);go_ret;exact⟨by rw [HN.out];rfl,HC2.out⟩
theorem z73 (a b:ByteArray):Lib.compareBytes a.data.toList b.data.toList=z5q a b:=by
 have h:∀ x y:List UInt8,Lib.compareBytes x y=if Op.bytesLess x y then -1 else if x≠y then 1 else 0:=by
  intro x;induction x with
  |nil =>
   intro y;cases y with
   |nil=>simp [Lib.compareBytes,Op.bytesLess]
   |cons b y=>simp [Lib.compareBytes,Op.bytesLess]
  |cons a x ih =>
   intro y;cases y with
   |nil=>simp [Lib.compareBytes,Op.bytesLess]
   |cons b y =>
    rw [Lib.compareBytes,Go.Proofs.bytesLess_eq];by_cases h1:a<b
    ·have h2:a::x<b::y:=List.cons_lt_cons_iff.2 (.inl h1);simp [h1,h2]
    ·by_cases h2:b<a
     ·have h3:¬a::x<b::y:=fun h=>by
       rcases List.cons_lt_cons_iff.1 h with h|h
       ·exact h1 h
       ·rw [h.1] at h2;exact absurd h2 (UInt8.lt_irrefl _)
      have h4:a≠b:=fun h=>by rw [h] at h2;exact absurd h2 (UInt8.lt_irrefl _)
      simp [h1,h2,h3,h4]
     ·have h3:a=b:=UInt8.le_antisymm (UInt8.not_lt.1 h2) (UInt8.not_lt.1 h1);subst h3;rw [if_neg h1,if_neg h1,ih,Go.Proofs.bytesLess_eq]
      have h5:(a::x<a::y)↔x<y:=by
       rw [List.cons_lt_cons_iff];constructor
       ·rintro(h|h)
        ·exact absurd h h1
        ·exact h.2
       ·exact fun h=>.inr ⟨rfl,h⟩
      simp [h5]
 rw [h,z5q,ByteArray.toList_eq,ByteArray.toList_eq]
 have h6:(a.data.toList≠b.data.toList)↔a≠b:=by
  constructor
  ·exact fun h e=>h (by rw [e])
  ·exact fun h e=>h (z54 (by rw [ByteArray.toList_eq,ByteArray.toList_eq];exact e))
 simp only [h6]
theorem y9d (x y:Int):Lib.compareInt x y=z95 x y:=by
 unfold Lib.compareInt z95;repeat' split
 all_goals first|rfl|omega
def or3 (x y z:Int):Int:=if x≠0 then x else if y≠0 then y else z
theorem v5p (k n:Int) (s:ByteArray) (k' n':Int) (s':ByteArray):or3 (z95 k k') (z95 n n') (z5q s s')=z5r k n s k' n' s':=by rw [y9f];rfl
theorem v4e (g:Nat) (x y z:Int) (w:World) (hb:Blk w g 3 #[.int .i64 x,.int .i64 y,.int .i64 z]) :
  Calls Tryz.prog 88 #[.slice (some ⟨g,0,none⟩) 3 3] w fun e w'=>e=.returned (.int .i64 (or3 x y z))/\w'=w:=by
 have c0:=hb.cell 0;have c1:=hb.cell 1;have c2:=hb.cell 2;simp at c0 c1 c2;clear hb;have HE:Hid (∀ v,v=or3 x y z->Ending.returned (.int .i64 v)=.returned (.int .i64 (or3 x y z))):=fun v h=>by rw [h]
 go_enter Tryz.func88,Tryz.ntmps88;go_wp2_with fail;go_loop [8] (fun v=>(v=.int .i64 0)\/(v=.int .i64 1/\x=0)\/(v=.int .i64 2/\x=0/\y=0)\/(v=.int .i64 3/\x=0/\y=0/\z=0)) (fun v=>3-(intOf v).toNat)
 case atStart=>exact .inl rfl
 case round =>
  rcases hrel with rfl|⟨rfl,rfl⟩|⟨rfl,rfl,rfl⟩|⟨rfl,rfl,rfl,rfl⟩
  ·by_cases h:x=0
   ·subst h;go_wp2_with fail;go_round
    case rel=>exact .inr (.inl ⟨by go_num,by first|rfl|trivial⟩)
    case measure=>simp [intOf]
   ·have e1:(x==0)=false:=by simpa using h
    have e2:(x != 0)=true:=by simpa using h
    have HX:=kf h;clear h;go_wp2_with fail;go_ret;exact⟨HE.out _ (by rw [or3,if_pos HX.out]),rfl⟩
  ·by_cases h:y=0
   ·subst h;go_wp2_with fail;go_round
    case rel=>exact .inr (.inr (.inl ⟨by go_num,by first|rfl|trivial,by first|rfl|trivial⟩))
    case measure=>simp [intOf]
   ·have e1:(y==0)=false:=by simpa using h
    have e2:(y != 0)=true:=by simpa using h
    have HX:=kf h;clear h;go_wp2_with fail;go_ret;exact⟨HE.out _ (by rw [or3,if_neg (by simp),if_pos HX.out]),rfl⟩
  ·by_cases h:z=0
   ·subst h;go_wp2_with fail;go_round
    case rel=>exact .inr (.inr (.inr ⟨by go_num,by first|rfl|trivial,by first|rfl|trivial,by first|rfl|trivial⟩))
    case measure=>simp [intOf]
   ·have e1:(z==0)=false:=by simpa using h
    have e2:(z != 0)=true:=by simpa using h
    clear h;go_wp2_with fail;go_ret;exact⟨HE.out _ (by rw [or3,if_neg (by simp),if_neg (by simp)]),rfl⟩
  ·go_wp2_with fail;go_ret;exact⟨HE.out _ (by rw [or3,if_neg (by simp),if_neg (by simp)]),rfl⟩
theorem v2h (l l':List VT) (A A':Option Addr) (len cap len' cap':Nat) (w0 w:World) (hl:l.length=len) (hl':l'.length=len') (hm:len<=maxLen) (hm':len'<=maxLen) (hr:RowIs w0 A 0 l) (hr':RowIs w0 A' 0 l') (hc:Chg NoS w0 w)
  (hcmp:∀ t:VT,z2n t<=z7q l->∀ (t':VT) (c c':VC) (W:World),ValIs W t c->ValIs W t' c'->Calls Tryz.prog 51 #[c.val,c'.val] W fun e w'=>e=.returned (.int .i64 (z3o t t'))/\Chg NoS W w') :
  Calls Tryz.prog 90 #[.slice A len cap,.slice A' len' cap',.func (.func 51) #[] #[]] w fun e w'=>e=.returned (.int .i64 (z2d l l'))/\Chg NoS w w':=by
 unfold maxLen at hm hm';have HL:=kf hl;have HL':=kf hl';have HR:=kf hr;have HR':=kf hr';have HC:=kf hc;have HIH:=kf hcmp;clear hl hl' hr hr' hc hcmp;have eg:∀ args w,(callFunc 51 args).run Tryz.prog w=.ok (.enter 51 args) w:=fun args w=>rfl;go_enter Tryz.func90,Tryz.ntmps90;go_upto_region 2 with fail;go_loopw [13] (fun vj wr=>∃ j:Nat,j<=len/\j<=len'/\vj=.int .i64 (j:Nat)/\Hid (Chg NoS w wr)/\Hid (RowIs w0 A j (l.drop j))/\Hid (RowIs w0 A' j (l'.drop j))/\Hid (z2d l l'=z2d (l.drop j) (l'.drop j))) (fun vj _=>len-(intOf vj).toNat)
 case atStart=>exact⟨0,by omega,by omega,rfl,Chg.refl _ _,by rw [List.drop_zero];exact HR.out,by rw [List.drop_zero];exact HR'.out,kf (by rw [List.drop_zero,List.drop_zero])⟩
 case round =>
  obtain⟨j,hj,hj',rfl,HCW,HRW,HRW',HFW⟩:=hrel;have HCR:=kf (HC.out.trans HCW.out (fun _ _ e=>e));by_cases h1:j<len
  ·obtain⟨u,hu,hd⟩:=z0r (l:=l) (k:=j) (by rw [HL.out];exact h1)
   obtain⟨b,off,rfl⟩:∃ b off,A=some ⟨b,off,none⟩:=by
    have h:=HR.out;cases hll:l with
    |nil=>rw [hll] at hu;simp at hu
    |cons t0 l0=>rw [hll] at h;exact h.start
   have hrw:=HRW.out;rw [hd] at hrw;obtain⟨ek,en,es,eA,el,ec,c0,c1,c2,c3,hve,hre⟩:=hrw.at_ HCR.out;have i1:(j:Int)<len:=by omega
   by_cases h2:j<len'
   ·obtain⟨u',hu',hd'⟩:=z0r (l:=l') (k:=j) (by rw [HL'.out];exact h2)
    obtain⟨b',off',rfl⟩:∃ b off,A'=some ⟨b,off,none⟩:=by
     have h:=HR'.out;cases hll:l' with
     |nil=>rw [hll] at hu';simp at hu'
     |cons t0 l0=>rw [hll] at h;exact h.start
    have hrw':=HRW'.out;rw [hd'] at hrw';obtain⟨fk,fn,fs,fA,fl,fc,x0,x1,x2,x3,hvf,hrf⟩:=hrw'.at_ (HCR.out.alloc (.cells #[.int .i64 ek,.int .i64 en,.string es,.slice eA el ec] 25));have HX:=kf (fun(W:World) (h:Chg NoS (wr.alloc (.cells #[.int .i64 ek,.int .i64 en,.string es,.slice eA el ec] 25)) W)=>HIH.out u (z1r hu) u' ⟨ek,en,es,eA,el,ec⟩ ⟨fk,fn,fs,fA,fl,fc⟩ W (hve.chg (((Chg.refl NoS wr).alloc (.cells #[.int .i64 ek,.int .i64 en,.string es,.slice eA el ec] 25)).trans h (fun _ _ e=>e))) (hvf.chg h));unfold VC.val at HX;simp only [] at HX;have HRN:=kf hre;have HRN':=kf hrf;have HFN:=kf (show z2d l l'=if z3o u u'≠0 then z3o u u' else z2d (l.drop (j+1)) (l'.drop (j+1)) from by rw [HFW.out,hd,hd',z4t]);obtain⟨r,hr9⟩:∃ r,r=z3o u u':=⟨_,rfl⟩
    rw [<- hr9] at HX HFN;have i2:(j:Int)<len':=by omega
    have d1:decide ((len':Int)<=(j:Int))=false:=by simp;omega
    have d1':decide (len'<=j)=false:=by simp;omega
    clear hrw hrw' hve hvf hre hrf hd hd' hu hu' hr9;by_cases hr0:r=0
    ·subst hr0;have HFM:=kf (show z2d l l'=z2d (l.drop (j+1)) (l'.drop (j+1)) from by rw [HFN.out,if_neg (by simp)]);go_wp2_with (go_at_fn 51;refine(HX.out _ ((Chg.refl NoS _).alloc _)).mono ?_;rintro e w3 ⟨rfl,hc3⟩;have HC3:=kf (((HCW.out.alloc _).alloc _).trans hc3 (fun _ _ e=>e));clear hc3);go_roundw
     case rel=>exact⟨j+1,by omega,by omega,by go_num,HC3,HRN,HRN',HFM⟩
     case measure=>simp [intOf];omega
    ·have HFM:=kf (show z2d l l'=r from by rw [HFN.out,if_pos hr0]);have v2:(r != 0)=true:=by simpa using hr0
     have v3:(r==0)=false:=by simpa using hr0
     clear hr0;go_wp2_with (go_at_fn 51;refine(HX.out _ ((Chg.refl NoS _).alloc _)).mono ?_;rintro e w3 ⟨rfl,hc3⟩;have HC3:=kf (((HCW.out.alloc _).alloc _).trans hc3 (fun _ _ e=>e));clear hc3);go_ret;exact⟨z00 HFM.out.symm,HC3.out⟩
   ·have hz1:l'.drop j=[]:=List.drop_of_length_le (by rw [HL'.out];omega);have HE:=kf (show z2d l l'=1 from by rw [HFW.out,hd,hz1,z2d]);clear hz1;obtain rfl:j=len':=by omega
    clear hrw hd hu h2;go_wp2_with fail;go_ret;exact⟨z00 HE.out.symm,HCW.out.alloc _⟩
  ·obtain rfl:j=len:=by omega
   by_cases h2:j<len'
   ·obtain⟨u',hu',hd'⟩:=z0r (l:=l') (k:=j) (by rw [HL'.out];exact h2);have hz1:l.drop j=[]:=List.drop_of_length_le (Nat.le_of_eq HL.out);have HE:=kf (show z2d l l'=-1 from by rw [HFW.out,hd',hz1,z2d]);clear hz1;have d5:decide ((j:Int)<(len':Int))=true:=by simp;omega
    have d6:decide (j<len')=true:=by simp;omega
    clear hd' hu';go_wp2_with fail;go_ret;exact⟨z00 HE.out.symm,HCW.out⟩
   ·obtain rfl:j=len':=by omega
    have hz1:l.drop j=[]:=List.drop_of_length_le (Nat.le_of_eq HL.out);have hz2:l'.drop j=[]:=List.drop_of_length_le (Nat.le_of_eq HL'.out);have HE:=kf (show z2d l l'=0 from by rw [HFW.out,hz1,hz2,z2d]);clear hz1 hz2;go_wp2_with fail;go_ret;exact⟨z00 HE.out.symm,HCW.out⟩
theorem v2w {a b:Bool} (h:a=b):Ending.returned (.bool a)=.returned (.bool b):=by rw [h]
theorem y15 (t t':VT) (c c':VC) (w:World) (hv:ValIs w t c) (hv':ValIs w t' c') :
  Calls Tryz.prog 39 #[c.val,c'.val] w fun e w'=>e=.returned (.bool (decide (z3o t t'=0)))/\Chg NoS w w':=by
 have HC:=kf (fun W (h:ValIs W t c) (h':ValIs W t' c')=>v0q t t' c c' W h h');have HV:=kf hv;have HV':=kf hv';obtain⟨z,hz⟩:∃ z,z3o t t'=z:=⟨_,rfl⟩
 rw [hz] at HC ⊢;obtain⟨k,n,s,A,len,cap⟩:=c;obtain⟨k',n',s',A',len',cap'⟩:=c';unfold VC.val at HC ⊢;simp only [] at HC ⊢;clear hv hv' hz;have HB:=kf ((Blk.new w 25 #[.int .i64 k,.int .i64 n,.string s,.slice A len cap]).alloc (.cells #[.int .i64 k',.int .i64 n',.string s',.slice A' len' cap'] 25));have HB':=kf (Blk.new (w.alloc (.cells #[.int .i64 k,.int .i64 n,.string s,.slice A len cap] 25)) 25 #[.int .i64 k',.int .i64 n',.string s',.slice A' len' cap']);have hs1:(w.alloc (.cells #[.int .i64 k,.int .i64 n,.string s,.slice A len cap] 25)).heap.size=w.heap.size+1:=by simp
 rw [hs1] at HB';have HC0:=kf (((Chg.refl NoS w).alloc (.cells #[.int .i64 k,.int .i64 n,.string s,.slice A len cap] 25)).alloc (.cells #[.int .i64 k',.int .i64 n',.string s',.slice A' len' cap'] 25));by_cases h0:z=0
 ·subst h0;go_enter Tryz.func39,Tryz.ntmps39;go_upto_region 1 with fail;obtain⟨W0,hW⟩:∃ W,W=((w.alloc (.cells #[.int .i64 k,.int .i64 n,.string s,.slice A len cap] 25)).alloc (.cells #[.int .i64 k',.int .i64 n',.string s',.slice A' len' cap'] 25)):=⟨_,rfl⟩
  rw [<- hW] at HB HB' HC0 ⊢;clear hW hs1;have p0:=HB.out.cell 0;have p1:=HB.out.cell 1;have p2:=HB.out.cell 2;have p3:=HB.out.cell 3;have q0:=HB'.out.cell 0;have q1:=HB'.out.cell 1;have q2:=HB'.out.cell 2;have q3:=HB'.out.cell 3;simp at p0 p1 p2 p3 q0 q1 q2 q3;go_wp2_with (go_at_call 73;refine(HC.out _ (HV.out.chg HC0.out) (HV'.out.chg HC0.out)).mono ?_;rintro e w2 ⟨rfl,hc2⟩;have HC2:=kf (HC0.out.trans hc2 (fun _ _ e=>e));clear hc2);go_ret;exact⟨rfl,HC2.out⟩
 ·have HD:=kf (show decide (z=0)=false from by simpa using h0);have e0:(z==0)=false:=by simpa using h0
  clear h0;go_enter Tryz.func39,Tryz.ntmps39;go_upto_region 1 with fail;obtain⟨W0,hW⟩:∃ W,W=((w.alloc (.cells #[.int .i64 k,.int .i64 n,.string s,.slice A len cap] 25)).alloc (.cells #[.int .i64 k',.int .i64 n',.string s',.slice A' len' cap'] 25)):=⟨_,rfl⟩
  rw [<- hW] at HB HB' HC0 ⊢;clear hW hs1;have p0:=HB.out.cell 0;have p1:=HB.out.cell 1;have p2:=HB.out.cell 2;have p3:=HB.out.cell 3;have q0:=HB'.out.cell 0;have q1:=HB'.out.cell 1;have q2:=HB'.out.cell 2;have q3:=HB'.out.cell 3;simp at p0 p1 p2 p3 q0 q1 q2 q3;go_wp2_with (go_at_call 73;refine(HC.out _ (HV.out.chg HC0.out) (HV'.out.chg HC0.out)).mono ?_;rintro e w2 ⟨rfl,hc2⟩;have HC2:=kf (HC0.out.trans hc2 (fun _ _ e=>e));clear hc2);go_ret;exact⟨v2w HD.out.symm,HC2.out⟩
theorem v89:∀ (N:Nat) (t:VT),z2n t<=N->∀ (t':VT) (c c':VC) (w:World),ValIs w t c->ValIs w t' c' ->
  Calls Tryz.prog 51 #[c.val,c'.val] w fun e w'=>e=.returned (.int .i64 (z3o t t'))/\Chg NoS w w':=by
 intro N;induction N with
 |zero =>
  intro t ht;obtain⟨k,n,s,l⟩:=t;rw [z0x] at ht;omega
 |succ N ih =>
  intro t ht t' c c' w hv hv';obtain⟨tk,tn,ts,l⟩:=t;obtain⟨tk',tn',ts',l'⟩:=t';obtain⟨h1,h2,h3,hg,hl,hr⟩:=hv.inv;obtain⟨h1',h2',h3',hg',hl',hr'⟩:=hv'.inv;obtain⟨k,n,s,A,len,cap⟩:=c;obtain⟨k',n',s',A',len',cap'⟩:=c';simp only [] at h1 h2 h3 hl hr h1' h2' h3' hl' hr';subst h1 h2 h3 h1' h2' h3';rw [z0x] at ht;have hlm:=hg.len;have hlm':=hg'.len;simp only [] at hlm hlm';unfold VC.val;simp only [];have HF:=kf (fun(W:World) (h:Chg NoS w W)=>v2h l l' A A' len cap len' cap' w W hl hl' hlm hlm' hr hr' h (fun t ht'=>ih t (by omega)));have HI:=kf (fun(x y:Int) (W:World)=>(Go.Proofs.Tryz.cmp_Compare_int x y W).mono (fun e w' h=>(⟨h.1.trans (z00 (y9d x y)),h.2⟩:e=.returned (.int .i64 (z95 x y))/\w'=W)));have HS:=kf (fun(W:World)=>(Go.Proofs.Tryz.strings_Compare s s' W).mono (fun e w' h=>(⟨h.1.trans (z00 (z73 s s')),h.2⟩:e=.returned (.int .i64 (z5q s s'))/\w'=W)));have hb:=((Blk.new w 25 #[.int .i64 k,.int .i64 n,.string s,.slice A len cap]).alloc (.cells #[.int .i64 k',.int .i64 n',.string s',.slice A' len' cap'] 25))
  have hb2:=Blk.new (w.alloc (.cells #[.int .i64 k,.int .i64 n,.string s,.slice A len cap] 25)) 25 #[.int .i64 k',.int .i64 n',.string s',.slice A' len' cap'];rw [World.size_alloc] at hb2;have HC0:=kf (((Chg.refl NoS w).alloc (.cells #[.int .i64 k,.int .i64 n,.string s,.slice A len cap] 25)).alloc (.cells #[.int .i64 k',.int .i64 n',.string s',.slice A' len' cap'] 25));obtain⟨W0,hW⟩:∃ W0,W0=(w.alloc (.cells #[.int .i64 k,.int .i64 n,.string s,.slice A len cap] 25)).alloc (.cells #[.int .i64 k',.int .i64 n',.string s',.slice A' len' cap'] 25):=⟨_,rfl⟩
  obtain⟨g,hgg⟩:∃ g,g=w.heap.size:=⟨_,rfl⟩
  rw [<- hW] at hb hb2 HC0;rw [<- hgg] at hb hb2;have p0:=hb.cell 0;have p1:=hb.cell 1;have p2:=hb.cell 2;have q0:=hb2.cell 0;have q1:=hb2.cell 1;have q2:=hb2.cell 2;simp at p0 p1 p2 q0 q1 q2;obtain⟨x,hx⟩:∃ x,x=z95 k k':=⟨_,rfl⟩
  obtain⟨y,hy⟩:∃ y,y=z95 n n':=⟨_,rfl⟩
  obtain⟨z,hz⟩:∃ z,z=z5q s s':=⟨_,rfl⟩
  obtain⟨r,hr9⟩:∃ r,r=or3 x y z:=⟨_,rfl⟩
  have hh:z5r k n s k' n' s'=r:=by rw [hr9,hx,hy,hz,v5p]
  have HIx:=kf (fun W=>HI.out k k' W);have HIy:=kf (fun W=>HI.out n n' W);rw [<- hx] at HIx;rw [<- hy] at HIy;rw [<- hz] at HS;have HO:=kf (fun(gg:Nat) (W:World) (h:Blk W gg 3 #[.int .i64 x,.int .i64 y,.int .i64 z])=>v4e gg x y z W h);rw [<- hr9] at HO;have HBV:=kf hb;have HBV':=kf hb2;clear hv hv' hg hg' hl hl' hr hr' ih ht HI hx hy hz hr9 hb hb2;go_enter Tryz.func51,Tryz.ntmps51;go_upto_region 1 with fail;rw [<- hgg,<- hW];clear hgg hW;refine wp_region_still_tail 15 (by kernel_rfl) (by kernel_rfl) ?_;simp only [List.take_succ_cons,List.take_zero,List.drop_succ_cons,List.drop_zero];change wpStill _ _ W0.drew _ _ _;repeat still_step
  still_call (HIx.out _)
  repeat still_step
  still_call (HIy.out _)
  repeat still_step
  still_call (HS.out _)
  repeat still_step
  refine wpStill_nil ?_;change wpList _ _ _ _ _ W0.drew;by_cases hr0:r=0
  ·subst hr0;have HE:=kf (show z3o (.mk k n s l) (.mk k' n' s' l')=z2d l l' from by rw [z5l,hh,if_neg (by simp)]);have c3:=(HBV.out.alloc (.cells #[.int .i64 x,.int .i64 y,.int .i64 z] 3)).drew.cell 3;have d3:=(HBV'.out.alloc (.cells #[.int .i64 x,.int .i64 y,.int .i64 z] 3)).drew.cell 3;simp at c3 d3;clear hh
   go_wp2_with (first
    |(go_at_call 88;refine(HO.out _ _ (Blk.new W0.drew 3 #[.int .i64 x,.int .i64 y,.int .i64 z])).mono ?_;rintro e w3 ⟨rfl,rfl⟩)
    |(go_at_call 90;refine(HF.out _ (HC0.out.drew.alloc _)).mono ?_;rintro e w4 ⟨rfl,hc4⟩;have HC4:=kf ((HC0.out.drew.alloc _).trans hc4 (fun _ _ e=>e));clear hc4))
   go_ret;exact⟨z00 HE.out.symm,HC4.out⟩
  ·have HE:=kf (show z3o (.mk k n s l) (.mk k' n' s' l')=r from by rw [z5l,hh,if_pos hr0]);have e1:(r==0)=false:=by simpa using hr0
   have e2:(r != 0)=true:=by simpa using hr0
   clear hh hr0;go_wp2_with (go_at_call 88;refine(HO.out _ _ (Blk.new W0.drew 3 #[.int .i64 x,.int .i64 y,.int .i64 z])).mono ?_;rintro e w3 ⟨rfl,rfl⟩);go_ret;exact⟨z00 HE.out.symm,HC0.out.drew.alloc _⟩
theorem v5o (t t':VT) (c c':VC) (w:World) (hv:ValIs w t c) (hv':ValIs w t' c') :
  Calls Tryz.prog 51 #[c.val,c'.val] w fun e w'=>e=.returned (.int .i64 (z3o t t'))/\Chg NoS w w':=v89 _ t (Nat.le_refl _) t' c c' w hv hv'
theorem y2l (t t':VT) (c c':VC) (w:World) (hv:ValIs w t c) (hv':ValIs w t' c') :
  Calls Tryz.prog 25 #[c.val,c'.val] w fun e w'=>e=.returned (.bool (decide (z3o t t'=0)))/\Chg NoS w w':=by
 have HX:=kf (fun W (h:Chg NoS w W)=>v5o t t' c c' W (hv.chg h) (hv'.chg h));obtain⟨k,n,s,A,len,cap⟩:=c;obtain⟨k',n',s',A',len',cap'⟩:=c';unfold VC.val at HX ⊢;simp only [] at HX ⊢;have hb:=((Blk.new w 25 #[.int .i64 k,.int .i64 n,.string s,.slice A len cap]).alloc (.cells #[.int .i64 k',.int .i64 n',.string s',.slice A' len' cap'] 25))
 have p0:=hb.cell 0;have p1:=hb.cell 1;have p2:=hb.cell 2;have p3:=hb.cell 3;simp at p0 p1 p2 p3;clear hb hv hv';obtain⟨r,hr9⟩:∃ r,r=z3o t t':=⟨_,rfl⟩
 rw [<- hr9] at HX ⊢;clear hr9;have HC0:=kf (((Chg.refl NoS w).alloc (.cells #[.int .i64 k,.int .i64 n,.string s,.slice A len cap] 25)).alloc (.cells #[.int .i64 k',.int .i64 n',.string s',.slice A' len' cap'] 25));by_cases h0:r=0
 ·subst h0;go_enter Tryz.func25,Tryz.ntmps25;go_wp2_with (go_at_call 51;refine(HX.out _ HC0.out).mono ?_;rintro e w3 ⟨rfl,hc3⟩;have HC3:=kf (HC0.out.trans hc3 (fun _ _ e=>e));clear hc3);go_ret;exact⟨rfl,HC3.out⟩
 ·have e1:(r==0)=false:=by simpa using h0
  have HZ:=kf h0;clear h0;go_enter Tryz.func25,Tryz.ntmps25;go_wp2_with (go_at_call 51;refine(HX.out _ HC0.out).mono ?_;rintro e w3 ⟨rfl,hc3⟩;have HC3:=kf (HC0.out.trans hc3 (fun _ _ e=>e));clear hc3);go_ret;exact⟨v2w (by simp [HZ.out]),HC3.out⟩
end Go.Proofs.YtnhlalkeaaiefaaGreatDoor
