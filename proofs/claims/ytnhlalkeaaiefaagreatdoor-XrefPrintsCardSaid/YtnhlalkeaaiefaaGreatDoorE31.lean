import Derived.Test.YtnhlalkeaaiefaaGreatDoorE26
set_option linter.unusedVariables false
set_option maxHeartbeats 64000000
set_option maxRecDepth 100000
set_option linter.unusedSimpArgs false
namespace Go.Proofs.YtnhlalkeaaiefaaGreatDoor
open Go.RowKit
def z2b (e:XEn):Bool:=decide (0<=e.pl)&&(decide (e.pl<=2147483647)&&(decide (0<=e.gen)&&decide (e.gen<=65535)))
def y4s (b:Bool):Nat:=if b then 110 else 102
def z15 (e:XEn):List Nat:=txt e.pl.toNat 10++[32]++txt e.gen.toNat 5++[32]++[y4s e.us]++[32,10]
theorem z6t {e:XEn} (h:z2b e=true):0<=e.pl/\e.pl<=2147483647/\0<=e.gen/\e.gen<=65535:=by
 unfold z2b at h;simp only [Bool.and_eq_true,decide_eq_true_eq] at h;omega
theorem y22 (e:XEn) (w:World):Calls Tryz.prog 29 #[.agg e.cells.toArray] w fun r w'=>r=.returned (.bool (z2b e))/\Chg NoS w w':=by
 obtain⟨p,g,u⟩:=e;have HX:∀ y,z2b ⟨p,g,u⟩=y->Hid (z2b ⟨p,g,u⟩=y):=fun _ h=>h;show Calls _ _ #[.agg #[.int .i64 p,.int .i64 g,.bool u]] _ _;by_cases h0:0<=p;rotate_left
 ·have d0:decide (0<=p)=false:=by simpa using h0
  have HY:=HX false (by unfold z2b;simp [h0]);rw [HY.out];clear HX HY h0;go_enter Tryz.func29,Tryz.ntmps29;go_wp2_with fail;go_ret;exact⟨rfl,(Chg.refl NoS w).alloc _⟩
 by_cases h1:p<=2147483647;rotate_left
 ·have d1:decide (p<=2147483647)=false:=by simpa using h1
  have HY:=HX false (by unfold z2b;simp [h0,h1]);rw [HY.out];clear HX HY h1;go_enter Tryz.func29,Tryz.ntmps29;go_wp2_with fail;go_ret;exact⟨rfl,(Chg.refl NoS w).alloc _⟩
 by_cases h2:0<=g;rotate_left
 ·have d2:decide (0<=g)=false:=by simpa using h2
  have HY:=HX false (by unfold z2b;simp [h0,h1,h2]);rw [HY.out];clear HX HY h2;go_enter Tryz.func29,Tryz.ntmps29;go_wp2_with fail;go_ret;exact⟨rfl,(Chg.refl NoS w).alloc _⟩
 by_cases h3:g<=65535;rotate_left
 ·have d3:decide (g<=65535)=false:=by simpa using h3
  have HY:=HX false (by unfold z2b;simp [h0,h1,h2,h3]);rw [HY.out];clear HX HY h3;go_enter Tryz.func29,Tryz.ntmps29;go_wp2_with fail;go_ret;exact⟨rfl,(Chg.refl NoS w).alloc _⟩
 have HY:=HX true (by unfold z2b;simp [h0,h1,h2,h3]);rw [HY.out];clear HX HY;go_enter Tryz.func29,Tryz.ntmps29;go_wp2_with fail;go_ret;exact⟨rfl,(Chg.refl NoS w).alloc _⟩
theorem z3z {n k:Nat} (hk:(dn n).length<=k):(txt n k).length=k:=by
 unfold txt;rw [List.length_append,List.length_replicate];omega
theorem y2z {n:Int} {k:Nat} (h0:0<=n) (hk:(dn n.toNat).length<=k) (h1:1<=k) (h2:k<=20):z27 n (k:Nat)=(txt n.toNat k,0):=by
 unfold z27;rw [if_neg]
 ·rw [Int.toNat_natCast]
 ·rw [Int.toNat_natCast,z3z hk];omega
theorem z6g (a b:List Nat):sb a++sb b=sb (a++b):=by rw [z0e]
theorem z4x (e:XEn) (w:World) (hL:LibOk w) (hp:-9223372036854775808<=e.pl/\e.pl<=9223372036854775807) (hg:-9223372036854775808<=e.gen/\e.gen<=9223372036854775807) :
  Calls Tryz.prog 12 #[.agg e.cells.toArray] w fun r w'=>r=.returned (.tuple #[.string (if z2b e then sb (z15 e) else⟨#[]⟩),.int .i64 (if z2b e then 0 else 2)])/\Chg NoS w w':=by
 have HM:=kf (fun W=>y22 e W);have HOK:=kf (fun h=>z6t (e:=e) h);obtain⟨m,hm⟩:∃ m,m=z2b e:=⟨_,rfl⟩
 rw [<- hm] at HM HOK ⊢;have HLN:=kf (show z15 e=txt e.pl.toNat 10++[32]++txt e.gen.toNat 5++[32]++[y4s e.us]++[32,10] from rfl);obtain⟨L,hLn⟩:∃ L,L=z15 e:=⟨_,rfl⟩
 rw [<- hLn] at HLN ⊢;have HPA:=kf (fun W (hW:Chg NoS w W)=>y71 e.pl 10 W hp (by decide) (hL.chg hW));have HPB:=kf (fun W (hW:Chg NoS w W)=>y71 e.gen 5 W hg (by decide) (hL.chg hW));obtain⟨p,g,u⟩:=e;simp only [] at HPA HPB HOK HLN hp hg;unfold XEn.cells at HM ⊢;simp only [] at HM ⊢;have HB:=kf (Blk.new w 29 #[.int .i64 p,.int .i64 g,.bool u]);have HC:=kf ((Chg.refl NoS w).alloc (.cells #[.int .i64 p,.int .i64 g,.bool u] 29));clear hL hm hLn;go_enter Tryz.func12,Tryz.ntmps12;go_upto_region 1 with fail;obtain⟨W1,hW1⟩:∃ W1,W1=w.alloc (.cells #[.int .i64 p,.int .i64 g,.bool u] 29):=⟨_,rfl⟩
 obtain⟨g1,hg1⟩:∃ g1,g1=w.heap.size:=⟨_,rfl⟩
 rw [<- hW1] at HB HC ⊢;rw [<- hg1] at HB ⊢;clear hW1 hg1;obtain⟨p0,p1,p2,-⟩:=HB.out.cl3;go_upto_region 1 with fail;cases m with
 |false =>
  go_wp2_with (go_at_call 29;refine(HM.out _).mono ?_;rintro e w2 ⟨rfl,hc2⟩;have HC2:=kf (HC.out.trans hc2 (fun _ _ e=>e));clear hc2);go_ret2;exact⟨rfl,HC2.out⟩
 |true =>
  have HK:=kf (HOK.out rfl);have hp1:=y2z (n:=p) (k:=10) HK.out.1 (z0v (by have:=HK.out;omega)) (by decide) (by decide);have hp2:=y2z (n:=g) (k:=5) HK.out.2.2.1 (z0v (by have:=HK.out;omega)) (by decide) (by decide);rw [show((10:Nat):Int)=10 from rfl] at hp1;rw [show((5:Nat):Int)=5 from rfl] at hp2;rw [hp1] at HPA;rw [hp2] at HPB;simp only [] at HPA HPB;obtain⟨S1,hS1⟩:∃ S,S=sb (txt p.toNat 10):=⟨_,rfl⟩
  obtain⟨S2,hS2⟩:∃ S,S=sb (txt g.toNat 5):=⟨_,rfl⟩
  obtain⟨S3,hS3⟩:∃ S,S=sb [y4s u]:=⟨_,rfl⟩
  rw [<- hS1] at HPA;rw [<- hS2] at HPB;have z1:S1.size=10:=by rw [hS1,z01,z3z (z0v (by have:=HK.out;omega))]
  have z2:S2.size=5:=by rw [hS2,z01,z3z (z0v (by have:=HK.out;omega))]
  have HE:=kf (show S1++⟨#[32]⟩++S2++⟨#[32]⟩++S3++⟨#[32,10]⟩=sb L from by
   rw [hS1,hS2,hS3,HLN.out,show(⟨#[32]⟩:ByteArray)=sb [32] from rfl,show(⟨#[32,10]⟩:ByteArray)=sb [32,10] from rfl];simp only [z6g])
  have z3:S3.size=1:=by rw [hS3,z01];rfl
  have HS3:=kf hS3;clear hS1 hS2 hS3 hp1 hp2
  go_upto_region 5 with(first
   |(go_at_call 29;refine(HM.out _).mono ?_;rintro e w2 ⟨rfl,hc2⟩;have HC2:=kf (HC.out.trans hc2 (fun _ _ e=>e));obtain⟨p0,p1,p2,-⟩:=(HB.out.chg hc2 (fun e=>e)).cl3;have HB2:=kf (HB.out.chg hc2 (fun e=>e));clear hc2)
   |(have hgo:=HC3.out;clear hgo;go_at_call 30;refine(HPB.out _ HC3.out).mono ?_;rintro e w4 ⟨rfl,hc4⟩;have HC4:=kf (HC3.out.trans hc4 (fun _ _ e=>e));obtain⟨r0,r1,r2,-⟩:=(HB3.out.chg hc4 (fun e=>e)).cl3;have HB4:=kf (HB3.out.chg hc4 (fun e=>e));clear hc4)
   |(go_at_call 30;refine(HPA.out _ HC2.out).mono ?_;rintro e w3 ⟨rfl,hc3⟩;have HC3:=kf (HC2.out.trans hc3 (fun _ _ e=>e));obtain⟨q0,q1,q2,-⟩:=(HB2.out.chg hc3 (fun e=>e)).cl3;have HB3:=kf (HB2.out.chg hc3 (fun e=>e));clear hc3))
  cases u with
  |true =>
   have hs3:S3=⟨#[110]⟩:=HS3.out;subst hs3;go_wp2_with fail;go_ret2;exact⟨by rw [<- HE.out];rfl,HC4.out⟩
  |false =>
   have hs3:S3=⟨#[102]⟩:=HS3.out;subst hs3;go_wp2_with fail;go_ret2;exact⟨by rw [<- HE.out];rfl,HC4.out⟩
theorem v9d (p:Nat) (h:p<1000000):∃ c m,txt p 6=c::m/\m.length=5:=by
 have h1:=z0v (n:=p) (k:=6) (by omega);have hl:(txt p 6).length=6:=by rw [z1d];omega
 rcases hx:txt p 6 with _|⟨c,m⟩
 ·rw [hx] at hl;simp at hl
 ·rw [hx] at hl;exact⟨c,m,rfl,by simpa using hl⟩
theorem y28 (p:Nat) (h:p<1000000):(z1e 5 (txt p 6)).length<=6:=by
 obtain⟨c,m,e,hm⟩:=v9d p h;have:=z9j m;rw [e,y5y c 5 m hm,List.length_cons];omega
theorem z9u (p:Nat) (h:p<1000000) (w:World) :
  Calls Tryz.prog 165 #[.string (sb (txt p 6))] w fun e w'=>e=.returned (.string (sb (z1e 5 (txt p 6))))/\Chg NoS w w':=by
 have hd:=y92 (z52 p 6);obtain⟨c,m,e,hm⟩:=v9d p h;rw [e] at hd ⊢;exact z9t c m hd hm w
theorem y01 (k n:Int) (s:ByteArray) (A:Option Addr) (len cap:Nat) (w:World) (hL:LibOk w) :
  Calls Tryz.prog 134 #[.agg #[.int .i64 k,.int .i64 n,.string s,.slice A len cap]] w (PrTo w k n s.size len):=by
 have HL:=kf hL;have HCH:=kf (fun W=>z2a k n s A len cap W);have HB:=kf (Blk.new w 25 #[.int .i64 k,.int .i64 n,.string s,.slice A len cap]);have HA:=kf ((Chg.refl NoS w).alloc (.cells #[.int .i64 k,.int .i64 n,.string s,.slice A len cap] 25));obtain⟨W,hW⟩:∃ W,W=w.alloc (.cells #[.int .i64 k,.int .i64 n,.string s,.slice A len cap] 25):=⟨_,rfl⟩
 obtain⟨g,hg⟩:∃ g,g=w.heap.size:=⟨_,rfl⟩
 rw [<- hW] at HB HA;rw [<- hg] at HB;by_cases hc:z05 k n s.size len=0
 ·have hm:=hc;unfold z05 at hm;split at hm
  ·rename_i h;obtain⟨h1,h2,h3⟩:=h;obtain rfl:=z0t h1;subst h2
   have HC:Hid (∀ W,Calls Tryz.prog 103 #[.agg #[.int .i64 k,.int .i64 n,.string ⟨#[]⟩,.slice A 0 cap]] W fun e w'=>e=.returned (.int .i64 0)/\Chg NoS W w'):=fun W=>by
    have h:=HCH.out W;rw [hc] at h;exact h
   have HP:Hid (∀ l:List Nat,(if k=2 then z06 n else z0q n)=l->y02 k n (ByteArray.mk #[]).size 0=(l,0)):=fun l hl=>by
    unfold y02;rw [if_pos hc,hl]
   clear hc hm h1 HCH hL;rcases h3 with⟨hk,b1,b2⟩|⟨hk,b1,b2⟩
   ·obtain rfl:k=2:=hk;by_cases hn:n<0
    ·obtain⟨m,rfl⟩:∃ m:Nat,n=-(m:Int):=⟨n.natAbs,by omega⟩
     have d1:decide (-(m:Int)<0)=true:=by simpa using hn
     have d2:decide (0<(m:Int))=true:=by simp;omega
     have d3:decide (0<m)=true:=by simp;omega
     have hm9:m<=2147483647000000:=by omega
     have HI:=kf (fun W h=>z4o m (by omega) W h);obtain⟨t,ht⟩:∃ t,sb (txt m 1)=t:=⟨_,rfl⟩
     obtain⟨L,hLn⟩:∃ L,t.size=L:=⟨_,rfl⟩
     have hL20:L<=100:=by
      have h1:(dn m).length<=19:=z0v (by omega);rw [<- hLn,<- ht,z01,z1d];omega
     rw [ht] at HI;have i1:¬9223372036854775807<1+L:=by omega
     have i2:1+L<=9223372036854775807:=by omega
     have i3:¬9223372036854775807<L:=by omega
     have i4:L<=9223372036854775807:=by omega
     have HE:Hid (ByteArray.mk #[45]++t=sb (z06 (-(m:Int)))):=by
      show _=_;rw [<- ht,show ByteArray.mk #[45]=sb [45] from rfl,z0e,z06,z33,if_pos (by omega),show(-(m:Int)).natAbs=m from by omega]
     have HPP:=kf (HP.out _ rfl);rw [if_pos rfl] at HPP;clear ht HP b1 b2 hn;go_enter Tryz.func134,Tryz.ntmps134;go_upto_region 1 with fail;rw [<- hW,<- hg];clear hW hg;have q0:=HB.out.cell 0;have q1:=HB.out.cell 1;have q2:=HB.out.cell 2;have q3:=HB.out.cell 3;simp at q0 q1 q2 q3;go_upto_region 2 with(go_at_call 103;refine(HC.out _).mono ?_;rintro e w2 ⟨rfl,hc2⟩;have HB2:=kf (HB.out.chg hc2 (fun h=>h));have HC2:=kf (HA.out.trans hc2 (fun _ _ h=>h));clear hc2);clear q0 q1 q2 q3;have q0:=HB2.out.cell 0;have q1:=HB2.out.cell 1;simp at q0 q1;go_upto_region 4 with fail;go_quiet (fail);have HL2:=kf ((HL.out.chg HC2.out).chg ((Chg.refl NoS _).drewN nq));have HC3:=kf (HC2.out.drewN nq);go_wp2_with (go_at_call 100;refine(HI.out _ HL2.out).mono ?_;rintro e w5 ⟨rfl,hc5⟩;have HC5:=kf (HC3.out.trans hc5 (fun _ _ h=>h));clear hc5);go_ret2;refine PrTo.of HPP.out ?_ HC5.out;rw [<- HE.out];first|done|rfl|exact sb_ne _
    ·obtain⟨m,rfl⟩:∃ m:Nat,n=(m:Int):=⟨n.natAbs,by omega⟩
     have d1:decide ((m:Int)<0)=false:=by simp
     clear hn;have HI:=kf (fun W h=>z4o m (by omega) W h);obtain⟨t,ht⟩:∃ t,sb (txt m 1)=t:=⟨_,rfl⟩
     obtain⟨L,hLn⟩:∃ L,t.size=L:=⟨_,rfl⟩
     have hL20:L<=100:=by
      have h1:(dn m).length<=19:=z0v (by omega);rw [<- hLn,<- ht,z01,z1d];omega
     rw [ht] at HI;have i1:¬9223372036854775807<1+L:=by omega
     have i2:1+L<=9223372036854775807:=by omega
     have i3:¬9223372036854775807<L:=by omega
     have i4:L<=9223372036854775807:=by omega
     have HE:Hid (t=sb (z06 ((m:Int)))):=by
      show _=_;rw [<- ht,z06,z33,if_neg (by omega),show(m:Int).natAbs=m from by omega];rfl
     have HPP:=kf (HP.out _ rfl);rw [if_pos rfl] at HPP;clear ht HP b1 b2;go_enter Tryz.func134,Tryz.ntmps134;go_upto_region 1 with fail;rw [<- hW,<- hg];clear hW hg;have q0:=HB.out.cell 0;have q1:=HB.out.cell 1;have q2:=HB.out.cell 2;have q3:=HB.out.cell 3;simp at q0 q1 q2 q3;go_upto_region 2 with(go_at_call 103;refine(HC.out _).mono ?_;rintro e w2 ⟨rfl,hc2⟩;have HB2:=kf (HB.out.chg hc2 (fun h=>h));have HC2:=kf (HA.out.trans hc2 (fun _ _ h=>h));clear hc2);clear q0 q1 q2 q3;have q0:=HB2.out.cell 0;have q1:=HB2.out.cell 1;simp at q0 q1;go_upto_region 4 with fail;go_quiet (fail);have HL2:=kf ((HL.out.chg HC2.out).chg ((Chg.refl NoS _).drewN nq));have HC3:=kf (HC2.out.drewN nq);go_wp2_with (go_at_call 100;refine(HI.out _ HL2.out).mono ?_;rintro e w5 ⟨rfl,hc5⟩;have HC5:=kf (HC3.out.trans hc5 (fun _ _ h=>h));clear hc5);go_ret2;refine PrTo.of HPP.out ?_ HC5.out;rw [<- HE.out];first|done|rfl|exact sb_ne _
   ·obtain rfl:k=3:=hk;by_cases hn:n<0
    ·obtain⟨m,rfl⟩:∃ m:Nat,n=-(m:Int):=⟨n.natAbs,by omega⟩
     have d1:decide (-(m:Int)<0)=true:=by simpa using hn
     have d2:decide (0<(m:Int))=true:=by simp;omega
     have d3:decide (0<m)=true:=by simp;omega
     have hm9:m<=2147483647000000:=by omega
     obtain⟨q,hq⟩:∃ q:Nat,m / 1000000=q:=⟨_,rfl⟩
     obtain⟨p,hp⟩:∃ p:Nat,m%1000000=p:=⟨_,rfl⟩
     have hp6:p<1000000:=by omega
     have hq9:q<=2147483647:=by omega
     have HI:=kf (fun W h=>z4o q (by omega) W h);have HD:=kf (fun W h=>z5d p 6 (by omega) ⟨by omega,by omega⟩ W h);have HS:=kf (fun W=>z9u p hp6 W);obtain⟨t,ht⟩:∃ t,sb (txt q 1)=t:=⟨_,rfl⟩
     obtain⟨L,hLn⟩:∃ L,t.size=L:=⟨_,rfl⟩
     have hL20:L<=100:=by
      have h1:(dn q).length<=19:=z0v (by omega);rw [<- hLn,<- ht,z01,z1d];omega
     obtain⟨u,hu⟩:∃ u,sb (z1e 5 (txt p 6))=u:=⟨_,rfl⟩
     obtain⟨M,hMn⟩:∃ M,u.size=M:=⟨_,rfl⟩
     have hM20:M<=100:=by
      have h1:=y28 p hp6;rw [<- hMn,<- hu,z01];omega
     obtain⟨v,hv⟩:∃ v,sb (txt p 6)=v:=⟨_,rfl⟩
     rw [ht] at HI;rw [hu,hv] at HS;rw [hv] at HD;have i1:¬9223372036854775807<1+L:=by omega
     have i2:1+L<=9223372036854775807:=by omega
     have i3:¬9223372036854775807<L:=by omega
     have i4:L<=9223372036854775807:=by omega
     have i5:¬9223372036854775807<1+L+1:=by omega
     have i6:1+L+1<=9223372036854775807:=by omega
     have i7:¬9223372036854775807<L+1:=by omega
     have i8:L+1<=9223372036854775807:=by omega
     have i9:¬9223372036854775807<1+L+1+M:=by omega
     have i10:1+L+1+M<=9223372036854775807:=by omega
     have i11:¬9223372036854775807<L+1+M:=by omega
     have i12:L+1+M<=9223372036854775807:=by omega
     have t1:(m:Int).tdiv 1000000=(q:Int):=by rw [Int.tdiv_eq_ediv_of_nonneg (by omega)];omega
     have t2:(m:Int).tmod 1000000=(p:Int):=by rw [Int.tmod_eq_emod_of_nonneg (by omega)];omega
     have t3:(m:Int) / 1000000=(q:Int):=by omega
     have t4:(m:Int)%1000000=(p:Int):=by omega
     have HE:Hid (ByteArray.mk #[45]++t++ByteArray.mk #[46]++u=sb (z0q (-(m:Int)))):=by
      show _=_;rw [<- ht,<- hu,show ByteArray.mk #[45]=sb [45] from rfl,show ByteArray.mk #[46]=sb [46] from rfl,z0e,z0e,z0e,z0q,z33,if_pos (by omega),show(-(m:Int)).natAbs=m from by omega,hq,hp];simp
     have HPP:=kf (HP.out _ rfl);rw [if_neg (by decide)] at HPP;clear ht hu hv hq hp HP b1 b2 hn;go_enter Tryz.func134,Tryz.ntmps134;go_upto_region 1 with fail;rw [<- hW,<- hg];clear hW hg;have q0:=HB.out.cell 0;have q1:=HB.out.cell 1;have q2:=HB.out.cell 2;have q3:=HB.out.cell 3;simp at q0 q1 q2 q3;go_upto_region 2 with(go_at_call 103;refine(HC.out _).mono ?_;rintro e w2 ⟨rfl,hc2⟩;have HB2:=kf (HB.out.chg hc2 (fun h=>h));have HC2:=kf (HA.out.trans hc2 (fun _ _ h=>h));clear hc2);clear q0 q1 q2 q3;have q0:=HB2.out.cell 0;have q1:=HB2.out.cell 1;simp at q0 q1;go_upto_region 4 with fail;go_quiet (fail);have HL2:=kf ((HL.out.chg HC2.out).chg ((Chg.refl NoS _).drewN nq));have HC3:=kf (HC2.out.drewN nq);go_wp2_with first|(go_at_call 100;refine(HI.out _ HL2.out).mono ?_;rintro e w5 ⟨rfl,hc5⟩;have HL5:=kf (HL2.out.chg hc5);have HC5:=kf (HC3.out.trans hc5 (fun _ _ h=>h));clear hc5)|(go_at_call 62;refine(HD.out _ HL5.out).mono ?_;rintro e w6 ⟨rfl,hc6⟩;have HC6:=kf (HC5.out.trans hc6 (fun _ _ h=>h));clear hc6)|(go_at_call 165;refine(HS.out _).mono ?_;rintro e w7 ⟨rfl,hc7⟩;have HC7:=kf (HC6.out.trans hc7 (fun _ _ h=>h));clear hc7)
     go_ret2;refine PrTo.of HPP.out ?_ HC7.out;rw [<- HE.out];first|done|rfl|(rw [sb_ne];rfl)|simp [sb_ne]
    ·obtain⟨m,rfl⟩:∃ m:Nat,n=(m:Int):=⟨n.natAbs,by omega⟩
     have d1:decide ((m:Int)<0)=false:=by simp
     clear hn;obtain⟨q,hq⟩:∃ q:Nat,m / 1000000=q:=⟨_,rfl⟩
     obtain⟨p,hp⟩:∃ p:Nat,m%1000000=p:=⟨_,rfl⟩
     have hp6:p<1000000:=by omega
     have hq9:q<=2147483647:=by omega
     have HI:=kf (fun W h=>z4o q (by omega) W h);have HD:=kf (fun W h=>z5d p 6 (by omega) ⟨by omega,by omega⟩ W h);have HS:=kf (fun W=>z9u p hp6 W);obtain⟨t,ht⟩:∃ t,sb (txt q 1)=t:=⟨_,rfl⟩
     obtain⟨L,hLn⟩:∃ L,t.size=L:=⟨_,rfl⟩
     have hL20:L<=100:=by
      have h1:(dn q).length<=19:=z0v (by omega);rw [<- hLn,<- ht,z01,z1d];omega
     obtain⟨u,hu⟩:∃ u,sb (z1e 5 (txt p 6))=u:=⟨_,rfl⟩
     obtain⟨M,hMn⟩:∃ M,u.size=M:=⟨_,rfl⟩
     have hM20:M<=100:=by
      have h1:=y28 p hp6;rw [<- hMn,<- hu,z01];omega
     obtain⟨v,hv⟩:∃ v,sb (txt p 6)=v:=⟨_,rfl⟩
     rw [ht] at HI;rw [hu,hv] at HS;rw [hv] at HD;have i1:¬9223372036854775807<1+L:=by omega
     have i2:1+L<=9223372036854775807:=by omega
     have i3:¬9223372036854775807<L:=by omega
     have i4:L<=9223372036854775807:=by omega
     have i5:¬9223372036854775807<1+L+1:=by omega
     have i6:1+L+1<=9223372036854775807:=by omega
     have i7:¬9223372036854775807<L+1:=by omega
     have i8:L+1<=9223372036854775807:=by omega
     have i9:¬9223372036854775807<1+L+1+M:=by omega
     have i10:1+L+1+M<=9223372036854775807:=by omega
     have i11:¬9223372036854775807<L+1+M:=by omega
     have i12:L+1+M<=9223372036854775807:=by omega
     have t1:(m:Int).tdiv 1000000=(q:Int):=by rw [Int.tdiv_eq_ediv_of_nonneg (by omega)];omega
     have t2:(m:Int).tmod 1000000=(p:Int):=by rw [Int.tmod_eq_emod_of_nonneg (by omega)];omega
     have t3:(m:Int) / 1000000=(q:Int):=by omega
     have t4:(m:Int)%1000000=(p:Int):=by omega
     have HE:Hid (t++ByteArray.mk #[46]++u=sb (z0q ((m:Int)))):=by
      show _=_;rw [<- ht,<- hu,show ByteArray.mk #[46]=sb [46] from rfl,z0e,z0e,z0q,z33,if_neg (by omega),show(m:Int).natAbs=m from by omega,hq,hp];simp
     have HPP:=kf (HP.out _ rfl);rw [if_neg (by decide)] at HPP;clear ht hu hv hq hp HP b1 b2;go_enter Tryz.func134,Tryz.ntmps134;go_upto_region 1 with fail;rw [<- hW,<- hg];clear hW hg;have q0:=HB.out.cell 0;have q1:=HB.out.cell 1;have q2:=HB.out.cell 2;have q3:=HB.out.cell 3;simp at q0 q1 q2 q3;go_upto_region 2 with(go_at_call 103;refine(HC.out _).mono ?_;rintro e w2 ⟨rfl,hc2⟩;have HB2:=kf (HB.out.chg hc2 (fun h=>h));have HC2:=kf (HA.out.trans hc2 (fun _ _ h=>h));clear hc2);clear q0 q1 q2 q3;have q0:=HB2.out.cell 0;have q1:=HB2.out.cell 1;simp at q0 q1;go_upto_region 4 with fail;go_quiet (fail);have HL2:=kf ((HL.out.chg HC2.out).chg ((Chg.refl NoS _).drewN nq));have HC3:=kf (HC2.out.drewN nq);go_wp2_with first|(go_at_call 100;refine(HI.out _ HL2.out).mono ?_;rintro e w5 ⟨rfl,hc5⟩;have HL5:=kf (HL2.out.chg hc5);have HC5:=kf (HC3.out.trans hc5 (fun _ _ h=>h));clear hc5)|(go_at_call 62;refine(HD.out _ HL5.out).mono ?_;rintro e w6 ⟨rfl,hc6⟩;have HC6:=kf (HC5.out.trans hc6 (fun _ _ h=>h));clear hc6)|(go_at_call 165;refine(HS.out _).mono ?_;rintro e w7 ⟨rfl,hc7⟩;have HC7:=kf (HC6.out.trans hc7 (fun _ _ h=>h));clear hc7)
     go_ret2;refine PrTo.of HPP.out ?_ HC7.out;rw [<- HE.out];first|done|rfl|(rw [sb_ne];rfl)|simp [sb_ne]
  ·cases hm
 ·have h2:z05 k n s.size len=2:=by
   unfold z05 at hc ⊢;split
   ·rename_i h;rw [if_pos h] at hc;exact absurd rfl hc
   ·rfl
  have HPP:Hid (y02 k n s.size len=([],2)):=if_neg hc
  have HC:Hid (∀ W,Calls Tryz.prog 103 #[.agg #[.int .i64 k,.int .i64 n,.string s,.slice A len cap]] W fun e w'=>e=.returned (.int .i64 2)/\Chg NoS W w'):=fun W=>by
   have h:=HCH.out W;rw [h2] at h;exact h
  clear hc h2 HCH hL HL;go_enter Tryz.func134,Tryz.ntmps134;go_upto_region 1 with fail;rw [<- hW,<- hg];clear hW hg;have q0:=HB.out.cell 0;have q1:=HB.out.cell 1;have q2:=HB.out.cell 2;have q3:=HB.out.cell 3;simp at q0 q1 q2 q3;go_wp2_with (go_at_call 103;refine(HC.out _).mono ?_;rintro e w2 ⟨rfl,hc2⟩;have HC2:=kf (HA.out.trans hc2 (fun _ _ h=>h));clear hc2);go_ret2;exact PrTo.of HPP.out rfl HC2.out
def z3p (g:XGr):Bool:=!z29 g.first (g.es.length:Nat) || g.es.any (fun e=>!z2b e)
theorem y3q {first:Int} {es:List XEn} (h:z29 first (es.length:Nat)=false):z3p ⟨first,es⟩=true:=by unfold z3p;simp [h]
theorem y3p {first:Int} {es:List XEn} {k:Nat} {e:XEn} (he:es[k]?=some e) (h:z2b e=false):z3p ⟨first,es⟩=true:=by
 unfold z3p;rw [Bool.or_eq_true];exact .inr (List.any_eq_true.2 ⟨e,List.mem_of_getElem? he,by rw [h];rfl⟩)
theorem y9j {first:Int} {es:List XEn} (h:z29 first (es.length:Nat)=true) (h2:∀ e∈es,z2b e=true):z3p ⟨first,es⟩=false:=by
 unfold z3p;rw [Bool.or_eq_false_iff];refine⟨by simp [h],?_⟩;rw [List.any_eq_false];intro e he;rw [h2 e he];decide
theorem v8s (e:XEn) (w:World):Calls Tryz.prog 29 #[.agg #[.int .i64 e.pl,.int .i64 e.gen,.bool e.us]] w fun r w'=>r=.returned (.bool (z2b e))/\Chg NoS w w':=y22 e w
theorem y3u (first:Int) (es:List XEn) (A:Option Addr) (c:Nat) (w:World) (hE:Ev NoS w (EnS es A c)) (hl:es.length<=1000000) (hf:-9223372036854775808<=first/\first<=9223372036854775807) :
  Calls Tryz.prog 34 #[.agg #[.int .i64 first,.slice A es.length c]] w fun e w'=>e=.returned (.bool (z3p ⟨first,es⟩))/\Chg NoS w w':=by
 have HE:=kf hE;have HF:=kf (fun W=>z9d first (es.length:Nat) W hf (by omega));have HX1:=kf (fun h=>y3q (first:=first) (es:=es) h);have HX2:=kf (fun k e h1 h2=>y3p (first:=first) (es:=es) (k:=k) (e:=e) h1 h2);have HX3:=kf (fun h h2=>y9j (first:=first) (es:=es) h h2);obtain⟨bb,hbb⟩:∃ bb,bb=z3p ⟨first,es⟩:=⟨_,rfl⟩
 rw [<- hbb] at HX1 HX2 HX3 ⊢;obtain⟨ft,hft⟩:∃ ft,ft=z29 first (es.length:Nat):=⟨_,rfl⟩
 rw [<- hft] at HF HX1 HX3;obtain⟨m,hm⟩:∃ m,m=es.length:=⟨_,rfl⟩
 rw [<- hm] at HF hl ⊢;have HM:=kf hm;have HB:=kf (Blk.new w 56 #[.int .i64 first,.slice A m c]);have HC:=kf ((Chg.refl NoS w).alloc (.cells #[.int .i64 first,.slice A m c] 56));clear hE hbb hft hm;go_enter Tryz.func34,Tryz.ntmps34;go_upto_region 1 with fail;obtain⟨W1,hW1⟩:∃ W1,W1=w.alloc (.cells #[.int .i64 first,.slice A m c] 56):=⟨_,rfl⟩
 obtain⟨g1,hg1⟩:∃ g1,g1=w.heap.size:=⟨_,rfl⟩
 rw [<- hW1] at HB HC ⊢;rw [<- hg1] at HB ⊢;clear hW1 hg1;have q0:W1.cell? ⟨g1,0,none⟩=some (.int .i64 first):=HB.out.cell 0;have q1:W1.cell? ⟨g1,1,none⟩=some (.slice A m c):=HB.out.cell 1;cases ft with
 |false =>
  have HZ:=kf (HX1.out rfl);go_wp2_with (go_at_call 65;refine(HF.out _).mono ?_;rintro e w' ⟨rfl,rfl⟩);go_ret;exact⟨by rw [HZ.out];rfl,HC.out⟩
 |true =>
  go_wp2_with (go_at_call 65;refine(HF.out _).mono ?_;rintro e w' ⟨rfl,rfl⟩);clear q0 q1;go_loopw [15] (fun vi wr=>∃ k:Nat,k<=m/\vi=.int .i64 (k:Nat)/\Hid (Chg NoS W1 wr)/\Hid (∀ y∈es.take k,z2b y=true)) (fun vi _=>m-(intOf vi).toNat)
  case atStart=>exact⟨0,Nat.zero_le _,rfl,kf (Chg.refl _ _),fun y hy=>by simp at hy⟩
  case round =>
   obtain⟨k,hk,rfl,HCk,HT⟩:=hrel;by_cases hlt:k<m
   ·obtain⟨e,he⟩:∃ e,es[k]?=some e:=⟨_,List.getElem?_eq_getElem (by have:=HM.out;omega)⟩
    obtain⟨b,off,rfl,hcell⟩:=z8x (HE.out wr (HC.out.trans HCk.out (fun _ _ e=>e))) (by have:=HM.out;omega);obtain⟨e0,e1,e2⟩:=hcell k e he;have HMY:=kf (fun W=>v8s e W);have HH:=kf he;have HCA:=kf (HCk.out.alloc (.cells #[.int .i64 e.pl,.int .i64 e.gen,.bool e.us] 29));have HBA:=kf (Blk.new wr 29 #[.int .i64 e.pl,.int .i64 e.gen,.bool e.us]);obtain⟨me,hme⟩:∃ me,me=z2b e:=⟨_,rfl⟩
    rw [<- hme] at HMY;have HME:=kf hme;clear hcell he hme;go_upto_region 6 with fail;obtain⟨W3,hW3⟩:∃ W3,W3=wr.alloc (.cells #[.int .i64 e.pl,.int .i64 e.gen,.bool e.us] 29):=⟨_,rfl⟩
    obtain⟨g7,hg7⟩:∃ g7,g7=wr.heap.size:=⟨_,rfl⟩
    rw [<- hW3] at HCA HBA ⊢;rw [<- hg7] at HBA ⊢;clear hW3 hg7 e0 e1 e2 HCk;obtain⟨r0,r1,r2,-⟩:=HBA.out.cl3;cases me with
    |false =>
     have HZ:=kf (HX2.out k e HH.out HME.out.symm);go_wp2_with (go_at_call 29;refine(HMY.out _).mono ?_;rintro e4 w4 ⟨rfl,hc4⟩;have HC4:=kf (HCA.out.trans hc4 (fun _ _ e=>e));clear hc4);refine bodyPost_ret (v:=.bool true) (by simp [results,Tryz.results34,go_sem]) rfl ?_;exact⟨by rw [HZ.out],HC.out.trans HC4.out (fun _ _ e=>e)⟩
    |true =>
     go_wp2_with (go_at_call 29;refine(HMY.out _).mono ?_;rintro e4 w4 ⟨rfl,hc4⟩;have HC4:=kf (HCA.out.trans hc4 (fun _ _ e=>e));clear hc4);go_roundw
     case rel =>
      refine⟨k+1,by omega,by go_num,HC4,fun y hy=>?_⟩;rw [List.take_add_one,HH.out,List.mem_append] at hy;rcases hy with hy|hy
      ·exact HT.out y hy
      ·simp at hy;subst hy;exact HME.out.symm
     case measure=>simp [intOf];omega
   ·have hkm:k=m:=by omega
    have HZ:=kf (HX3.out trivial (fun y hy=>HT.out y (by rw [List.take_of_length_le (by have:=HM.out;omega)];exact hy)));have d1:decide ((k:Int)<m)=false:=by simp;omega
    have d2:decide (k<m)=false:=by simp;omega
    clear hkm;go_wp2_with fail;refine bodyPost_ret (v:=.bool false) (by simp [results,Tryz.results34,go_sem]) rfl ?_;exact⟨by rw [HZ.out],HC.out.trans HCk.out (fun _ _ e=>e)⟩
mutual
def z0c:VT->List Nat
 |.mk k n s l =>
  if k=0 then [110,117,108,108]
  else if k=1 then(if n=1 then [116,114,117,101] else [102,97,108,115,101])
  else if k=2 then z06 n
  else if k=3 then z0q n
  else if k=4 then txF (sl s)
  else if k=5 then nmF (sl s)
  else if k=8 then z06 n++[32,48,32,82]
  else if k=6 then 91::(z0g 0 l++[93])
  else 60::60::(z0g 0 l++[62,62])
def z0g:Nat->List VT->List Nat
 |_,[]=>[]
 |j,t::l=>List.replicate j 32++(z0c t++z0g 1 l)
end
theorem z1h (j:Nat):z0g j []=[]:=by rw [z0g]
theorem z2g (j:Nat) (t:VT) (l:List VT):z0g j (t::l)=List.replicate j 32++(z0c t++z0g 1 l):=by rw [z0g]
theorem y8j (n:Int) (s:ByteArray) (l:List VT):z0c (.mk 0 n s l)=[110,117,108,108]:=by rw [z0c];rfl
theorem y0i (n:Int) (s:ByteArray) (l:List VT):z0c (.mk 1 n s l)=if n=1 then [116,114,117,101] else [102,97,108,115,101]:=by rw [z0c];rfl
theorem y8i (n:Int) (s:ByteArray) (l:List VT):z0c (.mk 2 n s l)=z06 n:=by rw [z0c];rfl
theorem y8h (n:Int) (s:ByteArray) (l:List VT):z0c (.mk 3 n s l)=z0q n:=by rw [z0c];rfl
theorem y8g (n:Int) (s:ByteArray) (l:List VT):z0c (.mk 4 n s l)=txF (sl s):=by rw [z0c];rfl
theorem y8f (n:Int) (s:ByteArray) (l:List VT):z0c (.mk 5 n s l)=nmF (sl s):=by rw [z0c];rfl
theorem y8e (n:Int) (s:ByteArray) (l:List VT):z0c (.mk 6 n s l)=91::(z0g 0 l++[93]):=by rw [z0c];rfl
theorem y8d (n:Int) (s:ByteArray) (l:List VT):z0c (.mk 7 n s l)=60::60::(z0g 0 l++[62,62]):=by rw [z0c];rfl
theorem y8c (n:Int) (s:ByteArray) (l:List VT):z0c (.mk 8 n s l)=z06 n++[32,48,32,82]:=by rw [z0c];rfl
theorem z61 {k n:Int} {s:ByteArray} {l:List VT} (h:z0s (.mk k n s l)=0):z0d k n s l=0:=by
 rw [z2h] at h;by_cases h0:z0d k n s l=0
 ·exact h0
 ·rw [if_pos h0] at h;exact h
theorem z8v {k n:Int} {s:ByteArray} {l:List VT} (hk:k=6\/k=7) (h:z0s (.mk k n s l)=0):∀ t∈l,z0s t=0:=by
 have h0:=z61 h;rw [z2h,if_neg (fun e=>e h0),if_pos hk] at h;exact firstL_zero.1 h
theorem y1l {k n:Int} {s:ByteArray} {l:List VT} (h:z0d k n s l=0):k=0\/k=1\/k=2\/k=3\/k=4\/k=5\/k=6\/k=7\/k=8:=by
 rcases Decidable.em (k=0\/k=1\/k=2\/k=3\/k=4\/k=5\/k=6\/k=7\/k=8) with h1|h1
 ·exact h1
 ·rw [z0d,if_neg (by omega),if_neg (by omega),if_neg (by omega),if_neg (by omega),if_neg (by omega),if_neg (by omega),if_neg (by omega),if_neg (by omega)] at h;cases h
theorem KF.blk {R g:Nat} {V W:World} {T:TypeId} {cs:Array Value} (h:KF R V W) (hg:g≠R) (hT:T≠5) (hb:Blk V g T cs):Blk W g T cs :=
 h g _ hg (fun cs' e=>hT (Obj.cells.inj e).2.1) hb
theorem y0b {l:List Nat} (h:∀ d∈l,isD d\/d=45\/d=46):∀ d∈l,d<256:=by
 intro d hd;have hk:=h d hd;unfold isD at hk;omega
def z7d (k n:Int):List Nat:=if k=2 then z06 n else z0q n
theorem v4g (k n:Int):∀ d∈z7d k n,d<256:=by
 unfold z7d;split
 ·exact y0b (v4u n)
 ·exact y0b (v2x n)
theorem z8t {V w W:World} {R:Nat} {out:List Nat} (h:FB V w W R out) (hL:LibOk w) (k n:Int) (s:ByteArray) (A:Option Addr) (len cap:Nat) (hc:z05 k n s.size len=0) (hl:out.length+(z7d k n).length<=400000) :
  Calls Tryz.prog 138 #[.pointer (some ⟨R,0,none⟩),.agg #[.int .i64 k,.int .i64 n,.string s,.slice A len cap]] W fun e W'=>e=.returned (.tuple #[])/\FB V w W' R (out++z7d k n):=by
 have HP:=kf (fun X (hX:LibOk X)=>y01 k n s A len cap X hX);have hpr:y02 k n s.size len=(z7d k n,0):=by unfold y02 z7d;rw [if_pos hc]
 have HPR:=kf hpr;have HW:=kf (fun X (hX:FB V w X R out)=>z16 hX (z7d k n) (v4g k n) (by omega) (by omega));obtain⟨L,hLn⟩:∃ L,L=sb (z7d k n):=⟨_,rfl⟩
 have HP2:Hid (∀ X,LibOk X->Calls Tryz.prog 134 #[.agg #[.int .i64 k,.int .i64 n,.string s,.slice A len cap]] X fun e w'=>e=.returned (.tuple #[.string L,.int .i64 0])/\Chg NoS X w'):=fun X hX=>by
  refine(HP.out X hX).mono fun e w' h=>?_;unfold PrTo at h;rw [HPR.out,<- hLn] at h;exact h
 rw [<- hLn] at HW;have HF:=kf (h.alloc (.cells #[.int .i64 k,.int .i64 n,.string s,.slice A len cap] 25));have HB:=kf (Blk.new W 25 #[.int .i64 k,.int .i64 n,.string s,.slice A len cap]);have HLib:=kf hL;obtain⟨W1,hW1⟩:∃ W1,W1=W.alloc (.cells #[.int .i64 k,.int .i64 n,.string s,.slice A len cap] 25):=⟨_,rfl⟩
 obtain⟨g,hg⟩:∃ g,g=W.heap.size:=⟨_,rfl⟩
 rw [<- hW1] at HF HB;rw [<- hg] at HB;clear h hL hc hpr HPR HP hLn;go_enter Tryz.func138,Tryz.ntmps138;go_upto_region 1 with fail;rw [<- hg,<- hW1];clear hg hW1;have q0:=HB.out.cell 0;have q1:=HB.out.cell 1;have q2:=HB.out.cell 2;have q3:=HB.out.cell 3;simp at q0 q1 q2 q3
 go_wp2_with first
  |(go_at_call 134;refine(HP2.out _ (HLib.out.chg HF.out.chg)).mono ?_;rintro e w2 ⟨rfl,h2⟩;have HF2:=kf (HF.out.call h2);clear h2)
  |(go_at_call 136;refine(HW.out _ HF2.out).mono ?_;rintro e w3 ⟨rfl,h3⟩;have HF3:=kf h3;clear h3)
 go_end0;exact⟨rfl,HF3.out⟩
theorem y0j:∀ (j:Nat) (a b:List VT),z0g j (a++b)=z0g j a++z0g (if a=[] then j else 1) b:=by
 intro j a;induction a generalizing j with
 |nil=>intro b;rw [z1h,if_pos rfl];rfl
 |cons t a ih =>
  intro b;rw [List.cons_append,z2g,z2g,ih 1 b,if_neg (List.cons_ne_nil _ _)];simp only [List.append_assoc,ite_self]
theorem z5i {l:List VT} {k:Nat} {t:VT} (h:l[k]?=some t):z0g 0 (l.take (k+1))=z0g 0 (l.take k)++(List.replicate (if k=0 then 0 else 1) 32++z0c t):=by
 have e:l.take (k+1)=l.take k++[t]:=by rw [List.take_add_one,h];rfl
 have hk:=(List.getElem?_eq_some_iff.1 h).1
 have h0:(l.take k=[])=(k=0):=by
  apply propext;constructor
  ·intro h1;have h2:=congrArg List.length h1;rw [List.length_take] at h2;simp only [List.length_nil] at h2;omega
  ·rintro rfl;rfl
 rw [e,y0j,z2g,z1h,List.append_nil];simp only [h0]
theorem z8s (l:List VT) (k:Nat):(z0g 0 (l.take k)).length<=(z0g 0 l).length:=by
 have e:z0g 0 l=z0g 0 (l.take k++l.drop k):=by rw [List.take_append_drop]
 rw [e,y0j,List.length_append];omega
def PV (t:VT):Prop:=∀ (c:VC) (V w W:World) (R:Nat) (out:List Nat),LibOk w->ValIs w t c->FB V w W R out->out.length+(z0c t).length<=400000 ->
 Calls Tryz.prog 98 #[.pointer (some ⟨R,0,none⟩),c.val] W fun e W'=>e=.returned (.tuple #[])/\FB V w W' R (out++z0c t)
theorem y0k (l:List VT) (hP:∀ t∈l,PV t) (A:Option Addr) (len cap:Nat) {V w W:World} {R:Nat} {out:List Nat} (hL:LibOk w) (hl:l.length=len) (hr:RowIs w A 0 l) (hm:len<=9223372036854775807) (h:FB V w W R out) (hb:out.length+(z0g 0 l).length<=400000) :
  Calls Tryz.prog 141 #[.pointer (some ⟨R,0,none⟩),.slice A len cap] W fun e W'=>e=.returned (.tuple #[])/\FB V w W' R (out++z0g 0 l):=by
 have HW:=kf (fun V X o x (hX:FB V w X R o) (ho:o.length<=1000000)=>z1u hX x ho);have HP:=kf hP;have HLib:=kf hL;have HL:=kf hl;have HR:=kf hr;have HF:=kf h;have HBL:=kf hb;clear hP hL hl hr h hb;go_enter Tryz.func141,Tryz.ntmps141;go_upto_region 1 with fail;go_loopw [8] (fun vk wr=>∃ k:Nat,k<=len/\vk=.int .i64 (k:Nat)/\Hid (FB V w wr R (out++z0g 0 (l.take k)))/\Hid (RowIs w A k (l.drop k))) (fun vk _=>len-(intOf vk).toNat)
 case atStart=>exact⟨0,by omega,rfl,by rw [List.take_zero,z1h,List.append_nil];exact HF.out,by rw [List.drop_zero];exact HR.out⟩
 case round =>
  obtain⟨k,hk,rfl,HT,HRW⟩:=hrel;obtain⟨o,ho⟩:∃ o,o=out++z0g 0 (l.take k):=⟨_,rfl⟩
  rw [<- ho] at HT;have HO:=kf ho;clear ho;by_cases hlt:k<len
  ·obtain⟨t',ht',hdd⟩:=z0r (l:=l) (k:=k) (by rw [HL.out];exact hlt)
   obtain⟨b,off,rfl⟩:∃ b off,A=some ⟨b,off,none⟩:=by
    have h:=HR.out;cases hll:l with
    |nil=>rw [hll] at ht';simp at ht'
    |cons t0 l0=>rw [hll] at h;exact h.start
   have hrw:=HRW.out;rw [hdd] at hrw;obtain⟨ek,en,es,eA,el,ec,c0,c1,c2,c3,hv',hr'⟩:=hrw.at0 HT.out.chg;have HRN:=kf hr';have HV:=kf (show out++z0g 0 (l.take (k+1))=o++(List.replicate (if k=0 then 0 else 1) 32++z0c t') from by rw [HO.out,z5i ht',List.append_assoc])
   have hlen:o.length+(if k=0 then 0 else 1)+(z0c t').length<=400000:=by
    have h1:=z8s l (k+1);have h2:=congrArg List.length HV.out;have h3:=HBL.out;simp only [List.length_append,List.length_replicate] at h2;omega
   have HX:=kf (fun X o2 (hX:FB (wr.alloc (.cells #[.int .i64 ek,.int .i64 en,.string es,.slice eA el ec] 25)) w X R o2) (ho2:o2.length+(z0c t').length<=400000)=>HP.out t' (List.mem_of_getElem? ht') ⟨ek,en,es,eA,el,ec⟩ _ w X R o2 HLib.out hv' hX ho2);unfold VC.val at HX;simp only [] at HX;have HBX:=kf (Blk.new wr 25 #[.int .i64 ek,.int .i64 en,.string es,.slice eA el ec]);have hgR:wr.heap.size≠R:=fun e=>absurd HT.out.lt (by omega);have HFX:=kf ((HT.out.alloc (.cells #[.int .i64 ek,.int .i64 en,.string es,.slice eA el ec] 25)).here);have HKX:=kf ((HT.out.alloc (.cells #[.int .i64 ek,.int .i64 en,.string es,.slice eA el ec] 25)).kf);clear hrw hv' hr' hdd ht';obtain⟨W1,hW1⟩:∃ W1,W1=wr.alloc (.cells #[.int .i64 ek,.int .i64 en,.string es,.slice eA el ec] 25):=⟨_,rfl⟩
   obtain⟨g,hg⟩:∃ g,g=wr.heap.size:=⟨_,rfl⟩
   rw [<- hW1] at HX HBX HFX HKX;rw [<- hg] at HBX hgR;by_cases h0:k=0
   ·subst h0;simp only [if_true,Nat.add_zero] at hlen;have HVV:=kf (show o++(List.replicate (if 0=0 then 0 else 1) 32++z0c t')=o++z0c t' from rfl);simp only [Nat.zero_mul,Nat.add_zero] at c0 c1 c2 c3;go_upto_region 3 with fail;rw [<- hg,<- hW1];clear hg hW1;have q0:=HBX.out.cell 0;have q1:=HBX.out.cell 1;have q2:=HBX.out.cell 2;have q3:=HBX.out.cell 3;simp at q0 q1 q2 q3;go_wp2_with (go_at_call 98;refine(HX.out _ _ HFX.out hlen).mono ?_;rintro e w3 ⟨rfl,h3⟩;have HT3:=kf h3;clear h3);go_roundw
    case rel=>exact⟨1,by omega,by go_num,by rw [HV.out,HVV.out];exact HT3.out.base (HKX.out.trans HT3.out.kf),HRN.out⟩
    case measure=>simp [intOf];omega
   ·rw [if_neg h0] at hlen;have HVV:=kf (show o++(List.replicate (if k=0 then 0 else 1) 32++z0c t')=o++[32]++z0c t' from by rw [if_neg h0];simp);have hl2:(o++[32]).length+(z0c t').length<=400000:=by simp only [List.length_append,List.length_cons,List.length_nil];omega
    have d0:decide ((0:Int)<(k:Int))=true:=by simp;omega
    have d0':decide (0<k)=true:=by simp;omega
    clear h0;go_upto_region 3 with fail;rw [<- hg,<- hW1];clear hg hW1;go_upto_region 5 with(go_at_call 172;refine(HW.out _ _ _ 32 HFX.out (by omega)).mono ?_;rintro e w2 ⟨rfl,h2⟩;have HT2:=kf h2;clear h2);have HBY:=kf (HT2.out.kf.blk hgR (by decide) HBX.out);have q0:=HBY.out.cell 0;have q1:=HBY.out.cell 1;have q2:=HBY.out.cell 2;have q3:=HBY.out.cell 3;simp at q0 q1 q2 q3;go_wp2_with (go_at_call 98;refine(HX.out _ _ HT2.out hl2).mono ?_;rintro e w3 ⟨rfl,h3⟩;have HT3:=kf h3;clear h3);go_roundw
    case rel=>exact⟨k+1,by omega,by go_num,by rw [HV.out,HVV.out];exact HT3.out.base (HKX.out.trans HT3.out.kf),HRN.out⟩
    case measure=>simp [intOf];omega
  ·obtain rfl:k=len:=by omega
   have HV:=kf (show out++z0g 0 l=o from by rw [HO.out,List.take_of_length_le (by rw [HL.out];exact Nat.le_refl _)]);go_wp2_with fail;go_end0;exact⟨rfl,by rw [HV.out];exact HT.out⟩
theorem v57:(⟨(Lib.formatBool true).toArray⟩:ByteArray)=sb [116,114,117,101]:=by rfl
theorem v1x:(⟨(Lib.formatBool false).toArray⟩:ByteArray)=sb [102,97,108,115,101]:=by rfl
structure FV (V w W1:World) (R g:Nat) (out:List Nat) (k n:Int) (s:ByteArray) (A:Option Addr) (len cap:Nat):Prop where
 blk:Blk W1 g 25 #[.int .i64 k,.int .i64 n,.string s,.slice A len cap]
 ne:g≠R
 fb:FB W1 w W1 R out
 kf:KF R V W1
theorem FV.of {V w W:World} {R:Nat} {out:List Nat} (h:FB V w W R out) (k n:Int) (s:ByteArray) (A:Option Addr) (len cap:Nat) :
  FV V w (W.alloc (.cells #[.int .i64 k,.int .i64 n,.string s,.slice A len cap] 25)) R W.heap.size out k n s A len cap :=
 ⟨Blk.new _ _ _,fun e=>absurd h.lt (by omega),(h.alloc _).here,(h.alloc _).kf⟩
theorem FV.at_ {V w W1 X:World} {R g:Nat} {out o2:List Nat} {k n:Int} {s:ByteArray} {A:Option Addr} {len cap:Nat} (h:FV V w W1 R g out k n s A len cap) (hX:FB W1 w X R o2):Blk X g 25 #[.int .i64 k,.int .i64 n,.string s,.slice A len cap] :=
 hX.kf.blk h.ne (by decide) h.blk
theorem FV.end_ {V w W1 X:World} {R g:Nat} {out o2:List Nat} {k n:Int} {s:ByteArray} {A:Option Addr} {len cap:Nat} (h:FV V w W1 R g out k n s A len cap) (hX:FB W1 w X R o2):FB V w X R o2:=hX.base (h.kf.trans hX.kf)
theorem y87 {V w W:World} {R:Nat} {out:List Nat} (h:FB V w W R out) (hL:LibOk w) (n:Int) (s:ByteArray) (A:Option Addr) (len cap:Nat) (hl:out.length+([110,117,108,108]).length<=400000) :
  Calls Tryz.prog 98 #[.pointer (some ⟨R,0,none⟩),.agg #[.int .i64 0,.int .i64 n,.string s,.slice A len cap]] W fun e W'=>e=.returned (.tuple #[])/\FB V w W' R (out++([110,117,108,108])):=by
 have HLib:=kf hL;have HFV:=kf (FV.of h 0 n s A len cap);obtain⟨W1,hW1⟩:∃ W1,W1=W.alloc (.cells #[.int .i64 0,.int .i64 n,.string s,.slice A len cap] 25):=⟨_,rfl⟩
 obtain⟨g,hg⟩:∃ g,g=W.heap.size:=⟨_,rfl⟩
 rw [<- hW1,<- hg] at HFV;have HW0:=kf (fun X o (hX:FB W1 w X R o) (ho:o.length<=1000000)=>(show Calls Tryz.prog 136 #[.pointer (some ⟨R,0,none⟩),.string ⟨#[110,117,108,108]⟩] X fun e W'=>e=.returned (.tuple #[.int .i64 (4:Nat),.nilIface])/\FB W1 w W' R (o++[110,117,108,108]) from z16 hX [110,117,108,108] (by decide) ho (by decide)));clear h hL;go_enter Tryz.func98,Tryz.ntmps98;go_upto_region 1 with fail;rw [<- hg,<- hW1];clear hg hW1;have q0:=HFV.out.blk.cell 0;have q1:=HFV.out.blk.cell 1;have q2:=HFV.out.blk.cell 2;have q3:=HFV.out.blk.cell 3;simp at q0 q1 q2 q3;go_wp2_with (go_at_call 136;refine(HW0.out _ _ HFV.out.fb (by omega)).mono ?_;rintro e w3 ⟨rfl,h3⟩;have HT3:=kf h3;clear h3);go_end0;exact⟨rfl,HFV.out.end_ HT3.out⟩
theorem y84 {V w W:World} {R:Nat} {out:List Nat} (h:FB V w W R out) (hL:LibOk w) (s:ByteArray) (A:Option Addr) (len cap:Nat) (hl:out.length+([116,114,117,101]).length<=400000) :
  Calls Tryz.prog 98 #[.pointer (some ⟨R,0,none⟩),.agg #[.int .i64 1,.int .i64 1,.string s,.slice A len cap]] W fun e W'=>e=.returned (.tuple #[])/\FB V w W' R (out++([116,114,117,101])):=by
 have HLib:=kf hL;have HFV:=kf (FV.of h 1 1 s A len cap);obtain⟨W1,hW1⟩:∃ W1,W1=W.alloc (.cells #[.int .i64 1,.int .i64 1,.string s,.slice A len cap] 25):=⟨_,rfl⟩
 obtain⟨g,hg⟩:∃ g,g=W.heap.size:=⟨_,rfl⟩
 rw [<- hW1,<- hg] at HFV;have HW0:=kf (fun X o (hX:FB W1 w X R o) (ho:o.length<=1000000)=>(show Calls Tryz.prog 136 #[.pointer (some ⟨R,0,none⟩),.string ⟨#[116,114,117,101]⟩] X fun e W'=>e=.returned (.tuple #[.int .i64 (4:Nat),.nilIface])/\FB W1 w W' R (o++[116,114,117,101]) from z16 hX [116,114,117,101] (by decide) ho (by decide)));have HFM:=kf (fun X=>(show Calls Tryz.prog 137 #[.bool true] X fun e w'=>e=.returned (.string ⟨#[116,114,117,101]⟩)/\w'=X from by have h1:=Go.Proofs.Tryz.strconv_FormatBool true X;rw [v57] at h1;exact h1));clear h hL;go_enter Tryz.func98,Tryz.ntmps98;go_upto_region 1 with fail;rw [<- hg,<- hW1];clear hg hW1;have q0:=HFV.out.blk.cell 0;have q1:=HFV.out.blk.cell 1;have q2:=HFV.out.blk.cell 2;have q3:=HFV.out.blk.cell 3;simp at q0 q1 q2 q3;go_upto_region 5 with fail
 first
  |(go_loud (go_region_held3 (fun w'=>w'.cell? ⟨g,1,none⟩=some (.int .i64 1))
    (first|(go_keep;done)|assumption)
    (first
     |(go_at_call 137;refine(HFM.out _).mono ?_;rintro e w5 ⟨rfl,rfl⟩)
     |(go_at_call 136;refine(HW0.out _ _ HFV.out.fb.drew (by omega)).mono ?_;rintro e w3 ⟨rfl,h3⟩;have hb3:=HFV.out.at_ h3;have d1:=hb3.cell 1;simp at d1;have HT3:=kf h3;clear h3 hb3))))
  |fail "region"
 go_wp2_with fail;go_end0;exact⟨rfl,HFV.out.end_ HT3.out⟩
theorem y4w {V w W:World} {R:Nat} {out:List Nat} (h:FB V w W R out) (hL:LibOk w) (s:ByteArray) (A:Option Addr) (len cap:Nat) (hl:out.length+([102,97,108,115,101]).length<=400000) :
  Calls Tryz.prog 98 #[.pointer (some ⟨R,0,none⟩),.agg #[.int .i64 1,.int .i64 0,.string s,.slice A len cap]] W fun e W'=>e=.returned (.tuple #[])/\FB V w W' R (out++([102,97,108,115,101])):=by
 have HLib:=kf hL;have HFV:=kf (FV.of h 1 0 s A len cap);obtain⟨W1,hW1⟩:∃ W1,W1=W.alloc (.cells #[.int .i64 1,.int .i64 0,.string s,.slice A len cap] 25):=⟨_,rfl⟩
 obtain⟨g,hg⟩:∃ g,g=W.heap.size:=⟨_,rfl⟩
 rw [<- hW1,<- hg] at HFV;have HW0:=kf (fun X o (hX:FB W1 w X R o) (ho:o.length<=1000000)=>(show Calls Tryz.prog 136 #[.pointer (some ⟨R,0,none⟩),.string ⟨#[102,97,108,115,101]⟩] X fun e W'=>e=.returned (.tuple #[.int .i64 (5:Nat),.nilIface])/\FB W1 w W' R (o++[102,97,108,115,101]) from z16 hX [102,97,108,115,101] (by decide) ho (by decide)));have HFM:=kf (fun X=>(show Calls Tryz.prog 137 #[.bool false] X fun e w'=>e=.returned (.string ⟨#[102,97,108,115,101]⟩)/\w'=X from by have h1:=Go.Proofs.Tryz.strconv_FormatBool false X;rw [v1x] at h1;exact h1));clear h hL;go_enter Tryz.func98,Tryz.ntmps98;go_upto_region 1 with fail;rw [<- hg,<- hW1];clear hg hW1;have q0:=HFV.out.blk.cell 0;have q1:=HFV.out.blk.cell 1;have q2:=HFV.out.blk.cell 2;have q3:=HFV.out.blk.cell 3;simp at q0 q1 q2 q3;go_upto_region 5 with fail
 first
  |(go_loud (go_region_held3 (fun w'=>w'.cell? ⟨g,1,none⟩=some (.int .i64 0))
    (first|(go_keep;done)|assumption)
    (first
     |(go_at_call 137;refine(HFM.out _).mono ?_;rintro e w5 ⟨rfl,rfl⟩)
     |(go_at_call 136;refine(HW0.out _ _ HFV.out.fb.drew (by omega)).mono ?_;rintro e w3 ⟨rfl,h3⟩;have hb3:=HFV.out.at_ h3;have d1:=hb3.cell 1;simp at d1;have HT3:=kf h3;clear h3 hb3))))
  |fail "region"
 go_wp2_with fail;go_end0;exact⟨rfl,HFV.out.end_ HT3.out⟩
theorem v1q {V w W:World} {R:Nat} {out:List Nat} (h:FB V w W R out) (hL:LibOk w) (n:Int) (s:ByteArray) (A:Option Addr) (len cap:Nat) (hc:z05 2 n s.size len=0) (hl:out.length+(z7d 2 n).length<=400000) :
  Calls Tryz.prog 98 #[.pointer (some ⟨R,0,none⟩),.agg #[.int .i64 2,.int .i64 n,.string s,.slice A len cap]] W fun e W'=>e=.returned (.tuple #[])/\FB V w W' R (out++(z7d 2 n)):=by
 have HLib:=kf hL;have HFV:=kf (FV.of h 2 n s A len cap);obtain⟨W1,hW1⟩:∃ W1,W1=W.alloc (.cells #[.int .i64 2,.int .i64 n,.string s,.slice A len cap] 25):=⟨_,rfl⟩
 obtain⟨g,hg⟩:∃ g,g=W.heap.size:=⟨_,rfl⟩
 rw [<- hW1,<- hg] at HFV;have HN:=kf (fun X (hX:FB W1 w X R out)=>z8t hX HLib.out 2 n s A len cap hc hl);clear hc;clear h hL;go_enter Tryz.func98,Tryz.ntmps98;go_upto_region 1 with fail;rw [<- hg,<- hW1];clear hg hW1;have q0:=HFV.out.blk.cell 0;have q1:=HFV.out.blk.cell 1;have q2:=HFV.out.blk.cell 2;have q3:=HFV.out.blk.cell 3;simp at q0 q1 q2 q3;go_wp2_with (go_at_call 138;refine(HN.out _ HFV.out.fb).mono ?_;rintro e w3 ⟨rfl,h3⟩;have HT3:=kf h3;clear h3);go_end0;exact⟨rfl,HFV.out.end_ HT3.out⟩
theorem y86 {V w W:World} {R:Nat} {out:List Nat} (h:FB V w W R out) (hL:LibOk w) (n:Int) (s:ByteArray) (A:Option Addr) (len cap:Nat) (hc:z05 3 n s.size len=0) (hl:out.length+(z7d 3 n).length<=400000) :
  Calls Tryz.prog 98 #[.pointer (some ⟨R,0,none⟩),.agg #[.int .i64 3,.int .i64 n,.string s,.slice A len cap]] W fun e W'=>e=.returned (.tuple #[])/\FB V w W' R (out++(z7d 3 n)):=by
 have HLib:=kf hL;have HFV:=kf (FV.of h 3 n s A len cap);obtain⟨W1,hW1⟩:∃ W1,W1=W.alloc (.cells #[.int .i64 3,.int .i64 n,.string s,.slice A len cap] 25):=⟨_,rfl⟩
 obtain⟨g,hg⟩:∃ g,g=W.heap.size:=⟨_,rfl⟩
 rw [<- hW1,<- hg] at HFV;have HN:=kf (fun X (hX:FB W1 w X R out)=>z8t hX HLib.out 3 n s A len cap hc hl);clear hc;clear h hL;go_enter Tryz.func98,Tryz.ntmps98;go_upto_region 1 with fail;rw [<- hg,<- hW1];clear hg hW1;have q0:=HFV.out.blk.cell 0;have q1:=HFV.out.blk.cell 1;have q2:=HFV.out.blk.cell 2;have q3:=HFV.out.blk.cell 3;simp at q0 q1 q2 q3;go_wp2_with (go_at_call 138;refine(HN.out _ HFV.out.fb).mono ?_;rintro e w3 ⟨rfl,h3⟩;have HT3:=kf h3;clear h3);go_end0;exact⟨rfl,HFV.out.end_ HT3.out⟩
theorem y85 {V w W:World} {R:Nat} {out:List Nat} (h:FB V w W R out) (hL:LibOk w) (n:Int) (s:ByteArray) (A:Option Addr) (len cap:Nat) (hl:out.length+(txF (sl s)).length<=400000) :
  Calls Tryz.prog 98 #[.pointer (some ⟨R,0,none⟩),.agg #[.int .i64 4,.int .i64 n,.string s,.slice A len cap]] W fun e W'=>e=.returned (.tuple #[])/\FB V w W' R (out++(txF (sl s))):=by
 have HLib:=kf hL;have HFV:=kf (FV.of h 4 n s A len cap);obtain⟨W1,hW1⟩:∃ W1,W1=W.alloc (.cells #[.int .i64 4,.int .i64 n,.string s,.slice A len cap] 25):=⟨_,rfl⟩
 obtain⟨g,hg⟩:∃ g,g=W.heap.size:=⟨_,rfl⟩
 rw [<- hW1,<- hg] at HFV;have HN:=kf (fun X (hX:FB W1 w X R out)=>y8a hX s hl);clear h hL;go_enter Tryz.func98,Tryz.ntmps98;go_upto_region 1 with fail;rw [<- hg,<- hW1];clear hg hW1;have q0:=HFV.out.blk.cell 0;have q1:=HFV.out.blk.cell 1;have q2:=HFV.out.blk.cell 2;have q3:=HFV.out.blk.cell 3;simp at q0 q1 q2 q3;go_wp2_with (go_at_call 139;refine(HN.out _ HFV.out.fb).mono ?_;rintro e w3 ⟨rfl,h3⟩;have HT3:=kf h3;clear h3);go_end0;exact⟨rfl,HFV.out.end_ HT3.out⟩
theorem y88 {V w W:World} {R:Nat} {out:List Nat} (h:FB V w W R out) (hL:LibOk w) (n:Int) (s:ByteArray) (A:Option Addr) (len cap:Nat) (hl:out.length+(nmF (sl s)).length<=400000) :
  Calls Tryz.prog 98 #[.pointer (some ⟨R,0,none⟩),.agg #[.int .i64 5,.int .i64 n,.string s,.slice A len cap]] W fun e W'=>e=.returned (.tuple #[])/\FB V w W' R (out++(nmF (sl s))):=by
 have HLib:=kf hL;have HFV:=kf (FV.of h 5 n s A len cap);obtain⟨W1,hW1⟩:∃ W1,W1=W.alloc (.cells #[.int .i64 5,.int .i64 n,.string s,.slice A len cap] 25):=⟨_,rfl⟩
 obtain⟨g,hg⟩:∃ g,g=W.heap.size:=⟨_,rfl⟩
 rw [<- hW1,<- hg] at HFV;have HN:=kf (fun X (hX:FB W1 w X R out)=>y8k hX s hl);clear h hL;go_enter Tryz.func98,Tryz.ntmps98;go_upto_region 1 with fail;rw [<- hg,<- hW1];clear hg hW1;have q0:=HFV.out.blk.cell 0;have q1:=HFV.out.blk.cell 1;have q2:=HFV.out.blk.cell 2;have q3:=HFV.out.blk.cell 3;simp at q0 q1 q2 q3;go_wp2_with (go_at_call 140;refine(HN.out _ HFV.out.fb).mono ?_;rintro e w3 ⟨rfl,h3⟩;have HT3:=kf h3;clear h3);go_end0;exact⟨rfl,HFV.out.end_ HT3.out⟩
theorem y4x {V w W:World} {R:Nat} {out:List Nat} (h:FB V w W R out) (hL:LibOk w) (n:Int) (s:ByteArray) (A:Option Addr) (len cap:Nat) (l:List VT) (hP:∀ t∈l,PV t) (hll:l.length=len) (hr:RowIs w A 0 l) (hm:len<=9223372036854775807) (hl:out.length+([91]++z0g 0 l++[93]).length<=400000) :
  Calls Tryz.prog 98 #[.pointer (some ⟨R,0,none⟩),.agg #[.int .i64 6,.int .i64 n,.string s,.slice A len cap]] W fun e W'=>e=.returned (.tuple #[])/\FB V w W' R (out++([91]++z0g 0 l++[93])):=by
 have HLib:=kf hL;have HFV:=kf (FV.of h 6 n s A len cap);obtain⟨W1,hW1⟩:∃ W1,W1=W.alloc (.cells #[.int .i64 6,.int .i64 n,.string s,.slice A len cap] 25):=⟨_,rfl⟩
 obtain⟨g,hg⟩:∃ g,g=W.heap.size:=⟨_,rfl⟩
 rw [<- hW1,<- hg] at HFV;have HW0:=kf (fun X o (hX:FB W1 w X R o) (ho:o.length<=1000000)=>(show Calls Tryz.prog 136 #[.pointer (some ⟨R,0,none⟩),.string ⟨#[91]⟩] X fun e W'=>e=.returned (.tuple #[.int .i64 (1:Nat),.nilIface])/\FB W1 w W' R (o++[91]) from z16 hX [91] (by decide) ho (by decide)));have HW1:=kf (fun X o (hX:FB W1 w X R o) (ho:o.length<=1000000)=>(show Calls Tryz.prog 136 #[.pointer (some ⟨R,0,none⟩),.string ⟨#[93]⟩] X fun e W'=>e=.returned (.tuple #[.int .i64 (1:Nat),.nilIface])/\FB W1 w W' R (o++[93]) from z16 hX [93] (by decide) ho (by decide)));have hl2:(out++[91]).length+(z0g 0 l).length<=400000:=by simp only [List.length_append,List.length_cons,List.length_nil] at hl ⊢;omega
 have hl3:(out++[91]++z0g 0 l).length<=1000000:=by rw [List.length_append];omega
 have HLS:=kf (fun X (hX:FB W1 w X R (out++[91]))=>y0k l hP A len cap HLib.out hll hr hm hX hl2);have HE:=kf (show out++([91]++z0g 0 l++[93])=out++[91]++z0g 0 l++[93] from by simp only [List.append_assoc]);clear hP hll hr;clear h hL;go_enter Tryz.func98,Tryz.ntmps98;go_upto_region 1 with fail;rw [<- hg,<- hW1];clear hg hW1;have q0:=HFV.out.blk.cell 0;have q1:=HFV.out.blk.cell 1;have q2:=HFV.out.blk.cell 2;have q3:=HFV.out.blk.cell 3;simp at q0 q1 q2 q3;go_upto_region 15 with(go_at_call 136;refine(HW0.out _ _ HFV.out.fb (by omega)).mono ?_;rintro e w2 ⟨rfl,h2⟩;have HT2:=kf h2;clear h2);have hb2:=HFV.out.at_ HT2.out;have p3:=hb2.cell 3;simp at p3;clear hb2;go_upto_region 16 with(go_at_call 141;refine(HLS.out _ HT2.out).mono ?_;rintro e w3 ⟨rfl,h3⟩;have HT3:=kf h3;clear h3);go_wp2_with (go_at_call 136;refine(HW1.out _ _ HT3.out hl3).mono ?_;rintro e w4 ⟨rfl,h4⟩;have HT4:=kf h4;clear h4);go_end0;exact⟨rfl,by have h5:=HFV.out.end_ HT4.out;rw [<- HE.out] at h5;exact h5⟩
theorem y89 {V w W:World} {R:Nat} {out:List Nat} (h:FB V w W R out) (hL:LibOk w) (n:Int) (s:ByteArray) (A:Option Addr) (len cap:Nat) (l:List VT) (hP:∀ t∈l,PV t) (hll:l.length=len) (hr:RowIs w A 0 l) (hm:len<=9223372036854775807) (hl:out.length+([60,60]++z0g 0 l++[62,62]).length<=400000) :
  Calls Tryz.prog 98 #[.pointer (some ⟨R,0,none⟩),.agg #[.int .i64 7,.int .i64 n,.string s,.slice A len cap]] W fun e W'=>e=.returned (.tuple #[])/\FB V w W' R (out++([60,60]++z0g 0 l++[62,62])):=by
 have HLib:=kf hL;have HFV:=kf (FV.of h 7 n s A len cap);obtain⟨W1,hW1⟩:∃ W1,W1=W.alloc (.cells #[.int .i64 7,.int .i64 n,.string s,.slice A len cap] 25):=⟨_,rfl⟩
 obtain⟨g,hg⟩:∃ g,g=W.heap.size:=⟨_,rfl⟩
 rw [<- hW1,<- hg] at HFV;have HW0:=kf (fun X o (hX:FB W1 w X R o) (ho:o.length<=1000000)=>(show Calls Tryz.prog 136 #[.pointer (some ⟨R,0,none⟩),.string ⟨#[60,60]⟩] X fun e W'=>e=.returned (.tuple #[.int .i64 (2:Nat),.nilIface])/\FB W1 w W' R (o++[60,60]) from z16 hX [60,60] (by decide) ho (by decide)));have HW1:=kf (fun X o (hX:FB W1 w X R o) (ho:o.length<=1000000)=>(show Calls Tryz.prog 136 #[.pointer (some ⟨R,0,none⟩),.string ⟨#[62,62]⟩] X fun e W'=>e=.returned (.tuple #[.int .i64 (2:Nat),.nilIface])/\FB W1 w W' R (o++[62,62]) from z16 hX [62,62] (by decide) ho (by decide)));have hl2:(out++[60,60]).length+(z0g 0 l).length<=400000:=by simp only [List.length_append,List.length_cons,List.length_nil] at hl ⊢;omega
 have hl3:(out++[60,60]++z0g 0 l).length<=1000000:=by rw [List.length_append];omega
 have HLS:=kf (fun X (hX:FB W1 w X R (out++[60,60]))=>y0k l hP A len cap HLib.out hll hr hm hX hl2);have HE:=kf (show out++([60,60]++z0g 0 l++[62,62])=out++[60,60]++z0g 0 l++[62,62] from by simp only [List.append_assoc]);clear hP hll hr;clear h hL;go_enter Tryz.func98,Tryz.ntmps98;go_upto_region 1 with fail;rw [<- hg,<- hW1];clear hg hW1;have q0:=HFV.out.blk.cell 0;have q1:=HFV.out.blk.cell 1;have q2:=HFV.out.blk.cell 2;have q3:=HFV.out.blk.cell 3;simp at q0 q1 q2 q3;go_upto_region 19 with(go_at_call 136;refine(HW0.out _ _ HFV.out.fb (by omega)).mono ?_;rintro e w2 ⟨rfl,h2⟩;have HT2:=kf h2;clear h2);have hb2:=HFV.out.at_ HT2.out;have p3:=hb2.cell 3;simp at p3;clear hb2;go_upto_region 20 with(go_at_call 141;refine(HLS.out _ HT2.out).mono ?_;rintro e w3 ⟨rfl,h3⟩;have HT3:=kf h3;clear h3);go_wp2_with (go_at_call 136;refine(HW1.out _ _ HT3.out hl3).mono ?_;rintro e w4 ⟨rfl,h4⟩;have HT4:=kf h4;clear h4);go_end0;exact⟨rfl,by have h5:=HFV.out.end_ HT4.out;rw [<- HE.out] at h5;exact h5⟩
theorem v1p {V w W:World} {R:Nat} {out:List Nat} (h:FB V w W R out) (hL:LibOk w) (n:Int) (s:ByteArray) (A:Option Addr) (len cap:Nat) (hn1:1<=n) (hn2:n<=4096) (hl:out.length+(z06 n++[32,48,32,82]).length<=400000) :
  Calls Tryz.prog 98 #[.pointer (some ⟨R,0,none⟩),.agg #[.int .i64 8,.int .i64 n,.string s,.slice A len cap]] W fun e W'=>e=.returned (.tuple #[])/\FB V w W' R (out++(z06 n++[32,48,32,82])):=by
 have HLib:=kf hL;have HFV:=kf (FV.of h 8 n s A len cap);obtain⟨W1,hW1⟩:∃ W1,W1=W.alloc (.cells #[.int .i64 8,.int .i64 n,.string s,.slice A len cap] 25):=⟨_,rfl⟩
 obtain⟨g,hg⟩:∃ g,g=W.heap.size:=⟨_,rfl⟩
 rw [<- hW1,<- hg] at HFV;have HW0:=kf (fun X o (hX:FB W1 w X R o) (ho:o.length<=1000000)=>(show Calls Tryz.prog 136 #[.pointer (some ⟨R,0,none⟩),.string ⟨#[32,48,32,82]⟩] X fun e W'=>e=.returned (.tuple #[.int .i64 (4:Nat),.nilIface])/\FB W1 w W' R (o++[32,48,32,82]) from z16 hX [32,48,32,82] (by decide) ho (by decide)));have hl2:out.length+(z7d 2 n).length<=400000:=by rw [List.length_append] at hl;show out.length+(z06 n).length<=_;omega
 have hl3:(out++z7d 2 n).length<=1000000:=by rw [List.length_append];omega
 have HN:=kf (fun X (hX:FB W1 w X R out)=>z8t hX HLib.out 2 n ⟨#[]⟩ none 0 0 (by unfold z05;rw [if_pos ⟨rfl,rfl,.inl ⟨rfl,by omega,by omega⟩⟩]) hl2);have HIO:=kf (fun X=>y0d n X);have HE:=kf (show out++(z06 n++[32,48,32,82])=out++z7d 2 n++[32,48,32,82] from by rw [List.append_assoc];rfl);clear hn1 hn2;clear h hL;go_enter Tryz.func98,Tryz.ntmps98;go_upto_region 1 with fail;rw [<- hg,<- hW1];clear hg hW1;have q0:=HFV.out.blk.cell 0;have q1:=HFV.out.blk.cell 1;have q2:=HFV.out.blk.cell 2;have q3:=HFV.out.blk.cell 3;simp at q0 q1 q2 q3
 go_upto_region 23 with first
  |(go_at_call 135;refine(HIO.out _).mono ?_;rintro e w2 ⟨rfl,h2⟩;have HT2:=kf (HFV.out.fb.call h2);clear h2)
  |(go_at_call 138;refine(HN.out _ HT2.out).mono ?_;rintro e w3 ⟨rfl,h3⟩;have HT3:=kf h3;clear h3)
 go_wp2_with (go_at_call 136;refine(HW0.out _ _ HT3.out hl3).mono ?_;rintro e w4 ⟨rfl,h4⟩;have HT4:=kf h4;clear h4);go_end0;exact⟨rfl,by have h5:=HFV.out.end_ HT4.out;rw [<- HE.out] at h5;exact h5⟩
theorem v78:∀ (N:Nat) (t:VT),z2n t<=N->z0s t=0->PV t:=by
 intro N;induction N using Nat.strongRecOn with
 |_ N ih =>
  intro t hN hf c V w W R out hL hv h hl;obtain⟨k,n,s,l⟩:=t;rw [z0x] at hN;obtain⟨ck,cn,cs,A,len,cap⟩:=c;obtain⟨e1,e2,e3,hg,hll,hr⟩:=hv.inv;simp only [] at e1 e2 e3 hll hr;subst e1 e2 e3;have hlm:=hg.len;simp only [] at hlm;unfold maxLen at hlm
  have hin:ck=6\/ck=7->∀ x∈l,PV x:=fun hk x hx=>by
   have hfx:=z8v hk hf x hx;obtain⟨i,hi,rfl⟩:=List.mem_iff_getElem.1 hx;have:=z1r (List.getElem?_eq_getElem hi);exact ih (N-1) (by omega) _ (by omega) hfx
  have ho:=z61 hf;unfold VC.val;simp only [];rcases y1l ho with rfl|rfl|rfl|rfl|rfl|rfl|rfl|rfl|rfl
  ·rw [y8j] at hl ⊢;exact y87 h hL cn cs A len cap hl
  ·rw [z5e] at ho;split at ho
   ·next hh =>
    rcases hh.2.2 with rfl|rfl
    ·rw [y0i,if_neg (by decide)] at hl ⊢;exact y4w h hL cs A len cap hl
    ·rw [y0i,if_pos rfl] at hl ⊢;exact y84 h hL cs A len cap hl
   ·cases ho
  ·rw [y07,hll] at ho;rw [y8i] at hl ⊢;exact v1q h hL cn cs A len cap ho hl
  ·rw [y06,hll] at ho;rw [y8h] at hl ⊢;exact y86 h hL cn cs A len cap ho hl
  ·rw [y8g] at hl ⊢;exact y85 h hL cn cs A len cap hl
  ·rw [y8f] at hl ⊢;exact y88 h hL cn cs A len cap hl
  ·have e:z0c (.mk 6 cn cs l)=[91]++z0g 0 l++[93]:=by rw [y8e];rfl
   rw [e] at hl ⊢;exact y4x h hL cn cs A len cap l (hin (.inl rfl)) hll hr hlm hl
  ·have e:z0c (.mk 7 cn cs l)=[60,60]++z0g 0 l++[62,62]:=by rw [y8d];rfl
   rw [e] at hl ⊢;exact y89 h hL cn cs A len cap l (hin (.inr rfl)) hll hr hlm hl
  ·rw [z4i] at ho;split at ho
   ·next hh =>
    rw [y8c] at hl ⊢;exact v1p h hL cn cs A len cap hh.2.2.1 hh.2.2.2 hl
   ·cases ho
theorem z7s (e:XEn) (w:World):Calls Tryz.prog 31 #[.agg e.cells.toArray] w fun r w'=>r=.returned (.bool (z2b e))/\Chg NoS w w':=by
 obtain⟨p,g,u⟩:=e;have HX:∀ y,z2b ⟨p,g,u⟩=y->Hid (z2b ⟨p,g,u⟩=y):=fun _ h=>h;show Calls _ _ #[.agg #[.int .i64 p,.int .i64 g,.bool u]] _ _;by_cases h0:0<=p;rotate_left
 ·have d0:decide (0<=p)=false:=by simpa using h0
  have HY:=HX false (by unfold z2b;simp [h0]);rw [HY.out];clear HX HY h0;go_enter Tryz.func31,Tryz.ntmps31;go_wp2_with fail;go_ret;exact⟨rfl,(Chg.refl NoS w).alloc _⟩
 by_cases h1:p<=2147483647;rotate_left
 ·have d1:decide (p<=2147483647)=false:=by simpa using h1
  have HY:=HX false (by unfold z2b;simp [h0,h1]);rw [HY.out];clear HX HY h1;go_enter Tryz.func31,Tryz.ntmps31;go_wp2_with fail;go_ret;exact⟨rfl,(Chg.refl NoS w).alloc _⟩
 by_cases h2:0<=g;rotate_left
 ·have d2:decide (0<=g)=false:=by simpa using h2
  have HY:=HX false (by unfold z2b;simp [h0,h1,h2]);rw [HY.out];clear HX HY h2;go_enter Tryz.func31,Tryz.ntmps31;go_wp2_with fail;go_ret;exact⟨rfl,(Chg.refl NoS w).alloc _⟩
 by_cases h3:g<=65535;rotate_left
 ·have d3:decide (g<=65535)=false:=by simpa using h3
  have HY:=HX false (by unfold z2b;simp [h0,h1,h2,h3]);rw [HY.out];clear HX HY h3;go_enter Tryz.func31,Tryz.ntmps31;go_wp2_with fail;go_ret;exact⟨rfl,(Chg.refl NoS w).alloc _⟩
 have HY:=HX true (by unfold z2b;simp [h0,h1,h2,h3]);rw [HY.out];clear HX HY;go_enter Tryz.func31,Tryz.ntmps31;go_wp2_with fail;go_ret;exact⟨rfl,(Chg.refl NoS w).alloc _⟩
theorem y2n (n d:Int) (w:World) (h0:-9223372036854775808<=n/\n<=9223372036854775807) (h1:-9223372036854775808<=d/\d<=9223372036854775807) :
  Calls Tryz.prog 32 #[.int .i64 n,.int .i64 d] w fun e w'=>e=.returned (.tuple #[.string (sb (z27 n d).1),.int .i64 (z27 n d).2])/\Chg NoS w w':=(v0k n d w h0 h1).mono (fun e w' h=>⟨h.1,h.2 ▸ Chg.refl NoS w⟩)
theorem z5n (e:XEn) (w:World) (hp:-9223372036854775808<=e.pl/\e.pl<=9223372036854775807) (hg:-9223372036854775808<=e.gen/\e.gen<=9223372036854775807) :
  Calls Tryz.prog 13 #[.agg e.cells.toArray] w fun r w'=>r=.returned (.tuple #[.string (if z2b e then sb (z15 e) else⟨#[]⟩),.int .i64 (if z2b e then 0 else 2)])/\Chg NoS w w':=by
 have HM:=kf (fun W=>z7s e W);have HOK:=kf (fun h=>z6t (e:=e) h);obtain⟨m,hm⟩:∃ m,m=z2b e:=⟨_,rfl⟩
 rw [<- hm] at HM HOK ⊢;have HLN:=kf (show z15 e=txt e.pl.toNat 10++[32]++txt e.gen.toNat 5++[32]++[y4s e.us]++[32,10] from rfl);obtain⟨L,hLn⟩:∃ L,L=z15 e:=⟨_,rfl⟩
 rw [<- hLn] at HLN ⊢;have HPA:=kf (fun W (hW:Chg NoS w W)=>y2n e.pl 10 W hp (by decide));have HPB:=kf (fun W (hW:Chg NoS w W)=>y2n e.gen 5 W hg (by decide));obtain⟨p,g,u⟩:=e;simp only [] at HPA HPB HOK HLN hp hg;unfold XEn.cells at HM ⊢;simp only [] at HM ⊢;have HB:=kf (Blk.new w 29 #[.int .i64 p,.int .i64 g,.bool u]);have HC:=kf ((Chg.refl NoS w).alloc (.cells #[.int .i64 p,.int .i64 g,.bool u] 29));clear hm hLn;go_enter Tryz.func13,Tryz.ntmps13;go_upto_region 1 with fail;obtain⟨W1,hW1⟩:∃ W1,W1=w.alloc (.cells #[.int .i64 p,.int .i64 g,.bool u] 29):=⟨_,rfl⟩
 obtain⟨g1,hg1⟩:∃ g1,g1=w.heap.size:=⟨_,rfl⟩
 rw [<- hW1] at HB HC ⊢;rw [<- hg1] at HB ⊢;clear hW1 hg1;obtain⟨p0,p1,p2,-⟩:=HB.out.cl3;go_upto_region 1 with fail;cases m with
 |false =>
  go_wp2_with (go_at_call 31;refine(HM.out _).mono ?_;rintro e w2 ⟨rfl,hc2⟩;have HC2:=kf (HC.out.trans hc2 (fun _ _ e=>e));clear hc2);go_ret2;exact⟨rfl,HC2.out⟩
 |true =>
  have HK:=kf (HOK.out rfl);have hp1:=y2z (n:=p) (k:=10) HK.out.1 (z0v (by have:=HK.out;omega)) (by decide) (by decide);have hp2:=y2z (n:=g) (k:=5) HK.out.2.2.1 (z0v (by have:=HK.out;omega)) (by decide) (by decide);rw [show((10:Nat):Int)=10 from rfl] at hp1;rw [show((5:Nat):Int)=5 from rfl] at hp2;rw [hp1] at HPA;rw [hp2] at HPB;simp only [] at HPA HPB;obtain⟨S1,hS1⟩:∃ S,S=sb (txt p.toNat 10):=⟨_,rfl⟩
  obtain⟨S2,hS2⟩:∃ S,S=sb (txt g.toNat 5):=⟨_,rfl⟩
  obtain⟨S3,hS3⟩:∃ S,S=sb [y4s u]:=⟨_,rfl⟩
  rw [<- hS1] at HPA;rw [<- hS2] at HPB;have z1:S1.size=10:=by rw [hS1,z01,z3z (z0v (by have:=HK.out;omega))]
  have z2:S2.size=5:=by rw [hS2,z01,z3z (z0v (by have:=HK.out;omega))]
  have HE:=kf (show S1++⟨#[32]⟩++S2++⟨#[32]⟩++S3++⟨#[32,10]⟩=sb L from by
   rw [hS1,hS2,hS3,HLN.out,show(⟨#[32]⟩:ByteArray)=sb [32] from rfl,show(⟨#[32,10]⟩:ByteArray)=sb [32,10] from rfl];simp only [z6g])
  have z3:S3.size=1:=by rw [hS3,z01];rfl
  have HS3:=kf hS3;clear hS1 hS2 hS3 hp1 hp2
  go_upto_region 5 with(first
   |(go_at_call 31;refine(HM.out _).mono ?_;rintro e w2 ⟨rfl,hc2⟩;have HC2:=kf (HC.out.trans hc2 (fun _ _ e=>e));obtain⟨p0,p1,p2,-⟩:=(HB.out.chg hc2 (fun e=>e)).cl3;have HB2:=kf (HB.out.chg hc2 (fun e=>e));clear hc2)
   |(have hgo:=HC3.out;clear hgo;go_at_call 32;refine(HPB.out _ HC3.out).mono ?_;rintro e w4 ⟨rfl,hc4⟩;have HC4:=kf (HC3.out.trans hc4 (fun _ _ e=>e));obtain⟨r0,r1,r2,-⟩:=(HB3.out.chg hc4 (fun e=>e)).cl3;have HB4:=kf (HB3.out.chg hc4 (fun e=>e));clear hc4)
   |(go_at_call 32;refine(HPA.out _ HC2.out).mono ?_;rintro e w3 ⟨rfl,hc3⟩;have HC3:=kf (HC2.out.trans hc3 (fun _ _ e=>e));obtain⟨q0,q1,q2,-⟩:=(HB2.out.chg hc3 (fun e=>e)).cl3;have HB3:=kf (HB2.out.chg hc3 (fun e=>e));clear hc3))
  cases u with
  |true =>
   have hs3:S3=⟨#[110]⟩:=HS3.out;subst hs3;go_wp2_with fail;go_ret2;exact⟨by rw [<- HE.out];rfl,HC4.out⟩
  |false =>
   have hs3:S3=⟨#[102]⟩:=HS3.out;subst hs3;go_wp2_with fail;go_ret2;exact⟨by rw [<- HE.out];rfl,HC4.out⟩
theorem y7a:∀ s:List Nat,(nmL s).length<=3*s.length:=by
 intro s;induction s with
 |nil=>exact Nat.le_refl _
 |cons c s ih =>
  rw [nmL,List.length_append,List.length_cons];have:(nmC c).length<=3:=by unfold nmC;split<;>simp [z9a]
  omega
theorem v5b:∀ s:List Nat,(esL s).length<=2*s.length:=by
 intro s;induction s with
 |nil=>exact Nat.le_refl _
 |cons c s ih =>
  rw [esL,List.length_append,List.length_cons];have:(esC c).length<=2:=by unfold esC;split<;>simp
  omega
theorem v4y:∀ s:List Nat,(hxL s).length=2*s.length:=by
 intro s;induction s with
 |nil=>rfl
 |cons c s ih =>
  rw [hxL,List.length_append,List.length_cons,ih];simp only [z9a,List.length_cons,List.length_nil];omega
theorem y2k (x:Int):(z33 x).length<=1:=by unfold z33;split<;>simp
theorem y7q (x:Int) (h:x.natAbs<=2147483647):(z06 x).length<=11:=by
 have h1:=y2k x;have h2:=z0v (n:=x.natAbs) (k:=10) (by omega);rw [z06,List.length_append,z1d];omega
theorem z9i:∀ (k:Nat) (l:List Nat),(z1e k l).length<=l.length:=by
 intro k;induction k with
 |zero=>intro l;exact Nat.le_refl _
 |succ k ih =>
  intro l;rw [z1e];split
  ·have:=ih l.dropLast;rw [List.length_dropLast] at this;omega
  ·exact Nat.le_refl _
theorem v0p (x:Int) (h:x.natAbs<=2147483647*1000000):(z0q x).length<=18:=by
 have h1:=y2k x;have h2:=z0v (n:=x.natAbs / 1000000) (k:=10) (by omega);have h3:=z9i 5 (txt (x.natAbs%1000000) 6);have h4:=z0v (n:=x.natAbs%1000000) (k:=6) (by omega);rw [z1d] at h3;rw [z0q,List.length_append,List.length_append,List.length_cons,z1d];omega
def wxB:List Nat:=[120,114,101,102,10,51,32,49,10,48,48,48,48,48,48,48,48,49,55,32,48,48,48,48,48,32,110,32,10,116,114,97,105,108,101,114,60,60,62,62,32]
def wxG:XGr:=⟨3,[⟨17,0,true⟩]⟩
theorem v61:z7k wxB false z4d (0,0)=(4,0):=by rfl
theorem y5j:z1j wxB false (4,0)=(⟨1,5,6,2,3,[],[]⟩,(6,0)):=by rfl
theorem v63:y10 wxB false 0 ⟨1,5,6,2,3,[],[]⟩ (6,0)=(1,(8,0)):=by rfl
theorem wx_line:y7k ((wxB.drop 9).take 19)=⟨17,0,true⟩/\y7l ((wxB.drop 9).take 19)=0:=⟨by rfl,by rfl⟩
theorem v3d:z2j wxB false 1 (8,0) []=([⟨17,0,true⟩],(28,0)):=by
 rw [z2j,if_neg (by simp)];have h1:(8:Int).toNat+z9q wxB (8:Int).toNat=9:=by rfl
 simp only [h1]
 have h2:y1r wxB false 9=(⟨17,0,true⟩,(28,0)):=by
  unfold y1r;rw [if_neg (by decide),wx_line.1,wx_line.2];rfl
 rw [h2];rfl
theorem y5i:z1j wxB false (28,0)=(⟨6,29,36,0,0,[],[116,114,97,105,108,101,114]⟩,(36,0)):=by rfl
theorem v66:z5h wxB false 66 (4,0) []=([wxG],(36,0)):=by
 rw [y83 (by rw [y5j];exact fun h=>absurd h.1 (by decide)),y5j];simp only [List.length_nil];rw [v63];simp only [];rw [show(1:Int).toNat=1 from rfl,v3d];simp only [];rw [y82 (by rw [y5i];exact⟨rfl,rfl⟩),y5i];rfl
theorem v64:z8f wxB false (36:Int) []=(0,.mk 7 0 ⟨#[]⟩ [],40):=by
 have s1:z3c wxB false (z07 wxB 36 false) []=.next 38 [(7,[])]:=by rfl
 have n2:z07 wxB ((38:Nat):Int) false=(0,⟨5,38,40,0,0,[],[]⟩):=by rfl
 have s2:z3c wxB false (z07 wxB ((38:Nat):Int) false) [(7,[])]=.done 0 (.mk 7 0 ⟨#[]⟩ []) 40:=by
  rw [n2]
  have hp:y2x [((7:Int),[])] 7=(0,.mk 7 0 ⟨#[]⟩ []):=by
   unfold y2x;simp only [ne_eq,not_true_eq_false,if_false,if_true];unfold z9b;rw [if_neg (by decide)];first|rfl|(rw [if_neg (by omega)];rfl)
  unfold z3c;simp only [hp];rfl
 rw [(z1s s1).1,z0m s2]
theorem v67:y3i wxB false (36,0)=(.mk 7 0 ⟨#[]⟩ [],(40,0)):=by
 unfold y3i;rw [if_neg (by simp),v64];rfl
theorem v60:v8j wxB 0 false=⟨[wxG],.mk 7 0 ⟨#[]⟩ [],40,0⟩:=by
 unfold v8j;rw [v61,v66];simp only [];rw [v67];rfl
theorem v65:z2b ⟨17,0,true⟩=true:=by rfl
theorem v62:z15 ⟨17,0,true⟩=[48,48,48,48,48,48,48,48,49,55,32,48,48,48,48,48,32,110,32,10]:=by
 unfold z15;have h1:dn 17=[49,55]:=by rw [v28 (by decide),show 17 / 10=1 from rfl,v28 (by decide),show 1 / 10=0 from rfl,y91];rfl
 have h2:txt 17 10=[48,48,48,48,48,48,48,48,49,55]:=by unfold txt;rw [h1];rfl
 have h3:txt 0 5=[48,48,48,48,48]:=by unfold txt;rw [y91];rfl
 show txt 17 10++[32]++txt 0 5++[32]++[y4s true]++[32,10]=_;rw [h2,h3];rfl
end Go.Proofs.YtnhlalkeaaiefaaGreatDoor
