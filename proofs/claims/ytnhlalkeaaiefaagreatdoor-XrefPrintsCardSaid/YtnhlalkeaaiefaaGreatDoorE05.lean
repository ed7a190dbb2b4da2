import Derived.Test.YtnhlalkeaaiefaaGreatDoorE02
set_option linter.unusedVariables false
set_option maxHeartbeats 64000000
set_option maxRecDepth 100000
set_option linter.unusedSimpArgs false
namespace Go.Proofs.YtnhlalkeaaiefaaGreatDoor
open Go.RowKit
theorem z2a (k n:Int) (s:ByteArray) (A:Option Addr) (len cap:Nat) (w:World) :
  Calls Tryz.prog 103 #[.agg #[.int .i64 k,.int .i64 n,.string s,.slice A len cap]] w fun e w'=>e=.returned (.int .i64 (z05 k n s.size len))/\Chg NoS w w':=by
 by_cases h3:k=3
 ·subst h3;by_cases c1:n < -2147483647000000
  ·have d1:decide (n < -2147483647000000)=true:=by simpa using c1
   have HZ:Hid (z05 3 n s.size len=2):=if_neg (fun h=>by have h:=h.2.2;unfold z2x at h;omega);clear c1;go_enter Tryz.func103,Tryz.ntmps103;go_wp2_with fail;go_ret;refine⟨?_,(Chg.refl NoS w).alloc _⟩;rw [HZ.out];rfl
  ·have d1:decide (n < -2147483647000000)=false:=by simpa using c1
   by_cases c2:2147483647000000<n
   ·have d2:decide (2147483647000000<n)=true:=by simpa using c2
    have HZ:Hid (z05 3 n s.size len=2):=if_neg (fun h=>by have h:=h.2.2;unfold z2x at h;omega);clear c1 c2;go_enter Tryz.func103,Tryz.ntmps103;go_wp2_with fail;go_ret;refine⟨?_,(Chg.refl NoS w).alloc _⟩;rw [HZ.out];rfl
   ·have d2:decide (2147483647000000<n)=false:=by simpa using c2
    by_cases hs:s.size=0
    ·obtain rfl:=z0t hs;by_cases hl:0<len
     ·have d3:decide (0<(len:Int))=true:=by simp;omega
      have d3':decide (0<len)=true:=by simp;omega
      have HZ:Hid (z05 3 n (ByteArray.mk #[]).size len=2):=if_neg (fun h=>by have h:=h.2.1;omega);clear c1 c2 hs hl;go_enter Tryz.func103,Tryz.ntmps103;go_wp2_with fail;go_ret;refine⟨?_,(Chg.refl NoS w).alloc _⟩;show _=Ending.returned (Value.int IntKind.i64 (z05 _ _ (ByteArray.mk #[]).size _));rw [HZ.out];rfl
     ·obtain rfl:len=0:=by omega
      have HZ:Hid (z05 3 n (ByteArray.mk #[]).size 0=0):=if_pos ⟨rfl,rfl,by unfold z2x;omega⟩;clear c1 c2 hs hl;go_enter Tryz.func103,Tryz.ntmps103;go_wp2_with fail;go_ret;refine⟨?_,(Chg.refl NoS w).alloc _⟩;show _=Ending.returned (Value.int IntKind.i64 (z05 _ _ (ByteArray.mk #[]).size _));rw [HZ.out];rfl
    ·have u1:=z7n hs;have HZ:Hid (z05 3 n s.size len=2):=if_neg (fun h=>hs h.1);clear c1 c2 hs;go_enter Tryz.func103,Tryz.ntmps103;go_wp2_with fail;go_ret;refine⟨?_,(Chg.refl NoS w).alloc _⟩;rw [HZ.out];rfl
 ·have u3:(k==3)=false:=by simpa using h3
  by_cases h2:k=2
  ·subst h2;clear u3 h3;by_cases c1:n < -2147483647
   ·have d1:decide (n < -2147483647)=true:=by simpa using c1
    have HZ:Hid (z05 2 n s.size len=2):=if_neg (fun h=>by have h:=h.2.2;unfold z2x at h;omega);clear c1;go_enter Tryz.func103,Tryz.ntmps103;go_wp2_with fail;go_ret;refine⟨?_,(Chg.refl NoS w).alloc _⟩;rw [HZ.out];rfl
   ·have d1:decide (n < -2147483647)=false:=by simpa using c1
    by_cases c2:2147483647<n
    ·have d2:decide (2147483647<n)=true:=by simpa using c2
     have HZ:Hid (z05 2 n s.size len=2):=if_neg (fun h=>by have h:=h.2.2;unfold z2x at h;omega);clear c1 c2;go_enter Tryz.func103,Tryz.ntmps103;go_wp2_with fail;go_ret;refine⟨?_,(Chg.refl NoS w).alloc _⟩;rw [HZ.out];rfl
    ·have d2:decide (2147483647<n)=false:=by simpa using c2
     by_cases hs:s.size=0
     ·obtain rfl:=z0t hs;by_cases hl:0<len
      ·have d3:decide (0<(len:Int))=true:=by simp;omega
       have d3':decide (0<len)=true:=by simp;omega
       have HZ:Hid (z05 2 n (ByteArray.mk #[]).size len=2):=if_neg (fun h=>by have h:=h.2.1;omega);clear c1 c2 hs hl;go_enter Tryz.func103,Tryz.ntmps103;go_wp2_with fail;go_ret;refine⟨?_,(Chg.refl NoS w).alloc _⟩;show _=Ending.returned (Value.int IntKind.i64 (z05 _ _ (ByteArray.mk #[]).size _));rw [HZ.out];rfl
      ·obtain rfl:len=0:=by omega
       have HZ:Hid (z05 2 n (ByteArray.mk #[]).size 0=0):=if_pos ⟨rfl,rfl,by unfold z2x;omega⟩;clear c1 c2 hs hl;go_enter Tryz.func103,Tryz.ntmps103;go_wp2_with fail;go_ret;refine⟨?_,(Chg.refl NoS w).alloc _⟩;show _=Ending.returned (Value.int IntKind.i64 (z05 _ _ (ByteArray.mk #[]).size _));rw [HZ.out];rfl
     ·have u1:=z7n hs;have HZ:Hid (z05 2 n s.size len=2):=if_neg (fun h=>hs h.1);clear c1 c2 hs;go_enter Tryz.func103,Tryz.ntmps103;go_wp2_with fail;go_ret;refine⟨?_,(Chg.refl NoS w).alloc _⟩;rw [HZ.out];rfl
  ·have u2:(k==2)=false:=by simpa using h2
   have u2':(k != 2)=true:=by simpa using h2
   have HZ:Hid (z05 k n s.size len=2):=if_neg (fun h=>by have h:=h.2.2;unfold z2x at h;omega);clear h3 h2;go_enter Tryz.func103,Tryz.ntmps103;go_wp2_with fail;go_ret;refine⟨?_,(Chg.refl NoS w).alloc _⟩;rw [HZ.out];rfl
theorem v8w {k:Int} (h0:k≠0) (h1:k≠1) (h2:k≠2) (h3:k≠3) (h4:k≠4) (h5:k≠5) (h6:k≠6) (h7:k≠7) (h8:k≠8) (n:Int) (s:ByteArray) (l:List VT):z0d k n s l=2:=by
 rw [z0d,if_neg h0,if_neg h1,if_neg (by omega),if_neg h4,if_neg h5,if_neg h6,if_neg h7,if_neg h8]
theorem y9l (c:VC) (l:List VT) (w:World) (hv:ValIs w (.mk c.k c.n c.s l) c) :
  Calls Tryz.prog 69 #[c.val] w fun e w'=>e=.returned (.int .i64 (z0d c.k c.n c.s l))/\Chg NoS w w':=by
 obtain⟨_,_,_,hg,hl,hr⟩:=hv.inv;obtain⟨k,n,s,A,len,cap⟩:=c;simp only [] at hl hr;have hlm:=hg.len;have hss:=hg.s;simp only [] at hlm hss;unfold maxLen at hss;unfold VC.val;simp only [];have HC0:=kf ((Chg.refl NoS w).alloc (.cells #[.int .i64 k,.int .i64 n,.string s,.slice A len cap] 25));have HN:=kf (fun(W:World) (h:Chg NoS w W)=>y7f l A len cap w W hl hr hlm h);have HT:=kf (fun W=>y99 s W);have HK:=kf (fun W=>z2a k n s A len cap W);have HL:=kf hl;obtain⟨tb,htb⟩:∃ tb,s.toList.isEmpty=tb:=⟨_,rfl⟩
 obtain⟨lb,hlb⟩:∃ lb,((len:Int)==0)=lb:=⟨_,rfl⟩
 have HTB:Hid ((tb=true/\s.size=0)\/(tb=false/\¬s.size=0)):=by
  show _\/_;by_cases h:s.size=0
  ·rw [z0t h] at htb;subst htb;exact .inl ⟨by simp [ByteArray.toList_eq],h⟩
  ·rw [z1g h] at htb;subst htb;exact .inr ⟨rfl,h⟩
 have HLB:Hid ((lb=true/\l.length=0)\/(lb=false/\¬l.length=0)):=by
  show _\/_;rw [hl];by_cases h:len=0
  ·subst h;subst hlb;exact .inl ⟨rfl,rfl⟩
  ·have:((len:Int)==0)=false:=by simpa using h
   rw [this] at hlb;subst hlb;exact .inr ⟨rfl,h⟩
 clear hv hg hr hlm hl;go_enter Tryz.func69,Tryz.ntmps69;go_upto_region 2 with fail;go_quiet (fail);go_upto_region 3 with fail;clear htb hlb;by_cases k0:k=0
 ·subst k0;by_cases c1:n<0
  ·have d1:decide (n<0)=true:=by simpa using c1
   have HE:Hid (z0d 0 n s l=2):=by
    show _=_;have a:=HTB.out;have b:=HLB.out;(try simp only [reduceCtorEq,eq_self,false_and,true_and,or_false,false_or,Bool.true_eq_false,Bool.false_eq_true] at a);(try simp only [reduceCtorEq,eq_self,false_and,true_and,or_false,false_or,Bool.true_eq_false,Bool.false_eq_true] at b)
    rw [z7b];split<;>first|rfl|(exfalso;omega)
   clear c1;go_wp2_with (fail);go_ret;exact⟨z00 HE.out.symm,HC0.out.drewN nq⟩
  have d1:decide (n<0)=false:=by simpa using c1
  by_cases c2:0<n
  ·have d2:decide (0<n)=true:=by simpa using c2
   have HE:Hid (z0d 0 n s l=2):=by
    show _=_;have a:=HTB.out;have b:=HLB.out;(try simp only [reduceCtorEq,eq_self,false_and,true_and,or_false,false_or,Bool.true_eq_false,Bool.false_eq_true] at a);(try simp only [reduceCtorEq,eq_self,false_and,true_and,or_false,false_or,Bool.true_eq_false,Bool.false_eq_true] at b)
    rw [z7b];split<;>first|rfl|(exfalso;omega)
   clear c1 c2;go_wp2_with (fail);go_ret;exact⟨z00 HE.out.symm,HC0.out.drewN nq⟩
  have d2:decide (0<n)=false:=by simpa using c2
  cases tb with
  |false =>
   have HE:Hid (z0d 0 n s l=2):=by
    show _=_;have a:=HTB.out;have b:=HLB.out;(try simp only [reduceCtorEq,eq_self,false_and,true_and,or_false,false_or,Bool.true_eq_false,Bool.false_eq_true] at a);(try simp only [reduceCtorEq,eq_self,false_and,true_and,or_false,false_or,Bool.true_eq_false,Bool.false_eq_true] at b)
    rw [z7b];split<;>first|rfl|(exfalso;omega)
   clear c1 c2;go_wp2_with (fail);go_ret;exact⟨z00 HE.out.symm,HC0.out.drewN nq⟩
  |true =>
   cases lb with
   |false =>
    have HE:Hid (z0d 0 n s l=2):=by
     show _=_;have a:=HTB.out;have b:=HLB.out;(try simp only [reduceCtorEq,eq_self,false_and,true_and,or_false,false_or,Bool.true_eq_false,Bool.false_eq_true] at a);(try simp only [reduceCtorEq,eq_self,false_and,true_and,or_false,false_or,Bool.true_eq_false,Bool.false_eq_true] at b)
     rw [z7b];split<;>first|rfl|(exfalso;omega)
    clear c1 c2;go_wp2_with (fail);go_ret;exact⟨z00 HE.out.symm,HC0.out.drewN nq⟩
   |true =>
    have HE:Hid (z0d 0 n s l=0):=by
     show _=_;have a:=HTB.out;have b:=HLB.out;(try simp only [reduceCtorEq,eq_self,false_and,true_and,or_false,false_or,Bool.true_eq_false,Bool.false_eq_true] at a);(try simp only [reduceCtorEq,eq_self,false_and,true_and,or_false,false_or,Bool.true_eq_false,Bool.false_eq_true] at b)
     rw [z7b];split<;>first|rfl|(exfalso;omega)
    clear c1 c2;go_wp2_with (fail);go_ret;exact⟨z00 HE.out.symm,HC0.out.drewN nq⟩
 have e0:(k==0)=false:=by simpa using k0
 by_cases k1:k=1
 ·subst k1;by_cases c1:n<0
  ·have d1:decide (n<0)=true:=by simpa using c1
   have HE:Hid (z0d 1 n s l=2):=by
    show _=_;have a:=HTB.out;have b:=HLB.out;(try simp only [reduceCtorEq,eq_self,false_and,true_and,or_false,false_or,Bool.true_eq_false,Bool.false_eq_true] at a);(try simp only [reduceCtorEq,eq_self,false_and,true_and,or_false,false_or,Bool.true_eq_false,Bool.false_eq_true] at b)
    rw [z5e];split<;>first|rfl|(exfalso;omega)
   clear c1;go_wp2_with (fail);go_ret;exact⟨z00 HE.out.symm,HC0.out.drewN nq⟩
  have d1:decide (n<0)=false:=by simpa using c1
  by_cases c2:1<n
  ·have d2:decide (1<n)=true:=by simpa using c2
   have HE:Hid (z0d 1 n s l=2):=by
    show _=_;have a:=HTB.out;have b:=HLB.out;(try simp only [reduceCtorEq,eq_self,false_and,true_and,or_false,false_or,Bool.true_eq_false,Bool.false_eq_true] at a);(try simp only [reduceCtorEq,eq_self,false_and,true_and,or_false,false_or,Bool.true_eq_false,Bool.false_eq_true] at b)
    rw [z5e];split<;>first|rfl|(exfalso;omega)
   clear c1 c2;go_wp2_with (fail);go_ret;exact⟨z00 HE.out.symm,HC0.out.drewN nq⟩
  have d2:decide (1<n)=false:=by simpa using c2
  cases tb with
  |false =>
   have HE:Hid (z0d 1 n s l=2):=by
    show _=_;have a:=HTB.out;have b:=HLB.out;(try simp only [reduceCtorEq,eq_self,false_and,true_and,or_false,false_or,Bool.true_eq_false,Bool.false_eq_true] at a);(try simp only [reduceCtorEq,eq_self,false_and,true_and,or_false,false_or,Bool.true_eq_false,Bool.false_eq_true] at b)
    rw [z5e];split<;>first|rfl|(exfalso;omega)
   clear c1 c2;go_wp2_with (fail);go_ret;exact⟨z00 HE.out.symm,HC0.out.drewN nq⟩
  |true =>
   cases lb with
   |false =>
    have HE:Hid (z0d 1 n s l=2):=by
     show _=_;have a:=HTB.out;have b:=HLB.out;(try simp only [reduceCtorEq,eq_self,false_and,true_and,or_false,false_or,Bool.true_eq_false,Bool.false_eq_true] at a);(try simp only [reduceCtorEq,eq_self,false_and,true_and,or_false,false_or,Bool.true_eq_false,Bool.false_eq_true] at b)
     rw [z5e];split<;>first|rfl|(exfalso;omega)
    clear c1 c2;go_wp2_with (fail);go_ret;exact⟨z00 HE.out.symm,HC0.out.drewN nq⟩
   |true =>
    have HE:Hid (z0d 1 n s l=0):=by
     show _=_;have a:=HTB.out;have b:=HLB.out;(try simp only [reduceCtorEq,eq_self,false_and,true_and,or_false,false_or,Bool.true_eq_false,Bool.false_eq_true] at a);(try simp only [reduceCtorEq,eq_self,false_and,true_and,or_false,false_or,Bool.true_eq_false,Bool.false_eq_true] at b)
     rw [z5e];split<;>first|rfl|(exfalso;omega)
    clear c1 c2;go_wp2_with (fail);go_ret;exact⟨z00 HE.out.symm,HC0.out.drewN nq⟩
 have e1:(k==1)=false:=by simpa using k1
 by_cases k2:k=2
 ·subst k2
  have HE:Hid (z0d 2 n s l=z05 2 n s.size len):=by
   show _=_;rw [y07,HL.out]
  go_wp2_with (go_at_call 103;refine(HK.out _).mono ?_;rintro e w3 ⟨rfl,hc3⟩;have HC3:=kf ((HC0.out.drewN nq).trans hc3 (fun _ _ e=>e));clear hc3);go_ret;exact⟨z00 HE.out.symm,HC3.out⟩
 have e2:(k==2)=false:=by simpa using k2
 by_cases k3:k=3
 ·subst k3
  have HE:Hid (z0d 3 n s l=z05 3 n s.size len):=by
   show _=_;rw [y06,HL.out]
  go_wp2_with (go_at_call 103;refine(HK.out _).mono ?_;rintro e w3 ⟨rfl,hc3⟩;have HC3:=kf ((HC0.out.drewN nq).trans hc3 (fun _ _ e=>e));clear hc3);go_ret;exact⟨z00 HE.out.symm,HC3.out⟩
 have e3:(k==3)=false:=by simpa using k3
 by_cases k4:k=4
 ·subst k4;by_cases c1:n<0
  ·have d1:decide (n<0)=true:=by simpa using c1
   have HE:Hid (z0d 4 n s l=2):=by
    show _=_;have a:=HTB.out;have b:=HLB.out;(try simp only [reduceCtorEq,eq_self,false_and,true_and,or_false,false_or,Bool.true_eq_false,Bool.false_eq_true] at a);(try simp only [reduceCtorEq,eq_self,false_and,true_and,or_false,false_or,Bool.true_eq_false,Bool.false_eq_true] at b)
    rw [z5w];split<;>first|rfl|(exfalso;omega)
   clear c1;go_wp2_with (fail);go_ret;exact⟨z00 HE.out.symm,HC0.out.drewN nq⟩
  have d1:decide (n<0)=false:=by simpa using c1
  by_cases c2:0<n
  ·have d2:decide (0<n)=true:=by simpa using c2
   have HE:Hid (z0d 4 n s l=2):=by
    show _=_;have a:=HTB.out;have b:=HLB.out;(try simp only [reduceCtorEq,eq_self,false_and,true_and,or_false,false_or,Bool.true_eq_false,Bool.false_eq_true] at a);(try simp only [reduceCtorEq,eq_self,false_and,true_and,or_false,false_or,Bool.true_eq_false,Bool.false_eq_true] at b)
    rw [z5w];split<;>first|rfl|(exfalso;omega)
   clear c1 c2;go_wp2_with (fail);go_ret;exact⟨z00 HE.out.symm,HC0.out.drewN nq⟩
  have d2:decide (0<n)=false:=by simpa using c2
  cases lb with
  |false =>
   have HE:Hid (z0d 4 n s l=2):=by
    show _=_;have a:=HTB.out;have b:=HLB.out;(try simp only [reduceCtorEq,eq_self,false_and,true_and,or_false,false_or,Bool.true_eq_false,Bool.false_eq_true] at a);(try simp only [reduceCtorEq,eq_self,false_and,true_and,or_false,false_or,Bool.true_eq_false,Bool.false_eq_true] at b)
    rw [z5w];split<;>first|rfl|(exfalso;omega)
   clear c1 c2;go_wp2_with (fail);go_ret;exact⟨z00 HE.out.symm,HC0.out.drewN nq⟩
  |true =>
   have HE:Hid (z0d 4 n s l=0):=by
    show _=_;have a:=HTB.out;have b:=HLB.out;(try simp only [reduceCtorEq,eq_self,false_and,true_and,or_false,false_or,Bool.true_eq_false,Bool.false_eq_true] at a);(try simp only [reduceCtorEq,eq_self,false_and,true_and,or_false,false_or,Bool.true_eq_false,Bool.false_eq_true] at b)
    rw [z5w];split<;>first|rfl|(exfalso;omega)
   clear c1 c2;go_wp2_with (fail);go_ret;exact⟨z00 HE.out.symm,HC0.out.drewN nq⟩
 have e4:(k==4)=false:=by simpa using k4
 by_cases k5:k=5
 ·subst k5;by_cases c0:127<s.size
  ·have d0:decide (127<(s.size:Int))=true:=by simp;omega
   have d0':decide (127<s.size)=true:=by simpa using c0
   have HE:Hid (z0d 5 n s l=17):=by
    show _=_;rw [z2q,if_pos (fun h=>by have:=h.2;omega)]
   clear c0;go_wp2_with (fail);go_ret;exact⟨z00 HE.out.symm,HC0.out.drewN nq⟩
  have d0:decide (127<(s.size:Int))=false:=by simp;omega
  have d0':decide (127<s.size)=false:=by simpa using c0
  by_cases cz:∀ d∈sl s,d≠0
  ·have HTX:=kf (show z1o s from⟨cz,by omega⟩);rw [show decide (¬∀ d∈sl s,d≠0)=false from decide_eq_false (fun h=>h cz)] at HT;clear cz c0;by_cases c1:n<0
   ·have d1:decide (n<0)=true:=by simpa using c1
    have HE:Hid (z0d 5 n s l=2):=by
     show _=_;have a:=HTB.out;have b:=HLB.out;(try simp only [reduceCtorEq,eq_self,false_and,true_and,or_false,false_or,Bool.true_eq_false,Bool.false_eq_true] at a);(try simp only [reduceCtorEq,eq_self,false_and,true_and,or_false,false_or,Bool.true_eq_false,Bool.false_eq_true] at b)
     rw [z2q,if_neg (fun h=>h HTX.out)];split<;>first|rfl|(exfalso;omega)
    clear c1;go_wp2_with (go_at_call 104;refine(HT.out _).mono ?_;rintro e w3 ⟨rfl,rfl⟩);go_ret;exact⟨z00 HE.out.symm,HC0.out.drewN nq⟩
   have d1:decide (n<0)=false:=by simpa using c1
   by_cases c2:0<n
   ·have d2:decide (0<n)=true:=by simpa using c2
    have HE:Hid (z0d 5 n s l=2):=by
     show _=_;have a:=HTB.out;have b:=HLB.out;(try simp only [reduceCtorEq,eq_self,false_and,true_and,or_false,false_or,Bool.true_eq_false,Bool.false_eq_true] at a);(try simp only [reduceCtorEq,eq_self,false_and,true_and,or_false,false_or,Bool.true_eq_false,Bool.false_eq_true] at b)
     rw [z2q,if_neg (fun h=>h HTX.out)];split<;>first|rfl|(exfalso;omega)
    clear c1 c2;go_wp2_with (go_at_call 104;refine(HT.out _).mono ?_;rintro e w3 ⟨rfl,rfl⟩);go_ret;exact⟨z00 HE.out.symm,HC0.out.drewN nq⟩
   have d2:decide (0<n)=false:=by simpa using c2
   cases lb with
   |false =>
    have HE:Hid (z0d 5 n s l=2):=by
     show _=_;have a:=HTB.out;have b:=HLB.out;(try simp only [reduceCtorEq,eq_self,false_and,true_and,or_false,false_or,Bool.true_eq_false,Bool.false_eq_true] at a);(try simp only [reduceCtorEq,eq_self,false_and,true_and,or_false,false_or,Bool.true_eq_false,Bool.false_eq_true] at b)
     rw [z2q,if_neg (fun h=>h HTX.out)];split<;>first|rfl|(exfalso;omega)
    clear c1 c2;go_wp2_with (go_at_call 104;refine(HT.out _).mono ?_;rintro e w3 ⟨rfl,rfl⟩);go_ret;exact⟨z00 HE.out.symm,HC0.out.drewN nq⟩
   |true =>
    have HE:Hid (z0d 5 n s l=0):=by
     show _=_;have a:=HTB.out;have b:=HLB.out;(try simp only [reduceCtorEq,eq_self,false_and,true_and,or_false,false_or,Bool.true_eq_false,Bool.false_eq_true] at a);(try simp only [reduceCtorEq,eq_self,false_and,true_and,or_false,false_or,Bool.true_eq_false,Bool.false_eq_true] at b)
     rw [z2q,if_neg (fun h=>h HTX.out)];split<;>first|rfl|(exfalso;omega)
    clear c1 c2;go_wp2_with (go_at_call 104;refine(HT.out _).mono ?_;rintro e w3 ⟨rfl,rfl⟩);go_ret;exact⟨z00 HE.out.symm,HC0.out.drewN nq⟩
  ·rw [show decide (¬∀ d∈sl s,d≠0)=true from decide_eq_true cz] at HT
   have HE:Hid (z0d 5 n s l=17):=by
    show _=_;rw [z2q,if_pos (fun h=>cz h.1)]
   clear c0 cz;go_wp2_with (go_at_call 104;refine(HT.out _).mono ?_;rintro e w3 ⟨rfl,rfl⟩);go_ret;exact⟨z00 HE.out.symm,HC0.out.drewN nq⟩
 have e5:(k==5)=false:=by simpa using k5
 by_cases k6:k=6
 ·subst k6;by_cases c1:n<0
  ·have d1:decide (n<0)=true:=by simpa using c1
   have HE:Hid (z0d 6 n s l=2):=by
    show _=_;have a:=HTB.out;have b:=HLB.out;(try simp only [reduceCtorEq,eq_self,false_and,true_and,or_false,false_or,Bool.true_eq_false,Bool.false_eq_true] at a);(try simp only [reduceCtorEq,eq_self,false_and,true_and,or_false,false_or,Bool.true_eq_false,Bool.false_eq_true] at b)
    rw [z5v];split<;>first|rfl|(exfalso;omega)
   clear c1;go_wp2_with (fail);go_ret;exact⟨z00 HE.out.symm,HC0.out.drewN nq⟩
  have d1:decide (n<0)=false:=by simpa using c1
  by_cases c2:0<n
  ·have d2:decide (0<n)=true:=by simpa using c2
   have HE:Hid (z0d 6 n s l=2):=by
    show _=_;have a:=HTB.out;have b:=HLB.out;(try simp only [reduceCtorEq,eq_self,false_and,true_and,or_false,false_or,Bool.true_eq_false,Bool.false_eq_true] at a);(try simp only [reduceCtorEq,eq_self,false_and,true_and,or_false,false_or,Bool.true_eq_false,Bool.false_eq_true] at b)
    rw [z5v];split<;>first|rfl|(exfalso;omega)
   clear c1 c2;go_wp2_with (fail);go_ret;exact⟨z00 HE.out.symm,HC0.out.drewN nq⟩
  have d2:decide (0<n)=false:=by simpa using c2
  cases tb with
  |false =>
   have HE:Hid (z0d 6 n s l=2):=by
    show _=_;have a:=HTB.out;have b:=HLB.out;(try simp only [reduceCtorEq,eq_self,false_and,true_and,or_false,false_or,Bool.true_eq_false,Bool.false_eq_true] at a);(try simp only [reduceCtorEq,eq_self,false_and,true_and,or_false,false_or,Bool.true_eq_false,Bool.false_eq_true] at b)
    rw [z5v];split<;>first|rfl|(exfalso;omega)
   clear c1 c2;go_wp2_with (fail);go_ret;exact⟨z00 HE.out.symm,HC0.out.drewN nq⟩
  |true =>
   have HE:Hid (z0d 6 n s l=0):=by
    show _=_;have a:=HTB.out;have b:=HLB.out;(try simp only [reduceCtorEq,eq_self,false_and,true_and,or_false,false_or,Bool.true_eq_false,Bool.false_eq_true] at a);(try simp only [reduceCtorEq,eq_self,false_and,true_and,or_false,false_or,Bool.true_eq_false,Bool.false_eq_true] at b)
    rw [z5v];split<;>first|rfl|(exfalso;omega)
   clear c1 c2;go_wp2_with (fail);go_ret;exact⟨z00 HE.out.symm,HC0.out.drewN nq⟩
 have e6:(k==6)=false:=by simpa using k6
 by_cases k7:k=7
 ·subst k7;by_cases c1:n<0
  ·have d1:decide (n<0)=true:=by simpa using c1
   have HE:Hid (z0d 7 n s l=2):=by
    show _=_;have a:=HTB.out;(try simp only [reduceCtorEq,eq_self,false_and,true_and,or_false,false_or,Bool.true_eq_false,Bool.false_eq_true] at a)
    rw [y05];exact z1p (by omega)
   clear c1;go_wp2_with (fail);go_ret;exact⟨z00 HE.out.symm,HC0.out.drewN nq⟩
  have d1:decide (n<0)=false:=by simpa using c1
  by_cases c2:0<n
  ·have d2:decide (0<n)=true:=by simpa using c2
   have HE:Hid (z0d 7 n s l=2):=by
    show _=_;have a:=HTB.out;(try simp only [reduceCtorEq,eq_self,false_and,true_and,or_false,false_or,Bool.true_eq_false,Bool.false_eq_true] at a)
    rw [y05];exact z1p (by omega)
   clear c1 c2;go_wp2_with (fail);go_ret;exact⟨z00 HE.out.symm,HC0.out.drewN nq⟩
  have d2:decide (0<n)=false:=by simpa using c2
  cases tb with
  |false =>
   have HE:Hid (z0d 7 n s l=2):=by
    show _=_;have a:=HTB.out;(try simp only [reduceCtorEq,eq_self,false_and,true_and,or_false,false_or,Bool.true_eq_false,Bool.false_eq_true] at a)
    rw [y05];exact z1p (by omega)
   clear c1 c2;go_wp2_with (fail);go_ret;exact⟨z00 HE.out.symm,HC0.out.drewN nq⟩
  |true =>
   have HE:Hid (z0d 7 n s l=z42 0 0 l):=by
    show _=_;have a:=HTB.out;(try simp only [reduceCtorEq,eq_self,false_and,true_and,or_false,false_or,Bool.true_eq_false,Bool.false_eq_true] at a)
    rw [y05,show n=0 by omega,show s.size=0 by omega]
   clear c1 c2;go_wp2_with (go_at_call 105;refine(HN.out _ (by exact HC0.out.drewN nq)).mono ?_;rintro e w3 ⟨rfl,hc3⟩;have HC3:=kf ((HC0.out.drewN nq).trans hc3 (fun _ _ e=>e));clear hc3);go_ret;exact⟨z00 HE.out.symm,HC3.out⟩
 have e7:(k==7)=false:=by simpa using k7
 by_cases k8:k=8
 ·subst k8;by_cases c1:n<1
  ·have d1:decide (n<1)=true:=by simpa using c1
   have HE:Hid (z0d 8 n s l=2):=by
    show _=_;have a:=HTB.out;have b:=HLB.out;(try simp only [reduceCtorEq,eq_self,false_and,true_and,or_false,false_or,Bool.true_eq_false,Bool.false_eq_true] at a);(try simp only [reduceCtorEq,eq_self,false_and,true_and,or_false,false_or,Bool.true_eq_false,Bool.false_eq_true] at b)
    rw [z4i];split<;>first|rfl|(exfalso;omega)
   clear c1;go_wp2_with (fail);go_ret;exact⟨z00 HE.out.symm,HC0.out.drewN nq⟩
  have d1:decide (n<1)=false:=by simpa using c1
  by_cases c2:4096<n
  ·have d2:decide (4096<n)=true:=by simpa using c2
   have HE:Hid (z0d 8 n s l=2):=by
    show _=_;have a:=HTB.out;have b:=HLB.out;(try simp only [reduceCtorEq,eq_self,false_and,true_and,or_false,false_or,Bool.true_eq_false,Bool.false_eq_true] at a);(try simp only [reduceCtorEq,eq_self,false_and,true_and,or_false,false_or,Bool.true_eq_false,Bool.false_eq_true] at b)
    rw [z4i];split<;>first|rfl|(exfalso;omega)
   clear c1 c2;go_wp2_with (fail);go_ret;exact⟨z00 HE.out.symm,HC0.out.drewN nq⟩
  have d2:decide (4096<n)=false:=by simpa using c2
  cases tb with
  |false =>
   have HE:Hid (z0d 8 n s l=2):=by
    show _=_;have a:=HTB.out;have b:=HLB.out;(try simp only [reduceCtorEq,eq_self,false_and,true_and,or_false,false_or,Bool.true_eq_false,Bool.false_eq_true] at a);(try simp only [reduceCtorEq,eq_self,false_and,true_and,or_false,false_or,Bool.true_eq_false,Bool.false_eq_true] at b)
    rw [z4i];split<;>first|rfl|(exfalso;omega)
   clear c1 c2;go_wp2_with (fail);go_ret;exact⟨z00 HE.out.symm,HC0.out.drewN nq⟩
  |true =>
   cases lb with
   |false =>
    have HE:Hid (z0d 8 n s l=2):=by
     show _=_;have a:=HTB.out;have b:=HLB.out;(try simp only [reduceCtorEq,eq_self,false_and,true_and,or_false,false_or,Bool.true_eq_false,Bool.false_eq_true] at a);(try simp only [reduceCtorEq,eq_self,false_and,true_and,or_false,false_or,Bool.true_eq_false,Bool.false_eq_true] at b)
     rw [z4i];split<;>first|rfl|(exfalso;omega)
    clear c1 c2;go_wp2_with (fail);go_ret;exact⟨z00 HE.out.symm,HC0.out.drewN nq⟩
   |true =>
    have HE:Hid (z0d 8 n s l=0):=by
     show _=_;have a:=HTB.out;have b:=HLB.out;(try simp only [reduceCtorEq,eq_self,false_and,true_and,or_false,false_or,Bool.true_eq_false,Bool.false_eq_true] at a);(try simp only [reduceCtorEq,eq_self,false_and,true_and,or_false,false_or,Bool.true_eq_false,Bool.false_eq_true] at b)
     rw [z4i];split<;>first|rfl|(exfalso;omega)
    clear c1 c2;go_wp2_with (fail);go_ret;exact⟨z00 HE.out.symm,HC0.out.drewN nq⟩
 have e8:(k==8)=false:=by simpa using k8
 have HE:Hid (z0d k n s l=2):=by
  show _=_;exact v8w k0 k1 k2 k3 k4 k5 k6 k7 k8 n s l
 clear k0 k1 k2 k3 k4 k5 k6 k7 k8;go_wp2_with (fail);go_ret;exact⟨z00 HE.out.symm,HC0.out.drewN nq⟩
end Go.Proofs.YtnhlalkeaaiefaaGreatDoor
