import Derived.Test.YtnhlalkeaaiefaaGreatDoorE32
set_option linter.unusedVariables false
set_option maxHeartbeats 64000000
set_option maxRecDepth 100000
set_option linter.unusedSimpArgs false
namespace Go.Proofs.YtnhlalkeaaiefaaGreatDoor
open Go.RowKit
theorem y8l {l:List Nat} {k:Nat} (h:k<l.length):z2i (l.take (k+1))↔z2i (l.take k)/\32<=l.getD k 0/\l.getD k 0<=126:=by
 have e:l.take (k+1)=l.take k++[l.getD k 0]:=z1k (by rw [List.getD_eq_getElem?_getD,List.getElem?_eq_getElem h];rfl);rw [e];unfold z2i;constructor
 ·intro hf;exact⟨fun c hc=>hf c (List.mem_append_left _ hc),hf _ (List.mem_append_right _ (List.mem_cons_self ..))⟩
 ·rintro⟨h1,h2⟩ c hc;rcases List.mem_append.1 hc with h3|h3
  ·exact h1 c h3
  ·rw [List.mem_singleton] at h3;rw [h3];exact h2
theorem z6l (s:ByteArray) (w:World) (hs:s.size<=300000000000000000) :
  Calls Tryz.prog 49 #[.string s] w fun e w'=>e=.returned (.string (sb (txF (sl s))))/\Chg NoS w w':=by
 have HHX0:=kf (fun y (hy:y<256) X=>z7u y hy X);have HAT:=kf (fun k (h2:k<s.size)=>z5t s k h2);have HEX:=kf (fun k (h2:k<s.size)=>y8s s k h2);have HGL:=kf (z6x s);obtain⟨n,hn⟩:∃ n,s.size=n:=⟨_,rfl⟩
 have HN:=kf (show(sl s).length=n from by rw [z1a,hn]);have HSN:=kf hn;rw [hn] at hs;go_enter Tryz.func49,Tryz.ntmps49;go_upto_region 5 with fail;go_loopw [3,4,5,6] (fun va vb vf vk wr=>∃ (k m:Nat) (ta tb:ByteArray) (f:Bool),k<=n/\m<=2*k+1/\ta.size=m/\tb.size=2*k+1/\va=.string ta/\vb=.string tb/\vf=.bool f/\vk=.int .i64 (k:Nat)/\Hid (ta=sb (40::esL ((sl s).take k)))/\Hid (m=1+(esL ((sl s).take k)).length)/\Hid (tb=sb (60::hxL ((sl s).take k)))/\Hid (f=decide (z2i ((sl s).take k)))/\Hid (Chg NoS w wr)) (fun _ _ _ vk _=>n-(intOf vk).toNat)
 case atStart=>exact⟨0,1,_,_,true,by omega,by omega,rfl,rfl,rfl,rfl,rfl,by go_num,rfl,rfl,rfl,rfl,Chg.refl NoS w⟩
 case round =>
  obtain⟨k,m,ta,tb,f,hk,hm,hta,htb,rfl,rfl,rfl,rfl,HTA,HML,HTB,HFI,HCW⟩:=hrel;by_cases hlt:k<n
  ·have hgt:∀ h:k<s.size,(s[k]'h).toNat=(sl s).getD k 0:=fun h=>HAT.out k h;have hex:=HEX.out k (by rw [HSN.out];exact hlt);have hc256:=HGL.out k;have HVA:=kf (y3g (l:=sl s) (k:=k) (by rw [HN.out];exact hlt));have HVB:=kf (y3a (l:=sl s) (k:=k) (by rw [HN.out];exact hlt));have HVF:=kf (y8l (l:=sl s) (k:=k) (by rw [HN.out];exact hlt));obtain⟨c,hc⟩:∃ c,c=(sl s).getD k 0:=⟨_,rfl⟩
   rw [<- hc] at hgt hex hc256 HVA HVB HVF;clear hc;have HHX:=kf (fun X=>HHX0.out c hc256 X);obtain⟨y,hy⟩:∃ y,y=sb [c]:=⟨_,rfl⟩
   have hy1:y.size=1:=by rw [hy,z01];rfl
   rw [<- hy] at hex;obtain⟨x,hx⟩:∃ x,x=sb (z9a c):=⟨_,rfl⟩
   have hx2:x.size=2:=by rw [hx,z01];rfl
   rw [<- hx] at HHX;have HNB:=kf (show tb++x=sb (60::hxL ((sl s).take (k+1))) from by rw [HVB.out,HTB.out,hx,z0e];rfl);have i1:¬9223372036854775807<m+1:=by omega
   have i2:¬9223372036854775807<m+1+1:=by omega
   have i3:¬9223372036854775807<2*k+1+2:=by omega
   have HY:=kf hy;clear hy hx;by_cases h40:c=40
   ·subst h40;have HNA:=kf (show ta++⟨#[92]⟩++y=sb (40::esL ((sl s).take (k+1))) from by rw [HVA.out,HTA.out,HY.out,show ByteArray.mk #[92]=sb [92] from rfl,z0e,z0e];simp [esC]);have HNL:=kf (show m+1+1=1+(esL ((sl s).take (k+1))).length from by rw [HVA.out,HML.out,List.length_append];simp [esC];omega);cases f with
    |true =>
     have HNF:=kf (show true=decide (z2i ((sl s).take (k+1))) from by rw [decide_eq_true (HVF.out.2 ⟨of_decide_eq_true HFI.out.symm,by decide,by decide⟩)]);go_wp2_with (go_at_call 85;refine(HHX.out _).mono ?_;rintro e w3 ⟨rfl,h3⟩;have HC3:=kf (HCW.out.trans h3 (fun _ _ e=>e));clear h3);go_roundw
     case rel=>exact⟨k+1,m+1+1,_,_,true,by omega,by omega,by rw [ByteArray.size_append,ByteArray.size_append,hta,hy1];rfl,by rw [ByteArray.size_append,htb,hx2];omega,rfl,rfl,rfl,by go_num,HNA.out,HNL.out,HNB.out,HNF.out,HC3.out⟩
     case measure=>simp [intOf];omega
    |false =>
     have HNF:=kf (show false=decide (z2i ((sl s).take (k+1))) from by rw [decide_eq_false (fun e=>of_decide_eq_false HFI.out.symm (HVF.out.1 e).1)]);go_wp2_with (go_at_call 85;refine(HHX.out _).mono ?_;rintro e w3 ⟨rfl,h3⟩;have HC3:=kf (HCW.out.trans h3 (fun _ _ e=>e));clear h3);go_roundw
     case rel=>exact⟨k+1,m+1+1,_,_,false,by omega,by omega,by rw [ByteArray.size_append,ByteArray.size_append,hta,hy1];rfl,by rw [ByteArray.size_append,htb,hx2];omega,rfl,rfl,rfl,by go_num,HNA.out,HNL.out,HNB.out,HNF.out,HC3.out⟩
     case measure=>simp [intOf];omega
   by_cases h41:c=41
   ·subst h41;have HNA:=kf (show ta++⟨#[92]⟩++y=sb (40::esL ((sl s).take (k+1))) from by rw [HVA.out,HTA.out,HY.out,show ByteArray.mk #[92]=sb [92] from rfl,z0e,z0e];simp [esC]);have HNL:=kf (show m+1+1=1+(esL ((sl s).take (k+1))).length from by rw [HVA.out,HML.out,List.length_append];simp [esC];omega);cases f with
    |true =>
     have HNF:=kf (show true=decide (z2i ((sl s).take (k+1))) from by rw [decide_eq_true (HVF.out.2 ⟨of_decide_eq_true HFI.out.symm,by decide,by decide⟩)]);go_wp2_with (go_at_call 85;refine(HHX.out _).mono ?_;rintro e w3 ⟨rfl,h3⟩;have HC3:=kf (HCW.out.trans h3 (fun _ _ e=>e));clear h3);go_roundw
     case rel=>exact⟨k+1,m+1+1,_,_,true,by omega,by omega,by rw [ByteArray.size_append,ByteArray.size_append,hta,hy1];rfl,by rw [ByteArray.size_append,htb,hx2];omega,rfl,rfl,rfl,by go_num,HNA.out,HNL.out,HNB.out,HNF.out,HC3.out⟩
     case measure=>simp [intOf];omega
    |false =>
     have HNF:=kf (show false=decide (z2i ((sl s).take (k+1))) from by rw [decide_eq_false (fun e=>of_decide_eq_false HFI.out.symm (HVF.out.1 e).1)]);go_wp2_with (go_at_call 85;refine(HHX.out _).mono ?_;rintro e w3 ⟨rfl,h3⟩;have HC3:=kf (HCW.out.trans h3 (fun _ _ e=>e));clear h3);go_roundw
     case rel=>exact⟨k+1,m+1+1,_,_,false,by omega,by omega,by rw [ByteArray.size_append,ByteArray.size_append,hta,hy1];rfl,by rw [ByteArray.size_append,htb,hx2];omega,rfl,rfl,rfl,by go_num,HNA.out,HNL.out,HNB.out,HNF.out,HC3.out⟩
     case measure=>simp [intOf];omega
   by_cases h92:c=92
   ·subst h92;have HNA:=kf (show ta++⟨#[92]⟩++y=sb (40::esL ((sl s).take (k+1))) from by rw [HVA.out,HTA.out,HY.out,show ByteArray.mk #[92]=sb [92] from rfl,z0e,z0e];simp [esC]);have HNL:=kf (show m+1+1=1+(esL ((sl s).take (k+1))).length from by rw [HVA.out,HML.out,List.length_append];simp [esC];omega);cases f with
    |true =>
     have HNF:=kf (show true=decide (z2i ((sl s).take (k+1))) from by rw [decide_eq_true (HVF.out.2 ⟨of_decide_eq_true HFI.out.symm,by decide,by decide⟩)]);go_wp2_with (go_at_call 85;refine(HHX.out _).mono ?_;rintro e w3 ⟨rfl,h3⟩;have HC3:=kf (HCW.out.trans h3 (fun _ _ e=>e));clear h3);go_roundw
     case rel=>exact⟨k+1,m+1+1,_,_,true,by omega,by omega,by rw [ByteArray.size_append,ByteArray.size_append,hta,hy1];rfl,by rw [ByteArray.size_append,htb,hx2];omega,rfl,rfl,rfl,by go_num,HNA.out,HNL.out,HNB.out,HNF.out,HC3.out⟩
     case measure=>simp [intOf];omega
    |false =>
     have HNF:=kf (show false=decide (z2i ((sl s).take (k+1))) from by rw [decide_eq_false (fun e=>of_decide_eq_false HFI.out.symm (HVF.out.1 e).1)]);go_wp2_with (go_at_call 85;refine(HHX.out _).mono ?_;rintro e w3 ⟨rfl,h3⟩;have HC3:=kf (HCW.out.trans h3 (fun _ _ e=>e));clear h3);go_roundw
     case rel=>exact⟨k+1,m+1+1,_,_,false,by omega,by omega,by rw [ByteArray.size_append,ByteArray.size_append,hta,hy1];rfl,by rw [ByteArray.size_append,htb,hx2];omega,rfl,rfl,rfl,by go_num,HNA.out,HNL.out,HNB.out,HNF.out,HC3.out⟩
     case measure=>simp [intOf];omega
   have e1:((c:Int)==40)=false:=by simp;omega
   have e1':(c==40)=false:=by simp;omega
   have e2:((c:Int)==41)=false:=by simp;omega
   have e2':(c==41)=false:=by simp;omega
   have e3:((c:Int)==92)=false:=by simp;omega
   have e3':(c==92)=false:=by simp;omega
   have HES:=kf (show esC c=[c] from by unfold esC;rw [if_neg (by omega)]);have HNA:=kf (show ta++y=sb (40::esL ((sl s).take (k+1))) from by rw [HVA.out,HTA.out,HY.out,HES.out,z0e];rfl);have HNL:=kf (show m+1=1+(esL ((sl s).take (k+1))).length from by rw [HVA.out,HML.out,HES.out,List.length_append];simp only [List.length_cons,List.length_nil];omega);clear h40 h41 h92;cases f with
   |false =>
    have HNF:=kf (show false=decide (z2i ((sl s).take (k+1))) from by rw [decide_eq_false (fun e=>of_decide_eq_false HFI.out.symm (HVF.out.1 e).1)]);go_wp2_with (go_at_call 85;refine(HHX.out _).mono ?_;rintro e w3 ⟨rfl,h3⟩;have HC3:=kf (HCW.out.trans h3 (fun _ _ e=>e));clear h3);go_roundw
    case rel=>exact⟨k+1,m+1,_,_,false,by omega,by omega,by rw [ByteArray.size_append,hta,hy1],by rw [ByteArray.size_append,htb,hx2];omega,rfl,rfl,rfl,by go_num,HNA.out,HNL.out,HNB.out,HNF.out,HC3.out⟩
    case measure=>simp [intOf];omega
   |true =>
    by_cases h1:32<=c
    ·have d1:decide ((32:Int)<=c)=true:=by simp;omega
     have d1':decide (32<=c)=true:=by simp;omega
     by_cases h2:c<=126
     ·have d2:decide ((c:Int)<=126)=true:=by simp;omega
      have d2':decide (c<=126)=true:=by simp;omega
      have HNF:=kf (show true=decide (z2i ((sl s).take (k+1))) from by rw [decide_eq_true (HVF.out.2 ⟨of_decide_eq_true HFI.out.symm,h1,h2⟩)]);clear h1 h2;go_wp2_with (go_at_call 85;refine(HHX.out _).mono ?_;rintro e w3 ⟨rfl,h3⟩;have HC3:=kf (HCW.out.trans h3 (fun _ _ e=>e));clear h3);go_roundw
      case rel=>exact⟨k+1,m+1,_,_,true,by omega,by omega,by rw [ByteArray.size_append,hta,hy1],by rw [ByteArray.size_append,htb,hx2];omega,rfl,rfl,rfl,by go_num,HNA.out,HNL.out,HNB.out,HNF.out,HC3.out⟩
      case measure=>simp [intOf];omega
     ·have d2:decide ((c:Int)<=126)=false:=by simp;omega
      have d2':decide (c<=126)=false:=by simp;omega
      have HNF:=kf (show false=decide (z2i ((sl s).take (k+1))) from by rw [decide_eq_false (fun e=>h2 (HVF.out.1 e).2.2)]);clear h1 h2;go_wp2_with (go_at_call 85;refine(HHX.out _).mono ?_;rintro e w3 ⟨rfl,h3⟩;have HC3:=kf (HCW.out.trans h3 (fun _ _ e=>e));clear h3);go_roundw
      case rel=>exact⟨k+1,m+1,_,_,false,by omega,by omega,by rw [ByteArray.size_append,hta,hy1],by rw [ByteArray.size_append,htb,hx2];omega,rfl,rfl,rfl,by go_num,HNA.out,HNL.out,HNB.out,HNF.out,HC3.out⟩
      case measure=>simp [intOf];omega
    ·have d1:decide ((32:Int)<=c)=false:=by simp;omega
     have d1':decide (32<=c)=false:=by simp;omega
     have HNF:=kf (show false=decide (z2i ((sl s).take (k+1))) from by rw [decide_eq_false (fun e=>h1 (HVF.out.1 e).2.1)]);clear h1;go_wp2_with (go_at_call 85;refine(HHX.out _).mono ?_;rintro e w3 ⟨rfl,h3⟩;have HC3:=kf (HCW.out.trans h3 (fun _ _ e=>e));clear h3);go_roundw
     case rel=>exact⟨k+1,m+1,_,_,false,by omega,by omega,by rw [ByteArray.size_append,hta,hy1],by rw [ByteArray.size_append,htb,hx2];omega,rfl,rfl,rfl,by go_num,HNA.out,HNL.out,HNB.out,HNF.out,HC3.out⟩
     case measure=>simp [intOf];omega
  ·obtain rfl:k=n:=by omega
   have ht:(sl s).take k=sl s:=List.take_of_length_le (by rw [HN.out];exact Nat.le_refl _);have i1:¬9223372036854775807<m+1:=by omega
   have i3:¬9223372036854775807<2*k+1+1:=by omega
   cases f with
   |true =>
    have HE:=kf (show ta++⟨#[41]⟩=sb (txF (sl s)) from by
     have hf:=of_decide_eq_true HFI.out.symm;rw [ht] at hf;rw [HTA.out,ht,show ByteArray.mk #[41]=sb [41] from rfl,z0e];unfold txF;rw [if_pos hf];rfl)
    clear ht;go_wp2_with fail;go_ret;exact⟨by rw [<- HE.out];rfl,HCW.out⟩
   |false =>
    have HE:=kf (show tb++⟨#[62]⟩=sb (txF (sl s)) from by
     have hf:=of_decide_eq_false HFI.out.symm;rw [ht] at hf;rw [HTB.out,ht,show ByteArray.mk #[62]=sb [62] from rfl,z0e];unfold txF;rw [if_neg hf];rfl)
    clear ht;go_wp2_with fail;go_ret;exact⟨by rw [<- HE.out];rfl,HCW.out⟩
def PF (t:VT):Prop:=∀ (c:VC) (w:World),ValIs w t c->(z0c t).length<=299000000000000000 ->
 Calls Tryz.prog 24 #[c.val] w fun e w'=>e=.returned (.string (sb (z0c t)))/\Chg NoS w w'
theorem z35 (k n:Int) (s:ByteArray) (A:Option Addr) (len cap:Nat) (w:World) (hc:z05 k n s.size len=0) :
  Calls Tryz.prog 48 #[.agg #[.int .i64 k,.int .i64 n,.string s,.slice A len cap]] w fun e w'=>e=.returned (.tuple #[.string (sb (z7d k n)),.int .i64 0])/\Chg NoS w w':=by
 refine(z3h k n s A len cap w).mono fun e w' h=>?_;unfold PrTo y02 at h;rw [if_pos hc] at h;exact h
theorem y4g (n:Int) (s:ByteArray) (A:Option Addr) (len cap:Nat) (w:World) :
  Calls Tryz.prog 24 #[.agg #[.int .i64 0,.int .i64 n,.string s,.slice A len cap]] w fun e w'=>e=.returned (.string (sb ([110,117,108,108])))/\Chg NoS w w':=by
 have HB:=kf (Blk.new w 25 #[.int .i64 0,.int .i64 n,.string s,.slice A len cap]);have HC0:=kf ((Chg.refl NoS w).alloc (.cells #[.int .i64 0,.int .i64 n,.string s,.slice A len cap] 25));obtain⟨W1,hW1⟩:∃ W1,W1=w.alloc (.cells #[.int .i64 0,.int .i64 n,.string s,.slice A len cap] 25):=⟨_,rfl⟩
 obtain⟨g,hg⟩:∃ g,g=w.heap.size:=⟨_,rfl⟩
 rw [<- hW1] at HB HC0;rw [<- hg] at HB;go_enter Tryz.func24,Tryz.ntmps24;go_upto_region 1 with fail;rw [<- hg,<- hW1];clear hg hW1;have q0:=HB.out.cell 0;have q1:=HB.out.cell 1;have q2:=HB.out.cell 2;have q3:=HB.out.cell 3;simp at q0 q1 q2 q3;go_wp2_with fail;go_ret;exact⟨rfl,HC0.out⟩
theorem y4d (s:ByteArray) (A:Option Addr) (len cap:Nat) (w:World) :
  Calls Tryz.prog 24 #[.agg #[.int .i64 1,.int .i64 1,.string s,.slice A len cap]] w fun e w'=>e=.returned (.string (sb ([116,114,117,101])))/\Chg NoS w w':=by
 have HB:=kf (Blk.new w 25 #[.int .i64 1,.int .i64 1,.string s,.slice A len cap]);have HC0:=kf ((Chg.refl NoS w).alloc (.cells #[.int .i64 1,.int .i64 1,.string s,.slice A len cap] 25));obtain⟨W1,hW1⟩:∃ W1,W1=w.alloc (.cells #[.int .i64 1,.int .i64 1,.string s,.slice A len cap] 25):=⟨_,rfl⟩
 obtain⟨g,hg⟩:∃ g,g=w.heap.size:=⟨_,rfl⟩
 rw [<- hW1] at HB HC0;rw [<- hg] at HB;go_enter Tryz.func24,Tryz.ntmps24;go_upto_region 1 with fail;rw [<- hg,<- hW1];clear hg hW1;have q0:=HB.out.cell 0;have q1:=HB.out.cell 1;have q2:=HB.out.cell 2;have q3:=HB.out.cell 3;simp at q0 q1 q2 q3;go_wp2_with fail;go_ret;exact⟨rfl,HC0.out⟩
theorem y16 (s:ByteArray) (A:Option Addr) (len cap:Nat) (w:World) :
  Calls Tryz.prog 24 #[.agg #[.int .i64 1,.int .i64 0,.string s,.slice A len cap]] w fun e w'=>e=.returned (.string (sb ([102,97,108,115,101])))/\Chg NoS w w':=by
 have HB:=kf (Blk.new w 25 #[.int .i64 1,.int .i64 0,.string s,.slice A len cap]);have HC0:=kf ((Chg.refl NoS w).alloc (.cells #[.int .i64 1,.int .i64 0,.string s,.slice A len cap] 25));obtain⟨W1,hW1⟩:∃ W1,W1=w.alloc (.cells #[.int .i64 1,.int .i64 0,.string s,.slice A len cap] 25):=⟨_,rfl⟩
 obtain⟨g,hg⟩:∃ g,g=w.heap.size:=⟨_,rfl⟩
 rw [<- hW1] at HB HC0;rw [<- hg] at HB;go_enter Tryz.func24,Tryz.ntmps24;go_upto_region 1 with fail;rw [<- hg,<- hW1];clear hg hW1;have q0:=HB.out.cell 0;have q1:=HB.out.cell 1;have q2:=HB.out.cell 2;have q3:=HB.out.cell 3;simp at q0 q1 q2 q3;go_wp2_with fail;go_ret;exact⟨rfl,HC0.out⟩
theorem z9w (n:Int) (s:ByteArray) (A:Option Addr) (len cap:Nat) (hc:z05 2 n s.size len=0) (w:World) :
  Calls Tryz.prog 24 #[.agg #[.int .i64 2,.int .i64 n,.string s,.slice A len cap]] w fun e w'=>e=.returned (.string (sb (z7d 2 n)))/\Chg NoS w w':=by
 have HB:=kf (Blk.new w 25 #[.int .i64 2,.int .i64 n,.string s,.slice A len cap]);have HC0:=kf ((Chg.refl NoS w).alloc (.cells #[.int .i64 2,.int .i64 n,.string s,.slice A len cap] 25));obtain⟨W1,hW1⟩:∃ W1,W1=w.alloc (.cells #[.int .i64 2,.int .i64 n,.string s,.slice A len cap] 25):=⟨_,rfl⟩
 obtain⟨g,hg⟩:∃ g,g=w.heap.size:=⟨_,rfl⟩
 rw [<- hW1] at HB HC0;rw [<- hg] at HB;have HN:=kf (fun X=>z35 2 n s A len cap X hc);obtain⟨S,hS⟩:∃ S,S=sb (z7d 2 n):=⟨_,rfl⟩
 rw [<- hS] at HN ⊢;clear hc hS;go_enter Tryz.func24,Tryz.ntmps24;go_upto_region 1 with fail;rw [<- hg,<- hW1];clear hg hW1;have q0:=HB.out.cell 0;have q1:=HB.out.cell 1;have q2:=HB.out.cell 2;have q3:=HB.out.cell 3;simp at q0 q1 q2 q3;go_wp2_with (go_at_call 48;refine(HN.out _).mono ?_;rintro e w3 ⟨rfl,h3⟩;have HC3:=kf (HC0.out.trans h3 (fun _ _ e=>e));clear h3);go_ret;exact⟨rfl,HC3.out⟩
theorem y4f (n:Int) (s:ByteArray) (A:Option Addr) (len cap:Nat) (hc:z05 3 n s.size len=0) (w:World) :
  Calls Tryz.prog 24 #[.agg #[.int .i64 3,.int .i64 n,.string s,.slice A len cap]] w fun e w'=>e=.returned (.string (sb (z7d 3 n)))/\Chg NoS w w':=by
 have HB:=kf (Blk.new w 25 #[.int .i64 3,.int .i64 n,.string s,.slice A len cap]);have HC0:=kf ((Chg.refl NoS w).alloc (.cells #[.int .i64 3,.int .i64 n,.string s,.slice A len cap] 25));obtain⟨W1,hW1⟩:∃ W1,W1=w.alloc (.cells #[.int .i64 3,.int .i64 n,.string s,.slice A len cap] 25):=⟨_,rfl⟩
 obtain⟨g,hg⟩:∃ g,g=w.heap.size:=⟨_,rfl⟩
 rw [<- hW1] at HB HC0;rw [<- hg] at HB;have HN:=kf (fun X=>z35 3 n s A len cap X hc);obtain⟨S,hS⟩:∃ S,S=sb (z7d 3 n):=⟨_,rfl⟩
 rw [<- hS] at HN ⊢;clear hc hS;go_enter Tryz.func24,Tryz.ntmps24;go_upto_region 1 with fail;rw [<- hg,<- hW1];clear hg hW1;have q0:=HB.out.cell 0;have q1:=HB.out.cell 1;have q2:=HB.out.cell 2;have q3:=HB.out.cell 3;simp at q0 q1 q2 q3;go_wp2_with (go_at_call 48;refine(HN.out _).mono ?_;rintro e w3 ⟨rfl,h3⟩;have HC3:=kf (HC0.out.trans h3 (fun _ _ e=>e));clear h3);go_ret;exact⟨rfl,HC3.out⟩
theorem y4e (n:Int) (s:ByteArray) (A:Option Addr) (len cap:Nat) (hs:s.size<=300000000000000000) (w:World) :
  Calls Tryz.prog 24 #[.agg #[.int .i64 4,.int .i64 n,.string s,.slice A len cap]] w fun e w'=>e=.returned (.string (sb (txF (sl s))))/\Chg NoS w w':=by
 have HB:=kf (Blk.new w 25 #[.int .i64 4,.int .i64 n,.string s,.slice A len cap]);have HC0:=kf ((Chg.refl NoS w).alloc (.cells #[.int .i64 4,.int .i64 n,.string s,.slice A len cap] 25));obtain⟨W1,hW1⟩:∃ W1,W1=w.alloc (.cells #[.int .i64 4,.int .i64 n,.string s,.slice A len cap] 25):=⟨_,rfl⟩
 obtain⟨g,hg⟩:∃ g,g=w.heap.size:=⟨_,rfl⟩
 rw [<- hW1] at HB HC0;rw [<- hg] at HB;have HN:=kf (fun X=>z6l s X hs);obtain⟨S,hS⟩:∃ S,S=sb (txF (sl s)):=⟨_,rfl⟩
 rw [<- hS] at HN ⊢;clear hS;go_enter Tryz.func24,Tryz.ntmps24;go_upto_region 1 with fail;rw [<- hg,<- hW1];clear hg hW1;have q0:=HB.out.cell 0;have q1:=HB.out.cell 1;have q2:=HB.out.cell 2;have q3:=HB.out.cell 3;simp at q0 q1 q2 q3;go_wp2_with (go_at_call 49;refine(HN.out _).mono ?_;rintro e w3 ⟨rfl,h3⟩;have HC3:=kf (HC0.out.trans h3 (fun _ _ e=>e));clear h3);go_ret;exact⟨rfl,HC3.out⟩
theorem y4h (n:Int) (s:ByteArray) (A:Option Addr) (len cap:Nat) (hs:z1o s) (w:World) :
  Calls Tryz.prog 24 #[.agg #[.int .i64 5,.int .i64 n,.string s,.slice A len cap]] w fun e w'=>e=.returned (.string (sb (nmF (sl s))))/\Chg NoS w w':=by
 have HB:=kf (Blk.new w 25 #[.int .i64 5,.int .i64 n,.string s,.slice A len cap]);have HC0:=kf ((Chg.refl NoS w).alloc (.cells #[.int .i64 5,.int .i64 n,.string s,.slice A len cap] 25));obtain⟨W1,hW1⟩:∃ W1,W1=w.alloc (.cells #[.int .i64 5,.int .i64 n,.string s,.slice A len cap] 25):=⟨_,rfl⟩
 obtain⟨g,hg⟩:∃ g,g=w.heap.size:=⟨_,rfl⟩
 rw [<- hW1] at HB HC0;rw [<- hg] at HB;have HN:=kf (fun X=>z6m s X (by have:=hs.2;omega));have e1:z6s s=(nmF (sl s),0):=by unfold z6s;rw [if_pos hs]
 rw [e1] at HN;simp only [] at HN;obtain⟨S,hS⟩:∃ S,S=sb (nmF (sl s)):=⟨_,rfl⟩
 rw [<- hS] at HN ⊢;clear hS e1 hs;go_enter Tryz.func24,Tryz.ntmps24;go_upto_region 1 with fail;rw [<- hg,<- hW1];clear hg hW1;have q0:=HB.out.cell 0;have q1:=HB.out.cell 1;have q2:=HB.out.cell 2;have q3:=HB.out.cell 3;simp at q0 q1 q2 q3;go_wp2_with (go_at_call 50;refine(HN.out _).mono ?_;rintro e w3 ⟨rfl,h3⟩;have HC3:=kf (HC0.out.trans h3 (fun _ _ e=>e));clear h3);go_ret;exact⟨rfl,HC3.out⟩
theorem y6i (n:Int) (s:ByteArray) (A:Option Addr) (len cap:Nat) (hn1:1<=n) (hn2:n<=4096) (w:World) :
  Calls Tryz.prog 24 #[.agg #[.int .i64 8,.int .i64 n,.string s,.slice A len cap]] w fun e w'=>e=.returned (.string (sb (z06 n++[32,48,32,82])))/\Chg NoS w w':=by
 have HB:=kf (Blk.new w 25 #[.int .i64 8,.int .i64 n,.string s,.slice A len cap]);have HC0:=kf ((Chg.refl NoS w).alloc (.cells #[.int .i64 8,.int .i64 n,.string s,.slice A len cap] 25));obtain⟨W1,hW1⟩:∃ W1,W1=w.alloc (.cells #[.int .i64 8,.int .i64 n,.string s,.slice A len cap] 25):=⟨_,rfl⟩
 obtain⟨g,hg⟩:∃ g,g=w.heap.size:=⟨_,rfl⟩
 rw [<- hW1] at HB HC0;rw [<- hg] at HB;have HN:=kf (fun X=>z35 2 n ⟨#[]⟩ none 0 0 X (by unfold z05;rw [if_pos ⟨rfl,rfl,.inl ⟨rfl,by omega,by omega⟩⟩]));obtain⟨S,hS⟩:∃ S,S=sb (z7d 2 n):=⟨_,rfl⟩
 obtain⟨m,hm⟩:∃ m,S.size=m:=⟨_,rfl⟩
 have hm20:m<=20:=by
  have h1:(dn n.natAbs).length<=19:=z0v (by omega);have h2:(z33 n).length<=1:=by unfold z33;split<;>simp
  rw [<- hm,hS,z01];show(z06 n).length<=20;rw [z06,List.length_append,z1d];omega
 have HE:=kf (show S++⟨#[32,48,32,82]⟩=sb (z06 n++[32,48,32,82]) from by rw [hS,show ByteArray.mk #[32,48,32,82]=sb [32,48,32,82] from rfl,z0e];rfl);rw [<- hS] at HN;have i1:¬9223372036854775807<m+4:=by omega
 clear hS hn1 hn2;go_enter Tryz.func24,Tryz.ntmps24;go_upto_region 1 with fail;rw [<- hg,<- hW1];clear hg hW1;have q0:=HB.out.cell 0;have q1:=HB.out.cell 1;have q2:=HB.out.cell 2;have q3:=HB.out.cell 3;simp at q0 q1 q2 q3;go_wp2_with (go_at_call 48;refine(HN.out _).mono ?_;rintro e w3 ⟨rfl,h3⟩;have HC3:=kf (HC0.out.trans h3 (fun _ _ e=>e));clear h3);go_ret;exact⟨by rw [<- HE.out];rfl,HC3.out⟩
theorem y17 (n:Int) (s:ByteArray) (A:Option Addr) (len cap:Nat) (l:List VT) (hP:∀ t∈l,PF t) (hll:l.length=len) (hm:len<=9223372036854775807) (hl:(z0g 0 l).length<=299000000000000000) (w:World) (hr:RowIs w A 0 l) :
  Calls Tryz.prog 24 #[.agg #[.int .i64 6,.int .i64 n,.string s,.slice A len cap]] w fun e w'=>e=.returned (.string (sb ([91]++z0g 0 l++[93])))/\Chg NoS w w':=by
 have HB:=kf (Blk.new w 25 #[.int .i64 6,.int .i64 n,.string s,.slice A len cap]);have HC0:=kf ((Chg.refl NoS w).alloc (.cells #[.int .i64 6,.int .i64 n,.string s,.slice A len cap] 25));obtain⟨W1,hW1⟩:∃ W1,W1=w.alloc (.cells #[.int .i64 6,.int .i64 n,.string s,.slice A len cap] 25):=⟨_,rfl⟩
 obtain⟨g,hg⟩:∃ g,g=w.heap.size:=⟨_,rfl⟩
 rw [<- hW1] at HB HC0;rw [<- hg] at HB;go_enter Tryz.func24,Tryz.ntmps24;go_upto_region 1 with fail;rw [<- hg,<- hW1];clear hg hW1;have q0:=HB.out.cell 0;have q1:=HB.out.cell 1;have q2:=HB.out.cell 2;have q3:=HB.out.cell 3;simp at q0 q1 q2 q3;have HP:=kf hP;have HL:=kf hll;have HR:=kf hr;have HBL:=kf hl;clear hP hll hr hl;go_upto_region 22 with fail;clear q0 q1 q2 q3;go_loopw [9,10] (fun vs vk wr=>∃ (k m:Nat) (ts:ByteArray),k<=len/\m<=299000000000000000/\ts.size=m/\vs=.string ts/\vk=.int .i64 (k:Nat)/\Hid (ts=sb (z0g 0 (l.take k)))/\Hid (m=(z0g 0 (l.take k)).length)/\Hid (RowIs w A k (l.drop k))/\Hid (Chg NoS W1 wr)) (fun _ vk _=>len-(intOf vk).toNat)
 case atStart=>exact⟨0,0,_,by omega,by omega,rfl,rfl,by go_num,by rw [List.take_zero,z1h];rfl,by rw [List.take_zero,z1h];rfl,by rw [List.drop_zero];exact HR.out,Chg.refl NoS W1⟩
 case round =>
  obtain⟨k,m,ts,hk,hm3,hts,rfl,rfl,HTS,HML,HRW,HCW⟩:=hrel;have hbw:=HB.out.chg HCW.out (fun h=>h);have q0:=hbw.cell 0;have q3:=hbw.cell 3;simp at q0 q3;clear hbw;by_cases hlt:k<len
  ·obtain⟨t',ht',hdd⟩:=z0r (l:=l) (k:=k) (by rw [HL.out];exact hlt)
   obtain⟨b,off,rfl⟩:∃ b off,A=some ⟨b,off,none⟩:=by
    have h:=HR.out;cases hll:l with
    |nil=>rw [hll] at ht';simp at ht'
    |cons t0 l0=>rw [hll] at h;exact h.start
   have hrw:=HRW.out;rw [hdd] at hrw;have hcw:=HC0.out.trans HCW.out (fun _ _ e=>e);obtain⟨ek,en,es,eA,el,ec,c0,c1,c2,c3,hv',hr'⟩:=hrw.at0 hcw;have HRN:=kf hr';have hsn:=z5i ht';have HV:=kf hsn;have HVL:=kf (show(z0g 0 (l.take (k+1))).length=m+((if k=0 then 0 else 1)+(z0c t').length) from by rw [hsn,HML.out,List.length_append,List.length_append,List.length_replicate]);have hlen:=z8s l (k+1);rw [HVL.out] at hlen;have hbl:=HBL.out;obtain⟨S,hS⟩:∃ S,S=sb (z0c t'):=⟨_,rfl⟩
   obtain⟨p,hp⟩:∃ p,S.size=p:=⟨_,rfl⟩
   have hpl:(z0c t').length=p:=by rw [<- hp,hS,z01]
   rw [hpl] at hlen HVL;have HX:=kf (HP.out t' (List.mem_of_getElem? ht') ⟨ek,en,es,eA,el,ec⟩ wr (hv'.chg hcw) (by rw [hpl];omega));unfold VC.val at HX;simp only [] at HX;rw [<- hS] at HX;have i1:(k:Int)<len:=by omega
   by_cases h0:k=0
   ·subst h0;simp only [if_true,Nat.zero_add] at hlen HVL;have HNX:=kf (show ts++S=sb (z0g 0 (l.take (0+1))) from by rw [HV.out,HTS.out,hS,z0e];rfl);simp only [Nat.zero_mul,Nat.add_zero] at c0 c1 c2 c3;have j1:¬9223372036854775807<m+p:=by omega
    clear hrw hv' hr' hdd ht' hsn hcw hpl hS;go_wp2_with (go_at_call 24;refine HX.out.mono ?_;rintro e w3 ⟨rfl,h3⟩;have HC3:=kf (HCW.out.trans h3 (fun _ _ e=>e));clear h3);go_roundw
    case rel=>exact⟨1,m+p,_,by omega,by omega,by rw [ByteArray.size_append,hts,hp],rfl,by go_num,HNX.out,HVL.out.symm,HRN.out,HC3.out⟩
    case measure=>simp [intOf];omega
   ·rw [if_neg h0] at hlen HVL;have HNX:=kf (show ts++⟨#[32]⟩++S=sb (z0g 0 (l.take (k+1))) from by rw [HV.out,HTS.out,hS,if_neg h0,show ByteArray.mk #[32]=sb [32] from rfl,z0e,z0e];simp);have d0:decide ((0:Int)<(k:Int))=true:=by simp;omega
    have d0':decide (0<k)=true:=by simp;omega
    have j1:¬9223372036854775807<m+1+p:=by omega
    have j2:¬9223372036854775807<m+1:=by omega
    clear hrw hv' hr' hdd ht' hsn hcw hpl hS h0;go_wp2_with (go_at_call 24;refine HX.out.mono ?_;rintro e w3 ⟨rfl,h3⟩;have HC3:=kf (HCW.out.trans h3 (fun _ _ e=>e));clear h3);go_roundw
    case rel=>exact⟨k+1,m+1+p,_,by omega,by omega,by rw [ByteArray.size_append,ByteArray.size_append,hts,hp];rfl,rfl,by go_num,HNX.out,(show m+1+p=_ from by rw [HVL.out];omega),HRN.out,HC3.out⟩
    case measure=>simp [intOf];omega
  ·obtain rfl:k=len:=by omega
   have HE:=kf (show⟨#[91]⟩++ts++⟨#[93]⟩=sb ([91]++z0g 0 l++[93]) from by rw [HTS.out,List.take_of_length_le (by rw [HL.out];exact Nat.le_refl _),show ByteArray.mk #[91]=sb [91] from rfl,show ByteArray.mk #[93]=sb [93] from rfl,z0e,z0e]);have HCE:=kf (HC0.out.trans HCW.out (fun _ _ e=>e));have j1:¬9223372036854775807<1+m+1:=by omega
   have j2:¬9223372036854775807<1+m:=by omega
   go_wp2_with fail;go_ret;refine⟨?_,HCE.out⟩;show Ending.returned (Value.string (⟨#[91]⟩++ts++⟨#[93]⟩))=_;rw [HE.out];rfl
theorem y4i (n:Int) (s:ByteArray) (A:Option Addr) (len cap:Nat) (l:List VT) (hP:∀ t∈l,PF t) (hll:l.length=len) (hm:len<=9223372036854775807) (hl:(z0g 0 l).length<=299000000000000000) (w:World) (hr:RowIs w A 0 l) :
  Calls Tryz.prog 24 #[.agg #[.int .i64 7,.int .i64 n,.string s,.slice A len cap]] w fun e w'=>e=.returned (.string (sb ([60,60]++z0g 0 l++[62,62])))/\Chg NoS w w':=by
 have HB:=kf (Blk.new w 25 #[.int .i64 7,.int .i64 n,.string s,.slice A len cap]);have HC0:=kf ((Chg.refl NoS w).alloc (.cells #[.int .i64 7,.int .i64 n,.string s,.slice A len cap] 25));obtain⟨W1,hW1⟩:∃ W1,W1=w.alloc (.cells #[.int .i64 7,.int .i64 n,.string s,.slice A len cap] 25):=⟨_,rfl⟩
 obtain⟨g,hg⟩:∃ g,g=w.heap.size:=⟨_,rfl⟩
 rw [<- hW1] at HB HC0;rw [<- hg] at HB;go_enter Tryz.func24,Tryz.ntmps24;go_upto_region 1 with fail;rw [<- hg,<- hW1];clear hg hW1;have q0:=HB.out.cell 0;have q1:=HB.out.cell 1;have q2:=HB.out.cell 2;have q3:=HB.out.cell 3;simp at q0 q1 q2 q3;have HP:=kf hP;have HL:=kf hll;have HR:=kf hr;have HBL:=kf hl;clear hP hll hr hl;go_upto_region 22 with fail;clear q0 q1 q2 q3;go_loopw [9,10] (fun vs vk wr=>∃ (k m:Nat) (ts:ByteArray),k<=len/\m<=299000000000000000/\ts.size=m/\vs=.string ts/\vk=.int .i64 (k:Nat)/\Hid (ts=sb (z0g 0 (l.take k)))/\Hid (m=(z0g 0 (l.take k)).length)/\Hid (RowIs w A k (l.drop k))/\Hid (Chg NoS W1 wr)) (fun _ vk _=>len-(intOf vk).toNat)
 case atStart=>exact⟨0,0,_,by omega,by omega,rfl,rfl,by go_num,by rw [List.take_zero,z1h];rfl,by rw [List.take_zero,z1h];rfl,by rw [List.drop_zero];exact HR.out,Chg.refl NoS W1⟩
 case round =>
  obtain⟨k,m,ts,hk,hm3,hts,rfl,rfl,HTS,HML,HRW,HCW⟩:=hrel;have hbw:=HB.out.chg HCW.out (fun h=>h);have q0:=hbw.cell 0;have q3:=hbw.cell 3;simp at q0 q3;clear hbw;by_cases hlt:k<len
  ·obtain⟨t',ht',hdd⟩:=z0r (l:=l) (k:=k) (by rw [HL.out];exact hlt)
   obtain⟨b,off,rfl⟩:∃ b off,A=some ⟨b,off,none⟩:=by
    have h:=HR.out;cases hll:l with
    |nil=>rw [hll] at ht';simp at ht'
    |cons t0 l0=>rw [hll] at h;exact h.start
   have hrw:=HRW.out;rw [hdd] at hrw;have hcw:=HC0.out.trans HCW.out (fun _ _ e=>e);obtain⟨ek,en,es,eA,el,ec,c0,c1,c2,c3,hv',hr'⟩:=hrw.at0 hcw;have HRN:=kf hr';have hsn:=z5i ht';have HV:=kf hsn;have HVL:=kf (show(z0g 0 (l.take (k+1))).length=m+((if k=0 then 0 else 1)+(z0c t').length) from by rw [hsn,HML.out,List.length_append,List.length_append,List.length_replicate]);have hlen:=z8s l (k+1);rw [HVL.out] at hlen;have hbl:=HBL.out;obtain⟨S,hS⟩:∃ S,S=sb (z0c t'):=⟨_,rfl⟩
   obtain⟨p,hp⟩:∃ p,S.size=p:=⟨_,rfl⟩
   have hpl:(z0c t').length=p:=by rw [<- hp,hS,z01]
   rw [hpl] at hlen HVL;have HX:=kf (HP.out t' (List.mem_of_getElem? ht') ⟨ek,en,es,eA,el,ec⟩ wr (hv'.chg hcw) (by rw [hpl];omega));unfold VC.val at HX;simp only [] at HX;rw [<- hS] at HX;have i1:(k:Int)<len:=by omega
   by_cases h0:k=0
   ·subst h0;simp only [if_true,Nat.zero_add] at hlen HVL;have HNX:=kf (show ts++S=sb (z0g 0 (l.take (0+1))) from by rw [HV.out,HTS.out,hS,z0e];rfl);simp only [Nat.zero_mul,Nat.add_zero] at c0 c1 c2 c3;have j1:¬9223372036854775807<m+p:=by omega
    clear hrw hv' hr' hdd ht' hsn hcw hpl hS;go_wp2_with (go_at_call 24;refine HX.out.mono ?_;rintro e w3 ⟨rfl,h3⟩;have HC3:=kf (HCW.out.trans h3 (fun _ _ e=>e));clear h3);go_roundw
    case rel=>exact⟨1,m+p,_,by omega,by omega,by rw [ByteArray.size_append,hts,hp],rfl,by go_num,HNX.out,HVL.out.symm,HRN.out,HC3.out⟩
    case measure=>simp [intOf];omega
   ·rw [if_neg h0] at hlen HVL;have HNX:=kf (show ts++⟨#[32]⟩++S=sb (z0g 0 (l.take (k+1))) from by rw [HV.out,HTS.out,hS,if_neg h0,show ByteArray.mk #[32]=sb [32] from rfl,z0e,z0e];simp);have d0:decide ((0:Int)<(k:Int))=true:=by simp;omega
    have d0':decide (0<k)=true:=by simp;omega
    have j1:¬9223372036854775807<m+1+p:=by omega
    have j2:¬9223372036854775807<m+1:=by omega
    clear hrw hv' hr' hdd ht' hsn hcw hpl hS h0;go_wp2_with (go_at_call 24;refine HX.out.mono ?_;rintro e w3 ⟨rfl,h3⟩;have HC3:=kf (HCW.out.trans h3 (fun _ _ e=>e));clear h3);go_roundw
    case rel=>exact⟨k+1,m+1+p,_,by omega,by omega,by rw [ByteArray.size_append,ByteArray.size_append,hts,hp];rfl,rfl,by go_num,HNX.out,(show m+1+p=_ from by rw [HVL.out];omega),HRN.out,HC3.out⟩
    case measure=>simp [intOf];omega
  ·obtain rfl:k=len:=by omega
   have HE:=kf (show⟨#[60,60]⟩++ts++⟨#[62,62]⟩=sb ([60,60]++z0g 0 l++[62,62]) from by rw [HTS.out,List.take_of_length_le (by rw [HL.out];exact Nat.le_refl _),show ByteArray.mk #[60,60]=sb [60,60] from rfl,show ByteArray.mk #[62,62]=sb [62,62] from rfl,z0e,z0e]);have HCE:=kf (HC0.out.trans HCW.out (fun _ _ e=>e));have j1:¬9223372036854775807<2+m+2:=by omega
   have j2:¬9223372036854775807<2+m:=by omega
   go_wp2_with fail;go_ret;refine⟨?_,HCE.out⟩;show Ending.returned (Value.string (⟨#[60,60]⟩++ts++⟨#[62,62]⟩))=_;rw [HE.out];rfl
theorem v30:∀ (N:Nat) (t:VT),z2n t<=N->z0s t=0->PF t:=by
 intro N;induction N using Nat.strongRecOn with
 |_ N ih =>
  intro t hN hf c w hv hl;obtain⟨k,n,s,l⟩:=t;rw [z0x] at hN;obtain⟨ck,cn,cs,A,len,cap⟩:=c;obtain⟨e1,e2,e3,hg,hll,hr⟩:=hv.inv;simp only [] at e1 e2 e3 hll hr;subst e1 e2 e3;have hlm:=hg.len;simp only [] at hlm;unfold maxLen at hlm
  have hin:ck=6\/ck=7->∀ x∈l,PF x:=fun hk x hx=>by
   have hfx:=z8v hk hf x hx;obtain⟨i,hi,rfl⟩:=List.mem_iff_getElem.1 hx;have:=z1r (List.getElem?_eq_getElem hi);exact ih (N-1) (by omega) _ (by omega) hfx
  have ho:=z61 hf;unfold VC.val;simp only [];rcases y1l ho with rfl|rfl|rfl|rfl|rfl|rfl|rfl|rfl|rfl
  ·rw [y8j] at hl ⊢;exact y4g cn cs A len cap w
  ·rw [z5e] at ho;split at ho
   ·next hh =>
    rcases hh.2.2 with rfl|rfl
    ·rw [y0i,if_neg (by decide)] at hl ⊢;exact y16 cs A len cap w
    ·rw [y0i,if_pos rfl] at hl ⊢;exact y4d cs A len cap w
   ·cases ho
  ·rw [y07,hll] at ho;rw [y8i] at hl ⊢;exact z9w cn cs A len cap ho w
  ·rw [y06,hll] at ho;rw [y8h] at hl ⊢;exact y4f cn cs A len cap ho w
  ·rw [y8g] at hl ⊢
   exact y4e cn cs A len cap (by
    unfold txF at hl;split at hl
    ·have:=y8t (sl cs);rw [z1a] at this;simp only [List.length_cons,List.length_append,List.length_nil] at hl;omega
    ·have:=z8o (sl cs);rw [z1a] at this;simp only [List.length_cons,List.length_append,List.length_nil] at hl;omega) w
  ·rw [z2q] at ho;split at ho
   ·cases ho
   ·next hh =>
    rw [y8f] at hl ⊢;exact y4h cn cs A len cap (Decidable.not_not.1 hh) w
  ·have e:z0c (.mk 6 cn cs l)=[91]++z0g 0 l++[93]:=by rw [y8e];rfl
   rw [e] at hl ⊢;simp only [List.length_cons,List.length_append,List.length_nil] at hl;exact y17 cn cs A len cap l (hin (.inl rfl)) hll hlm (by omega) w hr
  ·have e:z0c (.mk 7 cn cs l)=[60,60]++z0g 0 l++[62,62]:=by rw [y8d];rfl
   rw [e] at hl ⊢;simp only [List.length_cons,List.length_append,List.length_nil] at hl;exact y4i cn cs A len cap l (hin (.inr rfl)) hll hlm (by omega) w hr
  ·rw [z4i] at ho;split at ho
   ·next hh =>
    rw [y8c] at hl ⊢;exact y6i cn cs A len cap hh.2.2.1 hh.2.2.2 w
   ·cases ho
mutual
def fwT:VT->Nat
 |.mk _ _ s l=>500+4*s.size+fwL l
def fwL:List VT->Nat
 |[]=>0
 |t::l=>fwT t+1+fwL l
end
theorem v1o (l:List VT) (t:VT):fwL (l++[t])=fwL l+fwT t+1:=by
 induction l with
 |nil=>show fwT t+1+0=0+fwT t+1;omega
 |cons x l ih=>rw [List.cons_append];show fwT x+1+fwL (l++[t])=fwT x+1+fwL l+fwT t+1;omega
theorem v1n:∀ (l:List VT) (k:Nat),fwL (l.take k)<=fwL l:=by
 intro l;induction l with
 |nil=>intro k;rw [List.take_nil];exact Nat.le_refl _
 |cons x l ih =>
  intro k;cases k with
  |zero=>exact Nat.zero_le _
  |succ k=>rw [List.take_succ_cons];show fwT x+1+fwL (l.take k)<=fwT x+1+fwL l;have:=ih k;omega
theorem v7s {l:List VT} {k:Nat} {t:VT} (h:l[k]?=some t):fwL (l.take (k+1))=fwL (l.take k)+fwT t+1:=by
 have hk:=(List.getElem?_eq_some_iff.1 h).1;rw [List.getElem?_eq_getElem hk] at h;cases h
 rw [List.take_succ_eq_append_getElem hk,v1o]
def v9i (t:VT) (w:World) (e:Ending) (w':World):Prop:=∃ S:ByteArray,e=.returned (.string S)/\S.size<=fwT t/\Chg NoS w w'
def WF (t:VT):Prop:=∀ (c:VC) (w:World),ValIs w t c->fwT t<=1000000000000000000->Calls Tryz.prog 24 #[c.val] w (v9i t w)
theorem y6v (k n:Int) (sz len:Nat):(y02 k n sz len).1.length<=100:=by
 unfold y02;split
 ·next hc =>
  have hm:z2x k n:=by
   unfold z05 at hc;split at hc
   ·rename_i h;exact h.2.2
   ·cases hc
  have hs:(z33 n).length<=1:=by unfold z33;split<;>simp
  have htx:∀ a,a<10 ^ 20->(txt a 1).length<=21:=fun a ha=>by
   unfold txt;have:=z0v ha;rw [List.length_append,List.length_replicate];omega
  show(if k=2 then z06 n else z0q n).length<=100;have hn:n.natAbs<10 ^ 20:=by rcases hm with h|h<;>omega
  split
  ·unfold z06;rw [List.length_append];have:=htx _ hn;omega
  ·unfold z0q;have h1:=htx (n.natAbs / 1000000) (by omega);have h2:=z9i 5 (txt (n.natAbs%1000000) 6)
   have h3:(txt (n.natAbs%1000000) 6).length<=12:=by
    unfold txt;have:=z0v (n:=n.natAbs%1000000) (k:=6) (by omega);rw [List.length_append,List.length_replicate];omega
   rw [List.length_append,List.length_append,List.length_cons];omega
 ·exact Nat.zero_le _
theorem v7b (s:ByteArray):(z6s s).1.length<=400:=by
 unfold z6s;split
 ·next h =>
  have h2:=y7a;have h3:=h2 (sl s);have h4:=h.2;rw [z1a] at h3;show(nmF (sl s)).length<=400;unfold nmF;rw [List.length_cons];omega
 ·exact Nat.zero_le _
theorem v2r (s:ByteArray):(txF (sl s)).length<=2*s.size+2:=by
 unfold txF;split
 ·have:=v5b (sl s);rw [z1a] at this;rw [List.length_cons,List.length_append];simp;omega
 ·have:=v4y (sl s);rw [z1a] at this;rw [List.length_cons,List.length_append];simp;omega
theorem y40 (n:Int) (s:ByteArray) (A:Option Addr) (len cap:Nat) (w:World) :
  Calls Tryz.prog 24 #[.agg #[.int .i64 0,.int .i64 n,.string s,.slice A len cap]] w fun e w'=>∃ S:ByteArray,e=.returned (.string S)/\S.size<=500/\Chg NoS w w':=by
 have HB:=kf (Blk.new w 25 #[.int .i64 0,.int .i64 n,.string s,.slice A len cap]);have HC0:=kf ((Chg.refl NoS w).alloc (.cells #[.int .i64 0,.int .i64 n,.string s,.slice A len cap] 25));obtain⟨W1,hW1⟩:∃ W1,W1=w.alloc (.cells #[.int .i64 0,.int .i64 n,.string s,.slice A len cap] 25):=⟨_,rfl⟩
 obtain⟨g,hg⟩:∃ g,g=w.heap.size:=⟨_,rfl⟩
 rw [<- hW1] at HB HC0;rw [<- hg] at HB;go_enter Tryz.func24,Tryz.ntmps24;go_upto_region 1 with fail;rw [<- hg,<- hW1];clear hg hW1;have q0:=HB.out.cell 0;have q1:=HB.out.cell 1;have q2:=HB.out.cell 2;have q3:=HB.out.cell 3;simp at q0 q1 q2 q3;go_wp2_with fail;go_ret;exact⟨_,rfl,by decide,HC0.out⟩
theorem y42 (n:Int) (s:ByteArray) (A:Option Addr) (len cap:Nat) (w:World) :
  Calls Tryz.prog 24 #[.agg #[.int .i64 1,.int .i64 n,.string s,.slice A len cap]] w fun e w'=>∃ S:ByteArray,e=.returned (.string S)/\S.size<=500/\Chg NoS w w':=by
 have HB:=kf (Blk.new w 25 #[.int .i64 1,.int .i64 n,.string s,.slice A len cap]);have HC0:=kf ((Chg.refl NoS w).alloc (.cells #[.int .i64 1,.int .i64 n,.string s,.slice A len cap] 25));obtain⟨W1,hW1⟩:∃ W1,W1=w.alloc (.cells #[.int .i64 1,.int .i64 n,.string s,.slice A len cap] 25):=⟨_,rfl⟩
 obtain⟨g,hg⟩:∃ g,g=w.heap.size:=⟨_,rfl⟩
 rw [<- hW1] at HB HC0;rw [<- hg] at HB;by_cases h1:n=1
 ·subst h1;go_enter Tryz.func24,Tryz.ntmps24;go_upto_region 1 with fail;rw [<- hg,<- hW1];clear hg hW1;have q0:=HB.out.cell 0;have q1:=HB.out.cell 1;have q2:=HB.out.cell 2;have q3:=HB.out.cell 3;simp at q0 q1 q2 q3;go_wp2_with fail;go_ret;exact⟨_,rfl,by decide,HC0.out⟩
 ·have e1:(n==1)=false:=by simpa using h1
  clear h1;go_enter Tryz.func24,Tryz.ntmps24;go_upto_region 1 with fail;rw [<- hg,<- hW1];clear hg hW1;have q0:=HB.out.cell 0;have q1:=HB.out.cell 1;have q2:=HB.out.cell 2;have q3:=HB.out.cell 3;simp at q0 q1 q2 q3;go_wp2_with fail;go_ret;exact⟨_,rfl,by decide,HC0.out⟩
theorem y5q (n:Int) (s:ByteArray) (A:Option Addr) (len cap:Nat) (w:World) :
  Calls Tryz.prog 24 #[.agg #[.int .i64 2,.int .i64 n,.string s,.slice A len cap]] w fun e w'=>∃ S:ByteArray,e=.returned (.string S)/\S.size<=500/\Chg NoS w w':=by
 have HN:=kf (fun W=>z3h 2 n s A len cap W);unfold PrTo at HN;have hpl:=y6v 2 n s.size len;obtain⟨P,hP⟩:∃ P,P=y02 2 n s.size len:=⟨_,rfl⟩
 rw [<- hP] at HN hpl;obtain⟨PL,PE⟩:=P;simp only [] at HN hpl;obtain⟨S,hS⟩:∃ S,S=sb PL:=⟨_,rfl⟩
 have HSZ:Hid (S.size<=500):=by show _<=_;rw [hS,z01];omega
 rw [<- hS] at HN;clear hS hP hpl;have HB:=kf (Blk.new w 25 #[.int .i64 2,.int .i64 n,.string s,.slice A len cap]);have HC0:=kf ((Chg.refl NoS w).alloc (.cells #[.int .i64 2,.int .i64 n,.string s,.slice A len cap] 25));obtain⟨W1,hW1⟩:∃ W1,W1=w.alloc (.cells #[.int .i64 2,.int .i64 n,.string s,.slice A len cap] 25):=⟨_,rfl⟩
 obtain⟨g,hg⟩:∃ g,g=w.heap.size:=⟨_,rfl⟩
 rw [<- hW1] at HB HC0;rw [<- hg] at HB;go_enter Tryz.func24,Tryz.ntmps24;go_upto_region 1 with fail;rw [<- hg,<- hW1];clear hg hW1;have q0:=HB.out.cell 0;have q1:=HB.out.cell 1;have q2:=HB.out.cell 2;have q3:=HB.out.cell 3;simp at q0 q1 q2 q3;go_wp2_with (go_at_call 48;refine(HN.out _).mono ?_;rintro e w3 ⟨rfl,h3⟩;have HC3:=kf (HC0.out.trans h3 (fun _ _ e=>e));clear h3);go_ret;exact⟨S,rfl,HSZ.out,HC3.out⟩
theorem y3z (n:Int) (s:ByteArray) (A:Option Addr) (len cap:Nat) (w:World) :
  Calls Tryz.prog 24 #[.agg #[.int .i64 3,.int .i64 n,.string s,.slice A len cap]] w fun e w'=>∃ S:ByteArray,e=.returned (.string S)/\S.size<=500/\Chg NoS w w':=by
 have HN:=kf (fun W=>z3h 3 n s A len cap W);unfold PrTo at HN;have hpl:=y6v 3 n s.size len;obtain⟨P,hP⟩:∃ P,P=y02 3 n s.size len:=⟨_,rfl⟩
 rw [<- hP] at HN hpl;obtain⟨PL,PE⟩:=P;simp only [] at HN hpl;obtain⟨S,hS⟩:∃ S,S=sb PL:=⟨_,rfl⟩
 have HSZ:Hid (S.size<=500):=by show _<=_;rw [hS,z01];omega
 rw [<- hS] at HN;clear hS hP hpl;have HB:=kf (Blk.new w 25 #[.int .i64 3,.int .i64 n,.string s,.slice A len cap]);have HC0:=kf ((Chg.refl NoS w).alloc (.cells #[.int .i64 3,.int .i64 n,.string s,.slice A len cap] 25));obtain⟨W1,hW1⟩:∃ W1,W1=w.alloc (.cells #[.int .i64 3,.int .i64 n,.string s,.slice A len cap] 25):=⟨_,rfl⟩
 obtain⟨g,hg⟩:∃ g,g=w.heap.size:=⟨_,rfl⟩
 rw [<- hW1] at HB HC0;rw [<- hg] at HB;go_enter Tryz.func24,Tryz.ntmps24;go_upto_region 1 with fail;rw [<- hg,<- hW1];clear hg hW1;have q0:=HB.out.cell 0;have q1:=HB.out.cell 1;have q2:=HB.out.cell 2;have q3:=HB.out.cell 3;simp at q0 q1 q2 q3;go_wp2_with (go_at_call 48;refine(HN.out _).mono ?_;rintro e w3 ⟨rfl,h3⟩;have HC3:=kf (HC0.out.trans h3 (fun _ _ e=>e));clear h3);go_ret;exact⟨S,rfl,HSZ.out,HC3.out⟩
theorem y3y (n:Int) (s:ByteArray) (A:Option Addr) (len cap:Nat) (hs:s.size<=300000000000000000) (w:World) :
  Calls Tryz.prog 24 #[.agg #[.int .i64 4,.int .i64 n,.string s,.slice A len cap]] w fun e w'=>∃ S:ByteArray,e=.returned (.string S)/\S.size<=500+4*s.size/\Chg NoS w w':=by
 have HN:=kf (fun W=>z6l s W (by omega));have htl:=v2r s;obtain⟨S,hS⟩:∃ S,S=sb (txF (sl s)):=⟨_,rfl⟩
 have HSZ:Hid (S.size<=500+4*s.size):=by show _<=_;rw [hS,z01];omega
 rw [<- hS] at HN;clear hS htl;have HB:=kf (Blk.new w 25 #[.int .i64 4,.int .i64 n,.string s,.slice A len cap]);have HC0:=kf ((Chg.refl NoS w).alloc (.cells #[.int .i64 4,.int .i64 n,.string s,.slice A len cap] 25));obtain⟨W1,hW1⟩:∃ W1,W1=w.alloc (.cells #[.int .i64 4,.int .i64 n,.string s,.slice A len cap] 25):=⟨_,rfl⟩
 obtain⟨g,hg⟩:∃ g,g=w.heap.size:=⟨_,rfl⟩
 rw [<- hW1] at HB HC0;rw [<- hg] at HB;go_enter Tryz.func24,Tryz.ntmps24;go_upto_region 1 with fail;rw [<- hg,<- hW1];clear hg hW1;have q0:=HB.out.cell 0;have q1:=HB.out.cell 1;have q2:=HB.out.cell 2;have q3:=HB.out.cell 3;simp at q0 q1 q2 q3;go_wp2_with (go_at_call 49;refine(HN.out _).mono ?_;rintro e w3 ⟨rfl,h3⟩;have HC3:=kf (HC0.out.trans h3 (fun _ _ e=>e));clear h3);go_ret;exact⟨S,rfl,HSZ.out,HC3.out⟩
theorem y41 (n:Int) (s:ByteArray) (A:Option Addr) (len cap:Nat) (hs:s.size<=300000000000000000) (w:World) :
  Calls Tryz.prog 24 #[.agg #[.int .i64 5,.int .i64 n,.string s,.slice A len cap]] w fun e w'=>∃ S:ByteArray,e=.returned (.string S)/\S.size<=500+4*s.size/\Chg NoS w w':=by
 have HN:=kf (fun W=>z6m s W (by omega));have htl:=v7b s;obtain⟨P,hP⟩:∃ P,P=z6s s:=⟨_,rfl⟩
 rw [<- hP] at HN htl;obtain⟨PL,PE⟩:=P;simp only [] at HN htl;obtain⟨S,hS⟩:∃ S,S=sb PL:=⟨_,rfl⟩
 have HSZ:Hid (S.size<=500+4*s.size):=by show _<=_;rw [hS,z01];omega
 rw [<- hS] at HN;clear hS hP htl;have HB:=kf (Blk.new w 25 #[.int .i64 5,.int .i64 n,.string s,.slice A len cap]);have HC0:=kf ((Chg.refl NoS w).alloc (.cells #[.int .i64 5,.int .i64 n,.string s,.slice A len cap] 25));obtain⟨W1,hW1⟩:∃ W1,W1=w.alloc (.cells #[.int .i64 5,.int .i64 n,.string s,.slice A len cap] 25):=⟨_,rfl⟩
 obtain⟨g,hg⟩:∃ g,g=w.heap.size:=⟨_,rfl⟩
 rw [<- hW1] at HB HC0;rw [<- hg] at HB;go_enter Tryz.func24,Tryz.ntmps24;go_upto_region 1 with fail;rw [<- hg,<- hW1];clear hg hW1;have q0:=HB.out.cell 0;have q1:=HB.out.cell 1;have q2:=HB.out.cell 2;have q3:=HB.out.cell 3;simp at q0 q1 q2 q3;go_wp2_with (go_at_call 50;refine(HN.out _).mono ?_;rintro e w3 ⟨rfl,h3⟩;have HC3:=kf (HC0.out.trans h3 (fun _ _ e=>e));clear h3);go_ret;exact⟨S,rfl,HSZ.out,HC3.out⟩
theorem y5p (n:Int) (s:ByteArray) (A:Option Addr) (len cap:Nat) (w:World) :
  Calls Tryz.prog 24 #[.agg #[.int .i64 8,.int .i64 n,.string s,.slice A len cap]] w fun e w'=>∃ S:ByteArray,e=.returned (.string S)/\S.size<=500/\Chg NoS w w':=by
 have HN:=kf (fun W=>z3h 2 n ⟨#[]⟩ none 0 0 W);unfold PrTo at HN;rw [show(⟨#[]⟩:ByteArray).size=0 from rfl] at HN;have hpl:=y6v 2 n 0 0;obtain⟨P,hP⟩:∃ P,P=y02 2 n 0 0:=⟨_,rfl⟩
 rw [<- hP] at HN hpl;obtain⟨PL,PE⟩:=P;simp only [] at HN hpl;obtain⟨S,hS⟩:∃ S,S=sb PL:=⟨_,rfl⟩
 have HSZ:Hid (S.size<=400):=by show _<=_;rw [hS,z01];omega
 rw [<- hS] at HN;clear hS hP hpl;obtain⟨p,hp⟩:∃ p,S.size=p:=⟨_,rfl⟩
 have j1:¬9223372036854775807<p+4:=by have:=HSZ.out;omega
 have HB:=kf (Blk.new w 25 #[.int .i64 8,.int .i64 n,.string s,.slice A len cap]);have HC0:=kf ((Chg.refl NoS w).alloc (.cells #[.int .i64 8,.int .i64 n,.string s,.slice A len cap] 25));obtain⟨W1,hW1⟩:∃ W1,W1=w.alloc (.cells #[.int .i64 8,.int .i64 n,.string s,.slice A len cap] 25):=⟨_,rfl⟩
 obtain⟨g,hg⟩:∃ g,g=w.heap.size:=⟨_,rfl⟩
 rw [<- hW1] at HB HC0;rw [<- hg] at HB;go_enter Tryz.func24,Tryz.ntmps24;go_upto_region 1 with fail;rw [<- hg,<- hW1];clear hg hW1;have q0:=HB.out.cell 0;have q1:=HB.out.cell 1;have q2:=HB.out.cell 2;have q3:=HB.out.cell 3;simp at q0 q1 q2 q3;go_wp2_with (go_at_call 48;refine(HN.out _).mono ?_;rintro e w3 ⟨rfl,h3⟩;have HC3:=kf (HC0.out.trans h3 (fun _ _ e=>e));clear h3);go_ret;exact⟨_,rfl,by rw [ByteArray.size_append];have:=HSZ.out;show S.size+4<=500;omega,HC3.out⟩
theorem y5o (kk n:Int) (s:ByteArray) (A:Option Addr) (len cap:Nat) (l:List VT) (hP:∀ t∈l,WF t) (hll:l.length=len) (hm:len<=9223372036854775807) (hl:fwL l<=1000000000000000000) (w:World) (hr:RowIs w A 0 l) (hk:kk≠0/\kk≠1/\kk≠2/\kk≠3/\kk≠4/\kk≠5/\kk≠8) :
  Calls Tryz.prog 24 #[.agg #[.int .i64 kk,.int .i64 n,.string s,.slice A len cap]] w fun e w'=>∃ S:ByteArray,e=.returned (.string S)/\S.size<=10+fwL l/\Chg NoS w w':=by
 have HB:=kf (Blk.new w 25 #[.int .i64 kk,.int .i64 n,.string s,.slice A len cap]);have HC0:=kf ((Chg.refl NoS w).alloc (.cells #[.int .i64 kk,.int .i64 n,.string s,.slice A len cap] 25));obtain⟨W1,hW1⟩:∃ W1,W1=w.alloc (.cells #[.int .i64 kk,.int .i64 n,.string s,.slice A len cap] 25):=⟨_,rfl⟩
 obtain⟨g,hg⟩:∃ g,g=w.heap.size:=⟨_,rfl⟩
 rw [<- hW1] at HB HC0;rw [<- hg] at HB;obtain⟨k0,k1,k2,k3,k4,k5,k8⟩:=hk;have f0:(kk==0)=false:=by simpa using k0
 have f1:(kk==1)=false:=by simpa using k1
 have f2:(kk==2)=false:=by simpa using k2
 have f3:(kk==3)=false:=by simpa using k3
 have f4:(kk==4)=false:=by simpa using k4
 have f5:(kk==5)=false:=by simpa using k5
 have f8:(kk==8)=false:=by simpa using k8
 clear k0 k1 k2 k3 k4 k5 k8;go_enter Tryz.func24,Tryz.ntmps24;go_upto_region 1 with fail;rw [<- hg,<- hW1];clear hg hW1;have q0:=HB.out.cell 0;have q1:=HB.out.cell 1;have q2:=HB.out.cell 2;have q3:=HB.out.cell 3;simp at q0 q1 q2 q3;have HP:=kf hP;have HL:=kf hll;have HR:=kf hr;have HBL:=kf hl;clear hP hll hr hl;go_upto_region 22 with fail;clear q0 q1 q2 q3;go_loopw [9,10] (fun vs vk wr=>∃ (k m:Nat) (ts:ByteArray),k<=len/\m<=1000000000000000000/\ts.size=m/\vs=.string ts/\vk=.int .i64 (k:Nat)/\Hid (m<=fwL (l.take k))/\Hid (RowIs w A k (l.drop k))/\Hid (Chg NoS W1 wr)) (fun _ vk _=>len-(intOf vk).toNat)
 case atStart=>exact⟨0,0,_,by omega,by omega,rfl,rfl,by go_num,Nat.zero_le _,by rw [List.drop_zero];exact HR.out,Chg.refl NoS W1⟩
 case round =>
  obtain⟨k,m,ts,hk,hm3,hts,rfl,rfl,HML,HRW,HCW⟩:=hrel;have hbw:=HB.out.chg HCW.out (fun h=>h);have q0:=hbw.cell 0;have q3:=hbw.cell 3;simp at q0 q3;clear hbw;by_cases hlt:k<len
  ·obtain⟨t',ht',hdd⟩:=z0r (l:=l) (k:=k) (by rw [HL.out];exact hlt)
   obtain⟨b,off,rfl⟩:∃ b off,A=some ⟨b,off,none⟩:=by
    have h:=HR.out;cases hll:l with
    |nil=>rw [hll] at ht';simp at ht'
    |cons t0 l0=>rw [hll] at h;exact h.start
   have hrw:=HRW.out;rw [hdd] at hrw;have hcw:=HC0.out.trans HCW.out (fun _ _ e=>e);obtain⟨ek,en,es,eA,el,ec,c0,c1,c2,c3,hv',hr'⟩:=hrw.at0 hcw;have HRN:=kf hr';have hfa:=v7s ht';have hft:=v1n l (k+1);have hbl:=HBL.out;have HFA:=kf hfa;have hml:=HML.out;obtain⟨ft,hft2⟩:∃ ft,ft=fwT t':=⟨_,rfl⟩
   have HX:=kf (HP.out t' (List.mem_of_getElem? ht') ⟨ek,en,es,eA,el,ec⟩ wr (hv'.chg hcw) (by omega));unfold VC.val v9i at HX;simp only [] at HX;rw [<- hft2] at HX hfa HFA;have i1:(k:Int)<len:=by omega
   have j0:ft+m+1<=1000000000000000000:=by omega
   by_cases h0:k=0
   ·subst h0;simp only [Nat.zero_mul,Nat.add_zero] at c0 c1 c2 c3;clear hrw hv' hr' hdd ht' hcw hft2 hft hbl hml hfa;go_upto_region 26 with fail;go_wp2_with (go_at_call 24;refine HX.out.mono ?_;rintro e w3 ⟨S,rfl,hsz,h3⟩;have HC3:=kf (HCW.out.trans h3 (fun _ _ e=>e));obtain⟨p,hp⟩:(∃ p,S.size=p):=⟨_,rfl⟩;have hp9:p<=ft:=(by omega);have j1:¬9223372036854775807<m+p:=(by omega);clear h3 hsz);go_roundw
    case rel=>exact⟨1,m+p,_,by omega,by omega,by rw [ByteArray.size_append,hts,hp],rfl,by go_num,kf (by have:=HFA.out;have:=HML.out;rw [Nat.zero_add] at *;omega),HRN.out,HC3.out⟩
    case measure=>simp [intOf];omega
   ·have d0:decide ((0:Int)<(k:Int))=true:=by simp;omega
    have d0':decide (0<k)=true:=by simp;omega
    have j2:¬9223372036854775807<m+1:=by omega
    clear hrw hv' hr' hdd ht' hcw hft2 hft hbl hml hfa h0;go_wp2_with (go_at_call 24;refine HX.out.mono ?_;rintro e w3 ⟨S,rfl,hsz,h3⟩;have HC3:=kf (HCW.out.trans h3 (fun _ _ e=>e));obtain⟨p,hp⟩:(∃ p,S.size=p):=⟨_,rfl⟩;have hp9:p<=ft:=(by omega);have j1:¬9223372036854775807<m+1+p:=(by omega);clear h3 hsz);go_roundw
    case rel=>exact⟨k+1,m+1+p,_,by omega,by omega,by rw [ByteArray.size_append,ByteArray.size_append,hts,hp];rfl,rfl,by go_num,kf (by have:=HFA.out;have:=HML.out;omega),HRN.out,HC3.out⟩
    case measure=>simp [intOf];omega
  ·obtain rfl:k=len:=by omega
   have HCE:=kf (HC0.out.trans HCW.out (fun _ _ e=>e));have HML2:=kf (show m<=fwL l from by have:=HML.out;rwa [List.take_of_length_le (by rw [HL.out];exact Nat.le_refl _)] at this);by_cases h6:kk=6
   ·subst h6;have j1:¬9223372036854775807<1+m+1:=by omega
    have j2:¬9223372036854775807<1+m:=by omega
    go_wp2_with fail;go_ret;refine⟨_,rfl,?_,HCE.out⟩;rw [ByteArray.size_append,ByteArray.size_append,hts];have:=HML2.out;show 1+m+1<=_;omega
   ·have f6:(kk==6)=false:=by simpa using h6
    have j1:¬9223372036854775807<2+m+2:=by omega
    have j2:¬9223372036854775807<2+m:=by omega
    clear h6;go_wp2_with fail;go_ret;refine⟨_,rfl,?_,HCE.out⟩;rw [ByteArray.size_append,ByteArray.size_append,hts];have:=HML2.out;show 2+m+2<=_;omega
theorem v8m:∀ (N:Nat) (t:VT),z2n t<=N->WF t:=by
 intro N;induction N using Nat.strongRecOn with
 |_ N ih =>
  intro t hN c w hv hB;obtain⟨k,n,s,l⟩:=t;rw [z0x] at hN;obtain⟨ck,cn,cs,A,len,cap⟩:=c;obtain⟨e1,e2,e3,hg,hll,hr⟩:=hv.inv;simp only [] at e1 e2 e3 hll hr;subst e1 e2 e3;have hB':=hB;rw [fwT] at hB';have hfw:500+4*cs.size<=fwT (.mk ck cn cs l):=by rw [fwT];omega
  by_cases h0:ck=0
  ·subst h0;exact(y40 cn cs A len cap w).mono fun e w' ⟨S,h1,h2,h3⟩=>⟨S,h1,by omega,h3⟩
  by_cases h1:ck=1
  ·subst h1;exact(y42 cn cs A len cap w).mono fun e w' ⟨S,h1,h2,h3⟩=>⟨S,h1,by omega,h3⟩
  by_cases h2:ck=2
  ·subst h2;exact(y5q cn cs A len cap w).mono fun e w' ⟨S,h1,h2,h3⟩=>⟨S,h1,by omega,h3⟩
  by_cases h3:ck=3
  ·subst h3;exact(y3z cn cs A len cap w).mono fun e w' ⟨S,h1,h2,h3⟩=>⟨S,h1,by omega,h3⟩
  by_cases h4:ck=4
  ·subst h4;exact(y3y cn cs A len cap (by omega) w).mono fun e w' ⟨S,h1,h2,h3⟩=>⟨S,h1,by omega,h3⟩
  by_cases h5:ck=5
  ·subst h5;exact(y41 cn cs A len cap (by omega) w).mono fun e w' ⟨S,h1,h2,h3⟩=>⟨S,h1,by omega,h3⟩
  by_cases h8:ck=8
  ·subst h8;exact(y5p cn cs A len cap w).mono fun e w' ⟨S,h1,h2,h3⟩=>⟨S,h1,by omega,h3⟩
  refine(y5o ck cn cs A len cap l (fun x hx=>?_) hll (by have:=hg.len;unfold maxLen at this;exact this) (by omega) w hr ⟨h0,h1,h2,h3,h4,h5,h8⟩).mono fun e w' ⟨S,h1,h2,h3⟩=>⟨S,h1,by rw [fwT];omega,h3⟩
  obtain⟨i,hi,rfl⟩:=List.mem_iff_getElem.1 hx;have:=z1r (List.getElem?_eq_getElem hi);exact ih (N-1) (by omega) _ (by omega)
theorem v6b (t:VT):WF t:=v8m _ t (Nat.le_refl _)
end Go.Proofs.YtnhlalkeaaiefaaGreatDoor
