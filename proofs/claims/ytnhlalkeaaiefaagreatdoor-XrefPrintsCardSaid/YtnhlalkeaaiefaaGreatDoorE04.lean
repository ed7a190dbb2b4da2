import Derived.Test.YtnhlalkeaaiefaaGreatDoorE02
set_option linter.unusedVariables false
set_option maxHeartbeats 64000000
set_option maxRecDepth 100000
set_option linter.unusedSimpArgs false
namespace Go.Proofs.YtnhlalkeaaiefaaGreatDoor
open Go.RowKit
def z77 (l:List Nat):Int × Int:=if l=[]\/∃ d∈l,¬isD d then(0,11) else if 2147483647<z45 0 l then(0,5) else(((z45 0 l:Nat):Int),0)
theorem v86 {l:List Nat} (h:l=[]\/∃ d∈l,¬isD d):z77 l=(0,11):=if_pos h
theorem v85 {l:List Nat} (h0:l≠[]) (h1:∀ d∈l,isD d) (h:2147483647<z45 0 l):z77 l=(0,5):=by
 unfold z77;rw [if_neg (by rintro(h|⟨d,hd,h⟩);exact h0 h;exact h (h1 d hd)),if_pos h]
theorem v97 {l:List Nat} (h0:l≠[]) (h1:∀ d∈l,isD d) (h:¬2147483647<z45 0 l):z77 l=(((z45 0 l:Nat):Int),0):=by
 unfold z77;rw [if_neg (by rintro(h|⟨d,hd,h⟩);exact h0 h;exact h (h1 d hd)),if_neg h]
theorem z71 (x:Nat) (h:isD x) (w:World):Calls Tryz.prog 214 #[.int .i32 (x:Nat)] w fun e w'=>e=.returned (.tuple #[.int .i64 ((x-48:Nat):Int),.bool true])/\w'=w:=by
 unfold isD at h;have d1:decide ((48:Int)<=x)=true:=by simp;omega
 have d1':decide (48<=x)=true:=by simp;omega
 have d2:decide ((x:Int)<=57)=true:=by simp;omega
 have d2':decide (x<=57)=true:=by simp;omega
 have e1:(x:Int)-48=((x-48:Nat):Int):=by omega
 go_enter Tryz.func214,Tryz.ntmps214;go_wp2_with fail;go_ret2;exact⟨by rw [<- e1];rfl,rfl⟩
theorem v29 (r:Nat) (h1:r<=2147483647) (h:¬isD r) (w:World):Calls Tryz.prog 214 #[.int .i32 (r:Nat)] w fun e w'=>(∃ d,e=.returned (.tuple #[.int .i64 d,.bool false]))/\w'=w:=by
 unfold isD at h;by_cases c:48<=r
 ·have d1:decide ((48:Int)<=r)=true:=by simp;omega
  have d1':decide (48<=r)=true:=by simp;omega
  have d2:decide ((r:Int)<=57)=false:=by simp;omega
  have d2':decide (r<=57)=false:=by simp;omega
  go_enter Tryz.func214,Tryz.ntmps214;go_wp2_with fail;go_ret2;exact⟨⟨_,rfl⟩,rfl⟩
 ·have d1:decide ((48:Int)<=r)=false:=by simp;omega
  have d1':decide (48<=r)=false:=by simp;omega
  go_enter Tryz.func214,Tryz.ntmps214;go_wp2_with fail;go_ret2;exact⟨⟨_,rfl⟩,rfl⟩
def z74 (l:List Nat):Prop:=∀ d∈l,isD d
instance (l:List Nat):Decidable (z74 l):=inferInstanceAs (Decidable (∀ d∈l,isD d))
theorem z66 {w:World} {s:ByteArray} (p:Nat):Chg NoS w (w.iter s p):=(Chg.refl NoS w).alloc _
theorem z97 (s:ByteArray) (w:World) (hl:s.size<=1000000) :
  Calls Tryz.prog 190 #[.string s] w fun e w'=>e=.returned (.bool (decide (z74 (sl s))))/\Chg NoS w w':=by
 have HAT:=kf (fun k (h2:k<s.size)=>z5t s k h2);have HGT:=kf (fun k (h2:k<s.size)=>z9s (s:=s) (k:=k) h2);have HY:=kf (fun x h W=>z71 x h W);have HN:=kf (fun x h1 h W=>v29 x h1 h W);go_enter Tryz.func190,Tryz.ntmps190;go_wp2_with fail;go_loopw [4] (fun _ w'=>∃ k:Nat,k<=s.size/\w'=w.iter s k/\Hid (∀ d∈(sl s).take k,isD d)) (fun _ w'=>s.size-w'.iterPos w.heap.size)
 case atStart=>exact⟨0,Nat.zero_le _,rfl,fun d hd=>by simp at hd⟩
 case round =>
  obtain⟨k,hk,rfl,HD⟩:=hrel;by_cases hp:k<s.size
  ·have hxa:=HAT.out k hp;have HG:=HGT.out k hp;obtain⟨x,hx⟩:∃ x,(sl s).getD k 0=x:=⟨_,rfl⟩
   rw [hx] at hxa HG;have HGX:=kf HG;clear hx HG;by_cases hd:isD x
   ·have hnx:∀ ty,(Instr.next (.pointer (some ⟨w.heap.size,0,none⟩)) true ty).run Tryz.prog (w.iter s k)=.ok (.tuple #[.bool true,.int .i64 k,.int .i32 (x:Nat)]) (w.iter s (k+1)):=fun ty=>by
     rw [run_next_ascii w s k ty hp (by unfold isD at hd;omega),hxa]
    clear hxa;have HDX:=kf hd;clear hd;go_wp2_with (go_at_call 214;refine(HY.out _ HDX.out _).mono ?_;rintro e w' ⟨rfl,rfl⟩);go_roundw
    case rel =>
     refine⟨k+1,by omega,rfl,?_⟩;show ∀ d∈(sl s).take (k+1),isD d;rw [z1k HGX.out];intro d hd;rcases List.mem_append.1 hd with h|h
     ·exact HD.out d h
     ·rw [List.mem_singleton] at h;subst h;exact HDX.out
    case measure=>simp;omega
   ·have HB:Hid (decide (z74 (sl s))=false):=by
     show _=_;rw [decide_eq_false_iff_not];exact fun h=>hd (h x (List.mem_of_getElem? HGX.out))
    obtain⟨r,p,hr1,hr2,hnx⟩:∃ r p:Nat,r<=2147483647/\¬isD r/\∀ ty,(Instr.next (.pointer (some ⟨w.heap.size,0,none⟩)) true ty).run Tryz.prog (w.iter s k)=.ok (.tuple #[.bool true,.int .i64 k,.int .i32 (r:Nat)]) (w.iter s p):=by
     by_cases ha:x<128
     ·exact⟨x,k+1,by omega,hd,fun ty=>by rw [run_next_ascii w s k ty hp (by omega),hxa]⟩
     ·refine⟨(Utf8.decode s k).1,k+(Utf8.decode s k).2,decode_le s k,?_,fun ty=>run_next_any w s k ty hp⟩;have:=(decode_high s k hp (by omega)).1;unfold isD;omega
    clear hxa hd;have HR:=kf hr2;clear hr2;go_wp2_with (go_at_call 214;refine(HN.out _ hr1 HR.out _).mono ?_;rintro e w' ⟨⟨d,rfl⟩,rfl⟩);go_ret;rw [HB.out];exact⟨rfl,z66 _⟩
  ·obtain rfl:s.size=k:=by omega
   have HB:Hid (decide (z74 (sl s))=true):=by
    show _=_;rw [decide_eq_true_iff];have h:=HD.out;rwa [List.take_of_length_le (by rw [z1a];exact Nat.le_refl _)] at h
   have hnx:∀ ty,(Instr.next (.pointer (some ⟨w.heap.size,0,none⟩)) true ty).run Tryz.prog (w.iter s s.size)=_:=fun ty=>run_next_end w s s.size ty hp;go_wp2_with fail;go_ret;rw [HB.out];exact⟨rfl,z66 _⟩
theorem y0o (s:ByteArray) (w:World) (hl:s.size<=1000000) (hD:z74 (sl s)) :
  Calls Tryz.prog 191 #[.string s] w fun e w'=>e=.returned (.int .i64 ((min (z45 0 (sl s)) 2147483648:Nat):Int))/\Chg NoS w w':=by
 have HDD:=kf hD;clear hD;have HAT:=kf (fun k (h2:k<s.size)=>z5t s k h2);have HGT:=kf (fun k (h2:k<s.size)=>z9s (s:=s) (k:=k) h2);have HY:=kf (fun x h W=>z71 x h W);go_enter Tryz.func191,Tryz.ntmps191;go_wp2_with fail;go_loopw [3] (fun vn w'=>∃ k n:Nat,k<=s.size/\w'=w.iter s k/\vn=.int .i64 (n:Nat)/\Hid (n=min (z45 0 ((sl s).take k)) 2147483648)/\n<=2147483648) (fun _ w'=>s.size-w'.iterPos w.heap.size)
 case atStart=>exact⟨0,0,Nat.zero_le _,rfl,rfl,by show 0=_;simp [z45],by omega⟩
 case round =>
  obtain⟨k,n,hk,rfl,rfl,HN,hn⟩:=hrel;by_cases hp:k<s.size
  ·have hxa:=HAT.out k hp;have HG:=HGT.out k hp;obtain⟨x,hx⟩:∃ x,(sl s).getD k 0=x:=⟨_,rfl⟩
   rw [hx] at hxa HG;have HGX:=kf HG;have hd:isD x:=HDD.out x (List.mem_of_getElem? HG);clear hx HG
   have hnx:∀ ty,(Instr.next (.pointer (some ⟨w.heap.size,0,none⟩)) true ty).run Tryz.prog (w.iter s k)=.ok (.tuple #[.bool true,.int .i64 k,.int .i32 (x:Nat)]) (w.iter s (k+1)):=fun ty=>by
    rw [run_next_ascii w s k ty hp (by unfold isD at hd;omega),hxa]
   have HDX:=kf hd;obtain⟨y,hy⟩:∃ y,x-48=y:=⟨_,rfl⟩
   have hy9:y<=9:=by unfold isD at hd;omega
   have HYY:=kf (show ∀ W,Calls Tryz.prog 214 #[.int .i32 (x:Nat)] W fun e w'=>e=.returned (.tuple #[.int .i64 (y:Int),.bool true])/\w'=W from fun W=>by rw [<- hy];exact HY.out x hd W)
   have HV:Hid (z45 0 ((sl s).take (k+1))=10*z45 0 ((sl s).take k)+y):=by
    show _=_;rw [z1k HGX.out,y25,<- hy];rfl
   clear hxa hd hy;obtain⟨m,hm⟩:∃ m:Nat,m=min (10*n+y) 2147483648:=⟨_,rfl⟩
   have e1:min ((10:Int)*(n:Int)+(y:Int)) 2147483648=(m:Int):=by omega
   have hm2:m<=2147483648:=by omega
   have HM:=kf hm;clear hm;go_wp2_with (go_at_call 214;refine(HYY.out _).mono ?_;rintro e w' ⟨rfl,rfl⟩);go_roundw
   case rel=>exact⟨k+1,m,by omega,rfl,by have h:=HM.out;first|(simp;done)|(simp;split<;>omega),by show m=_;have h1:=HV.out;have h2:=HM.out;have h3:=HN.out;omega,hm2⟩
   case measure=>simp;omega
  ·obtain rfl:s.size=k:=by omega
   have hnx:∀ ty,(Instr.next (.pointer (some ⟨w.heap.size,0,none⟩)) true ty).run Tryz.prog (w.iter s s.size)=_:=fun ty=>run_next_end w s s.size ty hp;go_wp2_with fail;go_ret;refine⟨?_,z66 _⟩;have h:=HN.out;rw [List.take_of_length_le (by rw [z1a];exact Nat.le_refl _)] at h;rw [<- h];rfl
theorem y7i:∀ (l:List Nat) (j c:Nat),z63 j (l++[c])=z63 j l+100000 / 10 ^ min (j+l.length) 6*(c-48):=by
 intro l;induction l with
 |nil=>intro j c;simp [z63]
 |cons x l ih =>
  intro j c;rw [List.cons_append,z63,z63,ih,List.length_cons,show j+1+l.length=j+(l.length+1) from by omega];omega
theorem z81:∀ (l:List Nat) (j:Nat),(∀ d∈l,isD d)->z63 j l+10 ^ (6-min (j+l.length) 6)<=10 ^ (6-min j 6):=by
 intro l;induction l with
 |nil=>intro j _;simp [z63]
 |cons x l ih =>
  intro j h;have h1:=ih (j+1) (fun d hd=>h d (List.mem_cons_of_mem _ hd));have hx:=h x (List.mem_cons_self ..);unfold isD at hx;rw [z63,List.length_cons,show j+(l.length+1)=j+1+l.length from by omega];by_cases hj:j<=5
  ·have h2:=y7h j hj;have h3:100000 / 10 ^ min j 6*(x-48)<=100000 / 10 ^ min j 6*9:=Nat.mul_le_mul_left _ (by omega);omega
  ·have e1:min j 6=6:=by omega
   have e2:min (j+1) 6=6:=by omega
   have e3:100000 / 10 ^ 6=0:=by decide
   rw [e2] at h1;rw [e1,e3];omega
theorem y5v (k:Nat):100000 / 10 ^ min k 6 / 10=100000 / 10 ^ min (k+1) 6:=by
 by_cases h:k<6
 ·rcases k with _|_|_|_|_|_|k;all_goals first|decide|omega
 ·rw [show min k 6=6 from by omega,show min (k+1) 6=6 from by omega]
theorem v4q (s:ByteArray) (w:World) (hl:s.size<=1000000) (hD:z74 (sl s)) :
  Calls Tryz.prog 230 #[.string s] w fun e w'=>e=.returned (.int .i64 ((z63 0 (sl s):Nat):Int))/\Chg NoS w w':=by
 have HDD:=kf hD;clear hD;have HAT:=kf (fun k (h2:k<s.size)=>z5t s k h2);have HGT:=kf (fun k (h2:k<s.size)=>z9s (s:=s) (k:=k) h2);have HY:=kf (fun x h W=>z71 x h W);have HSZ:=kf (z1a s);go_enter Tryz.func230,Tryz.ntmps230;go_wp2_with fail;go_loopw [3,4] (fun vn vu w'=>∃ k n u:Nat,k<=s.size/\w'=w.iter s k/\vn=.int .i64 (n:Nat)/\vu=.int .i64 (u:Nat)/\Hid (n=z63 0 ((sl s).take k))/\n<=1000000/\u<=1000000/\Hid (u / 10=100000 / 10 ^ min k 6)) (fun _ _ w'=>s.size-w'.iterPos w.heap.size)
 case atStart=>exact⟨0,0,1000000,Nat.zero_le _,rfl,rfl,rfl,by show 0=_;simp [z63],by omega,by omega,by show _=_;decide⟩
 case round =>
  obtain⟨k,n,u,hk,rfl,rfl,rfl,HN,hn,hu,HU⟩:=hrel;by_cases hp:k<s.size
  ·have hxa:=HAT.out k hp;have HG:=HGT.out k hp;obtain⟨x,hx⟩:∃ x,(sl s).getD k 0=x:=⟨_,rfl⟩
   rw [hx] at hxa HG;have HGX:=kf HG;have hd:isD x:=HDD.out x (List.mem_of_getElem? HG);clear hx HG
   have hnx:∀ ty,(Instr.next (.pointer (some ⟨w.heap.size,0,none⟩)) true ty).run Tryz.prog (w.iter s k)=.ok (.tuple #[.bool true,.int .i64 k,.int .i32 (x:Nat)]) (w.iter s (k+1)):=fun ty=>by
    rw [run_next_ascii w s k ty hp (by unfold isD at hd;omega),hxa]
   have HDX:=kf hd;obtain⟨y,hy⟩:∃ y,x-48=y:=⟨_,rfl⟩
   have hy9:y<=9:=by unfold isD at hd;omega
   have HYY:=kf (show ∀ W,Calls Tryz.prog 214 #[.int .i32 (x:Nat)] W fun e w'=>e=.returned (.tuple #[.int .i64 (y:Int),.bool true])/\w'=W from fun W=>by rw [<- hy];exact HY.out x hd W);obtain⟨v,hv⟩:∃ v:Nat,u / 10=v:=⟨_,rfl⟩
   have HV:Hid (z63 0 ((sl s).take (k+1))=z63 0 ((sl s).take k)+v*y):=by
    show _=_;rw [z1k HGX.out,y7i,List.length_take,show 0+min k (sl s).length=k from by rw [HSZ.out];omega,<- HU.out,hv,hy]
   have HVN:Hid (v / 10=100000 / 10 ^ min (k+1) 6):=by
    show _=_;rw [<- y5v,<- HU.out,hv]
   have HVB:Hid (z63 0 ((sl s).take (k+1))<=1000000):=by
    have h:=z81 ((sl s).take (k+1)) 0 (fun d hd=>HDD.out d (List.take_subset _ _ hd));have e:(10:Nat) ^ (6-min 0 6)=1000000:=by decide
    rw [e] at h;exact Nat.le_trans (Nat.le_add_right _ _) h
   have hv6:v<=100000:=by omega
   have ed:(u:Int).tdiv 10=(v:Int):=by rw [Int.tdiv_eq_ediv_of_nonneg (by omega)];omega
   have ed2:(u:Int) / 10=(v:Int):=by omega
   clear hxa hd hy hv;obtain⟨z,hz⟩:∃ z:Nat,z=v*y:=⟨_,rfl⟩
   have hz9:z<=900000:=by rw [hz];exact Nat.le_trans (Nat.mul_le_mul hv6 hy9) (by omega)
   have ez:(y:Int)*(v:Int)=(z:Int):=by rw [hz,Int.natCast_mul,Int.mul_comm]
   have HZ:=kf hz;clear hz;go_wp2_with (go_at_call 214;refine(HYY.out _).mono ?_;rintro e w' ⟨rfl,rfl⟩);go_roundw
   case rel=>exact⟨k+1,n+z,v,by omega,rfl,by go_num,by go_num,by show n+z=_;have h1:=HV.out;have h2:=HZ.out;have h3:=HN.out;omega,by have h1:=HV.out;have h2:=HZ.out;have h3:=HN.out;have h4:=HVB.out;omega,by omega,HVN⟩
   case measure=>simp;omega
  ·obtain rfl:s.size=k:=by omega
   have hnx:∀ ty,(Instr.next (.pointer (some ⟨w.heap.size,0,none⟩)) true ty).run Tryz.prog (w.iter s s.size)=_:=fun ty=>run_next_end w s s.size ty hp;go_wp2_with fail;go_ret;refine⟨?_,z66 _⟩;have h:=HN.out;rw [List.take_of_length_le (by rw [z1a];exact Nat.le_refl _)] at h;rw [<- h];rfl
theorem z7o {s:ByteArray} (h:s.size≠0):s.toList.isEmpty=false:=by
 have h:=z7n h;cases hl:s.toList with
 |nil=>exact absurd hl h
 |cons x l=>rfl
theorem z85 (s:ByteArray) (w:World) (hl:s.size<=1000000) :
  Calls Tryz.prog 153 #[.string s] w fun e w'=>e=.returned (.tuple #[.int .i64 (z77 (sl s)).1,.int .i64 (z77 (sl s)).2])/\Chg NoS w w':=by
 by_cases hs:s.size=0
 ·obtain rfl:=z0t hs;clear hs hl;go_enter Tryz.func153,Tryz.ntmps153;go_wp2_with fail;go_ret2;exact⟨rfl,Chg.refl _ _⟩
 ·have u1:=z7o hs
  have HNE:Hid (sl s≠[]):=fun h=>by
   have h2:=z1a s;rw [h] at h2;exact hs h2.symm
  obtain⟨b,hb⟩:∃ b,decide (z74 (sl s))=b:=⟨_,rfl⟩
  have HA:=kf (z97 s w hl);rw [hb] at HA;have HC:=kf (fun W (h:z74 (sl s))=>y0o s W hl h);clear hs hl;cases b with
  |false =>
   have HB:Hid (z77 (sl s)=(0,11)):=v86 (.inr (by
    have h:=of_decide_eq_false hb;unfold z74 at h;simpa using h))
   clear hb;go_enter Tryz.func153,Tryz.ntmps153;go_wp2_with (go_at_call 190;refine HA.out.mono ?_;rintro e w2 ⟨rfl,hc2⟩;have HC2:=kf hc2;clear hc2);go_ret2;rw [HB.out];exact⟨rfl,HC2.out⟩
  |true =>
   have HD:=kf (of_decide_eq_true hb);clear hb;obtain⟨v,hv⟩:∃ v,z45 0 (sl s)=v:=⟨_,rfl⟩
   have HV:=kf hv;obtain⟨m,hm⟩:∃ m:Nat,min v 2147483648=m:=⟨_,rfl⟩
   have HN:Hid (∀ W,Calls Tryz.prog 191 #[.string s] W fun e w'=>e=.returned (.int .i64 (m:Int))/\Chg NoS W w'):=fun W=>by
    rw [<- hm,<- hv];exact HC.out W HD.out
   clear hv HC;by_cases hb:2147483647<m
   ·have d1:decide ((2147483647:Int)<m)=true:=by simp;omega
    have d1':decide (2147483647<m)=true:=by simp;omega
    have HB:Hid (z77 (sl s)=(0,5)):=v85 HNE.out HD.out (by rw [HV.out];omega);clear hm hb;go_enter Tryz.func153,Tryz.ntmps153;go_wp2_with first|(go_at_call 190;refine HA.out.mono ?_;rintro e w2 ⟨rfl,hc2⟩;have HC2:=kf hc2;clear hc2)|(go_at_call 191;refine(HN.out _).mono ?_;rintro e w3 ⟨rfl,hc3⟩;have HC3:=kf (HC2.out.trans hc3 (fun _ _ h=>h));clear hc3)
    go_ret2;rw [HB.out];exact⟨rfl,HC3.out⟩
   ·have d1:decide ((2147483647:Int)<m)=false:=by simp;omega
    have d1':decide (2147483647<m)=false:=by simp;omega
    obtain rfl:m=v:=by omega
    have HB:Hid (z77 (sl s)=((m:Int),0)):=by
     have h:=v97 HNE.out HD.out (by rw [HV.out];omega);rw [HV.out] at h;exact h
    clear hm hb;go_enter Tryz.func153,Tryz.ntmps153;go_wp2_with first|(go_at_call 190;refine HA.out.mono ?_;rintro e w2 ⟨rfl,hc2⟩;have HC2:=kf hc2;clear hc2)|(go_at_call 191;refine(HN.out _).mono ?_;rintro e w3 ⟨rfl,hc3⟩;have HC3:=kf (HC2.out.trans hc3 (fun _ _ h=>h));clear hc3)
    go_ret2;rw [HB.out];exact⟨rfl,HC3.out⟩
theorem y1d (c:UInt8) (l:List UInt8):Lib.hasPrefix l [c]=decide ((l.map UInt8.toNat).head?=some c.toNat):=by
 rcases l with _|⟨x,l⟩
 ·rfl
 ·show(c==x&&true)=_;rw [List.map_cons,List.head?_cons,Bool.and_true];by_cases h:c=x
  ·subst h;simp
  ·have h2:¬x.toNat=c.toNat:=fun h2=>h (UInt8.toNat_inj.1 h2).symm;simp [h,h2]
theorem y2w (c:UInt8) (l:List UInt8):(⟨(Lib.trimPrefix l [c]).toArray⟩:ByteArray)=sb (if (l.map UInt8.toNat).head?=some c.toNat then(l.map UInt8.toNat).tail else l.map UInt8.toNat):=by
 rw [v1c];unfold Lib.trimPrefix;rw [y1d];by_cases h:(l.map UInt8.toNat).head?=some c.toNat
 ·rw [if_pos h,if_pos (by simpa using h)];rcases l with _|⟨x,l⟩
  ·rfl
  ·rfl
 ·rw [if_neg h,if_neg (by simpa using h)]
theorem z3v {l:List Nat} (h:l.head?=some 45):signed l=(true,l.tail):=by
 rcases l with _|⟨x,l⟩
 ·cases h
 ·simp at h;subst h;rfl
theorem z3w {l:List Nat} (h:¬l.head?=some 45):signed l=(false,if l.head?=some 43 then l.tail else l):=by
 rcases l with _|⟨x,l⟩
 ·rfl
 ·simp at h;rw [signed];by_cases h2:x=43
  ·subst h2;rfl
  ·rw [if_neg h2,if_neg h,if_neg (by simpa using h2)]
theorem y68 {l:List Nat} (h:∀ d∈l,d<256):∀ d∈(signed l).2,d<256:=by
 by_cases h1:l.head?=some 45
 ·rw [z3v h1];exact fun d hd=>h d (List.mem_of_mem_tail hd)
 ·rw [z3w h1];intro d hd;simp only at hd;split at hd
  ·exact h d (List.mem_of_mem_tail hd)
  ·exact h d hd
theorem y4c (l:List Nat):(signed l).2.length<=l.length:=by
 by_cases h1:l.head?=some 45
 ·rw [z3v h1];simp
 ·rw [z3w h1];simp only;split<;>simp
theorem z9g (s:ByteArray) (w:World) :
  Calls Tryz.prog 229 #[.string s] w fun e w'=>e=.returned (.tuple #[.string (sb (signed (sl s)).2),.bool (signed (sl s)).1])/\w'=w:=by
 have HP:=kf (fun W=>Go.Proofs.Tryz.strings_CutPrefix s ⟨#[45]⟩ W);have HT:=kf (fun W=>Go.Proofs.Tryz.strings_TrimPrefix s ⟨#[43]⟩ W);by_cases h:(sl s).head?=some 45
 ·have HP2:Hid (∀ W,Calls Tryz.prog 237 #[.string s,.string ⟨#[45]⟩] W fun e w'=>e=.returned (.tuple #[.string (sb (sl s).tail),.bool true])/\w'=W):=fun W =>
   (HP.out W).mono fun e w' hh=>by
    obtain⟨he,hw⟩:=hh;refine⟨?_,hw⟩;rw [he,y2w,y1d,decide_eq_true (show(s.data.toList.map UInt8.toNat).head?=some (45:UInt8).toNat from h),if_pos (show(s.data.toList.map UInt8.toNat).head?=some (45:UInt8).toNat from h)];rfl
  have HS:=kf (z3v h);clear h HP HT;go_enter Tryz.func229,Tryz.ntmps229;go_wp2_with (go_at_call 237;refine(HP2.out _).mono ?_;rintro e w2 ⟨rfl,rfl⟩);go_ret2;rw [HS.out];exact⟨rfl,rfl⟩
 ·obtain⟨t,HP2⟩:∃ t,Hid (∀ W,Calls Tryz.prog 237 #[.string s,.string ⟨#[45]⟩] W fun e w'=>e=.returned (.tuple #[.string t,.bool false])/\w'=W):=⟨_,fun W =>
   (HP.out W).mono fun e w' hh=>by
    obtain⟨he,hw⟩:=hh;refine⟨?_,hw⟩;rw [he,y1d,decide_eq_false (show ¬(s.data.toList.map UInt8.toNat).head?=some (45:UInt8).toNat from h)]⟩
  have HT2:Hid (∀ W,Calls Tryz.prog 238 #[.string s,.string ⟨#[43]⟩] W fun e w'=>e=.returned (.string (sb (if (sl s).head?=some 43 then(sl s).tail else sl s)))/\w'=W):=fun W =>
   (HT.out W).mono fun e w' hh=>by
    obtain⟨he,hw⟩:=hh;refine⟨?_,hw⟩;rw [he,y2w];rfl
  have HS:=kf (z3w h);obtain⟨u,hu⟩:∃ u,sb (if (sl s).head?=some 43 then(sl s).tail else sl s)=u:=⟨_,rfl⟩
  rw [hu] at HT2;have HU:=kf hu;clear h HP HT hu;go_enter Tryz.func229,Tryz.ntmps229;go_wp2_with first|(go_at_call 237;refine(HP2.out _).mono ?_;rintro e w2 ⟨rfl,rfl⟩)|(go_at_call 238;refine(HT2.out _).mono ?_;rintro e w2 ⟨rfl,rfl⟩)
  go_ret2;rw [HS.out,<- HU.out];exact⟨rfl,rfl⟩
def z43:List Nat->List Nat × List Nat × Bool
 |[]=>([],[],false)
 |c::l=>if c=46 then([],l,true) else(c::(z43 l).1,(z43 l).2.1,(z43 l).2.2)
theorem v87 (l:List Nat):z47 46 l=z43 l:=by
 induction l with
 |nil=>rfl
 |cons c l ih=>rw [z47,z43,ih]
theorem z68 (l:List Nat):(z43 l).2.2=false/\l=(z43 l).1/\(z43 l).2.1=[]\/(z43 l).2.2=true/\l=(z43 l).1++46::(z43 l).2.1:=by
 induction l with
 |nil=>exact .inl ⟨rfl,rfl,rfl⟩
 |cons c l ih =>
  rw [z43];by_cases h:c=46
  ·subst h;rw [if_pos rfl];exact .inr ⟨rfl,rfl⟩
  ·rw [if_neg h];rcases ih with⟨h1,h2,h3⟩|⟨h1,h2⟩
   ·exact .inl ⟨h1,by simp only;rw [<- h2],h3⟩
   ·refine .inr ⟨h1,?_⟩;simp only [List.cons_append];rw [<- h2]
theorem v5i (l:List Nat):∀ d∈(z43 l).1,d≠46:=by
 induction l with
 |nil=>intro d hd;cases hd
 |cons c l ih =>
  rw [z43];by_cases h:c=46
  ·rw [if_pos h];intro d hd;cases hd
  ·rw [if_neg h];intro d hd;rcases List.mem_cons.1 hd with rfl|hd
   ·exact h
   ·exact ih d hd
theorem v2d (l:List Nat):(z43 l).1.length<=l.length/\(z43 l).2.1.length<=l.length:=by
 rcases z68 l with⟨_,h2,h3⟩|⟨_,h2⟩
 ·rw [h3];exact⟨by rw [<- h2];exact Nat.le_refl _,Nat.zero_le _⟩
 ·have h:=congrArg List.length h2;rw [List.length_append,List.length_cons] at h;omega
theorem v5j {l:List Nat} (h:∀ d∈l,d<256):(∀ d∈(z43 l).1,d<256)/\∀ d∈(z43 l).2.1,d<256:=by
 rcases z68 l with⟨_,h2,h3⟩|⟨_,h2⟩
 ·rw [h3];exact⟨by rw [<- h2];exact h,fun d hd=>by cases hd⟩
 ·exact⟨fun d hd=>h d (by rw [h2];exact List.mem_append_left _ hd),fun d hd=>h d (by rw [h2];exact List.mem_append_right _ (List.mem_cons_of_mem _ hd))⟩
theorem v5h (m:List Nat) (hb:∀ d∈m,d<256) (hl:m.length<=1000000) (w:World) :
  Calls Tryz.prog 210 #[.string (sb m),.string ⟨#[46]⟩] w fun e w'=>e=.returned (.tuple #[.string (sb (z43 m).1),.string (sb (z43 m).2.1),.bool (z43 m).2.2])/\Chg NoS w w':=by
 have h:=y3j 46 m hb hl w;rw [show(46:UInt8).toNat=46 from rfl,v87] at h;exact h
theorem v4i:∀ (l:List Nat) (s:Ns),(∃ d∈l,¬isD d/\d≠46)->z18 s l=none:=by
 intro l;induction l with
 |nil=>rintro s ⟨d,hd,_⟩;cases hd
 |cons c l ih =>
  rintro s ⟨d,hd,h1,h2⟩;rw [z18];rcases List.mem_cons.1 hd with rfl|hd
  ·unfold z17;rw [if_neg (fun h=>h2 h.1),if_neg h1]
  ·cases z17 s c with
   |none=>rfl
   |some t=>exact ih t ⟨d,hd,h1,h2⟩
theorem v15:∀ (l:List Nat) (s:Ns) (j:Nat),s.fr=some j->(∃ d∈l,¬isD d)->z18 s l=none:=by
 intro l;induction l with
 |nil=>rintro s j _ ⟨d,hd,_⟩;cases hd
 |cons c l ih =>
  rintro s j hf ⟨d,hd,h1⟩;rw [z18];rcases List.mem_cons.1 hd with rfl|hd
  ·unfold z17;rw [if_neg (fun h=>by rw [hf] at h;cases h.2),if_neg h1]
  ·unfold z17;rw [if_neg (fun h=>by rw [hf] at h;cases h.2)];by_cases hc:isD c
   ·rw [if_pos hc,hf];exact ih _ (j+1) rfl ⟨d,hd,h1⟩
   ·rw [if_neg hc]
theorem v4h:∀ (l:List Nat) (s:Ns),z74 l->s.fr=none->s.over=true->z18 s l=some { s with digits:=s.digits+l.length }:=by
 intro l;induction l with
 |nil=>intro s _ _ _;rfl
 |cons c l ih =>
  intro s h hf ho;have hc:=h c (List.mem_cons_self ..)
  have hst:z17 s c=some { s with digits:=s.digits+1 }:=by
   unfold z17;rw [if_neg (by unfold isD at hc;omega),if_pos hc,hf];simp only [ho,if_true,Bool.true_or]
  rw [z18,hst];simp only;rw [ih { s with digits:=s.digits+1 } (fun d hd=>h d (List.mem_cons_of_mem _ hd)) hf ho];simp only [List.length_cons];first|done|(congr 2;done)|(congr 2;omega)
theorem v7a:∀ (l:List Nat) (s:Ns),z74 l->s.fr=none->s.over=false->2147483647<z45 s.n l->∃ n,z18 s l=some { s with n:=n,digits:=s.digits+l.length,over:=true }\/s.n > 2147483647:=by
 intro l;induction l with
 |nil=>intro s _ _ _ h;exact⟨0,.inr h⟩
 |cons c l ih =>
  intro s h hf ho hv;have hc:=h c (List.mem_cons_self ..);by_cases hb:2147483647<10*s.n+(c-48)
  ·have hst:z17 s c=some { s with n:=10*s.n+(c-48),digits:=s.digits+1,over:=true }:=by
    unfold z17;rw [if_neg (by unfold isD at hc;omega),if_pos hc,hf];simp only [ho,Bool.false_eq_true,if_false,Bool.false_or];rw [decide_eq_true hb]
   refine⟨10*s.n+(c-48),.inl ?_⟩;rw [z18,hst];simp only;rw [v4h l { s with n:=10*s.n+(c-48),digits:=s.digits+1,over:=true } (fun d hd=>h d (List.mem_cons_of_mem _ hd)) hf rfl];simp only [List.length_cons];first|done|(congr 2;done)|(congr 2;omega)
  ·have hst:z17 s c=some { s with n:=10*s.n+(c-48),digits:=s.digits+1,over:=false }:=by
    unfold z17;rw [if_neg (by unfold isD at hc;omega),if_pos hc,hf];simp only [ho,Bool.false_eq_true,if_false,Bool.false_or];rw [decide_eq_false hb]
   obtain⟨n,h1|h1⟩:=ih { s with n:=10*s.n+(c-48),digits:=s.digits+1,over:=false } (fun d hd=>h d (List.mem_cons_of_mem _ hd)) hf rfl hv
   ·refine⟨n,.inl ?_⟩;rw [z18,hst];simp only;rw [h1];simp only [List.length_cons];first|done|(congr 2;done)|(congr 2;omega)
   ·exact absurd h1 hb
def xP (a b:List Nat) (f:Bool):Nat:=if f then min (z45 0 a) 2147483648*1000000+z63 0 b else min (z45 0 a) 2147483648
def mP (f:Bool):Nat:=if f then 2147483647000000 else 2147483647
def v9f (a b:List Nat):Prop:=(a=[]/\b=[])\/¬z74 a\/¬z74 b
def z7c (sg:Bool) (a b:List Nat) (f:Bool):Int × Nat × Int :=
 if xP a b f<=mP f then(0,if f then 3 else 2,if sg then -(xP a b f:Int) else(xP a b f:Int)) else(5,0,0)
theorem v35 {b:List Nat} (h:z74 b):z63 0 b<1000000:=by
 have h1:=z81 b 0 h;have h2:0<10 ^ (6-min (0+b.length) 6):=Nat.pow_pos (by omega);have e:(10:Nat) ^ (6-min 0 6)=1000000:=by decide
 rw [e] at h1;exact Nat.lt_of_lt_of_le (Nat.lt_add_of_pos_right h2) h1
theorem z7x {l:List Nat} (h:z18 ns0 (signed l).2=none):z0j l=(11,0,0):=by
 unfold z0j;rw [h]
theorem y09 {l:List Nat} {t:Ns} (h:z18 ns0 (signed l).2=some t) (hd:t.digits=0):z0j l=(11,0,0):=by
 unfold z0j;rw [h];simp only;rw [if_pos hd]
theorem z5f {l:List Nat} {t:Ns} (h:z18 ns0 (signed l).2=some t) (hd:t.digits≠0) (ho:t.over=true\/(t.fr≠none/\t.n=2147483647/\0<t.parts)):z0j l=(5,0,0):=by
 unfold z0j;rw [h];simp only;rw [if_neg hd,if_pos ho]
theorem y77 {l:List Nat} {t:Ns} (h:z18 ns0 (signed l).2=some t) (hd:t.digits≠0) (ho:t.over=false) (hf:t.fr=none):z0j l=(0,2,if (signed l).1 then 0-(t.n:Int) else(t.n:Int)):=by
 unfold z0j;rw [h];simp only;rw [if_neg hd,if_neg (by rintro(h|h);rw [ho] at h;cases h;exact h.1 hf),if_pos hf,if_pos hf]
theorem y4q {l:List Nat} {t:Ns} (h:z18 ns0 (signed l).2=some t) (hd:t.digits≠0) (ho:¬(t.over=true\/(t.fr≠none/\t.n=2147483647/\0<t.parts))) (hf:t.fr≠none):z0j l=(0,3,if (signed l).1 then 0-((1000000*t.n+t.parts:Nat):Int) else((1000000*t.n+t.parts:Nat):Int)):=by
 unfold z0j;rw [h];simp only;rw [if_neg hd,if_neg ho,if_neg hf,if_neg hf]
theorem v4f (l:List Nat) (h:v9f (z43 (signed l).2).1 (z43 (signed l).2).2.1):z0j l=(11,0,0):=by
 have hno:=v5i (signed l).2;have happ:=z68 (signed l).2;generalize hc:z43 (signed l).2=t at h hno happ;obtain⟨a,b,f⟩:=t;simp only at hno happ h;by_cases hA:z74 a
 ·rcases h with⟨rfl,rfl⟩|h|hB
  ·rcases happ with⟨_,h2,_⟩|⟨_,h2⟩
   ·exact y09 (t:=ns0) (by rw [h2];rfl) rfl
   ·exact y09 (t:={ ns0 with fr:=some 0 }) (by rw [h2];rfl) rfl
  ·exact absurd hA h
  ·have hB':∃ d∈b,¬isD d:=by unfold z74 at hB;simpa using hB
   rcases happ with⟨_,h2,rfl⟩|⟨_,h2⟩
   ·exact absurd (fun d hd=>by cases hd) hB
   ·refine z7x ?_;rw [h2,z6r];cases hn:z18 ns0 a with
    |none=>rfl
    |some t =>
     simp only [Option.bind_some];rw [z18];unfold z17;by_cases hf:t.fr=none
     ·rw [if_pos ⟨rfl,hf⟩];simp only;rw [v15 b _ 0 rfl hB']
     ·rw [if_neg (fun h=>hf h.2),if_neg (by decide)]
 ·have hA':∃ d∈a,¬isD d/\d≠46:=by
   have:∃ d∈a,¬isD d:=by unfold z74 at hA;simpa using hA
   obtain⟨d,hd,h⟩:=this;exact⟨d,hd,h,hno d hd⟩
  refine z7x (v4i _ ns0 ?_);obtain⟨d,hd,h⟩:=hA';rcases happ with⟨_,h2,_⟩|⟨_,h2⟩
  ·rw [h2];exact⟨d,hd,h⟩
  ·rw [h2];exact⟨d,List.mem_append_left _ hd,h⟩
theorem v8x (l:List Nat) (h:¬v9f (z43 (signed l).2).1 (z43 (signed l).2).2.1):z0j l=z7c (signed l).1 (z43 (signed l).2).1 (z43 (signed l).2).2.1 (z43 (signed l).2).2.2:=by
 have happ:=z68 (signed l).2;generalize hc:z43 (signed l).2=t at h happ;obtain⟨a,b,f⟩:=t;simp only at happ h ⊢;have hE:¬(a=[]/\b=[]):=fun h2=>h (.inl h2);have hA:z74 a:=Decidable.byContradiction fun h2=>h (.inr (.inl h2));have hB:z74 b:=Decidable.byContradiction fun h2=>h (.inr (.inr h2));have hml:=v35 hB;have hne:¬(a.length=0/\b.length=0):=fun h2=>hE ⟨List.eq_nil_of_length_eq_zero h2.1,List.eq_nil_of_length_eq_zero h2.2⟩;have hn0:ns0.digits=0:=rfl;obtain⟨v,hv0⟩:∃ v,z45 0 a=v:=⟨_,rfl⟩
 obtain⟨p,hp0⟩:∃ p,z63 0 b=p:=⟨_,rfl⟩
 rw [hp0] at hml
 have hstep:∀ t:Ns,t.fr=none->z17 t 46=some { t with fr:=some 0 }:=fun t ht=>by
  unfold z17;rw [if_pos ⟨rfl,ht⟩]
 by_cases hv:v<=2147483647
 ·have ha:=y78 a ns0 hA rfl rfl (by show z45 0 a<=_;rw [hv0];exact hv);rw [show z45 ns0.n a=v from hv0] at ha;rcases happ with⟨rfl,h2,rfl⟩|⟨rfl,h2⟩
  ·have hx:xP a [] false=v:=by
    show min (z45 0 a) 2147483648=v;rw [hv0];omega
   have hle:xP a [] false<=mP false:=by rw [hx];exact hv
   rw [z7c,if_pos hle,hx,y77 (l:=l) (by rw [h2];exact ha) (by show ns0.digits+a.length≠0;intro h3;exact hne ⟨by omega,rfl⟩) rfl rfl];cases (signed l).1
   ·rfl
   ·show((0:Int),(2:Nat),(0:Int)-(v:Int))=(0,2,-(v:Int));rw [Int.zero_sub]
  ·have hall:z18 ns0 (signed l).2=some { ns0 with n:=v,digits:=ns0.digits+a.length+b.length,fr:=some (0+b.length),parts:=ns0.parts+p }:=by
    rw [h2,z6r,ha];simp only [Option.bind_some];rw [z18,hstep _ rfl];simp only;rw [y34 b _ 0 hB rfl,hp0]
   have hx:xP a b true=v*1000000+p:=by
    show min (z45 0 a) 2147483648*1000000+z63 0 b=_;rw [hv0,hp0,show min v 2147483648=v from by omega]
   by_cases hg:v=2147483647/\0<p
   ·have hle:¬xP a b true<=mP true:=by rw [hx];show ¬_<=2147483647000000;omega
    rw [z7c,if_neg hle];exact z5f hall (by show ns0.digits+a.length+b.length≠0;omega) (.inr ⟨by simp,hg.1,by show 0<ns0.parts+p;omega⟩)
   ·have hle:xP a b true<=mP true:=by rw [hx];show _<=2147483647000000;omega
    rw [z7c,if_pos hle,hx,y4q hall (by show ns0.digits+a.length+b.length≠0;omega) (by
     rintro(h|⟨_,h3,h4⟩)
     ·cases h
     ·refine hg ⟨h3,?_⟩;have h4:0<ns0.parts+p:=h4;have h5:ns0.parts=0:=rfl;omega) (by simp)]
    have e:1000000*v+(ns0.parts+p)=v*1000000+p:=by
     have h5:ns0.parts=0:=rfl;omega
    show((0:Int),(3:Nat),if (signed l).1 then(0:Int)-((1000000*v+(ns0.parts+p):Nat):Int) else((1000000*v+(ns0.parts+p):Nat):Int))=_;rw [e];cases (signed l).1
    ·rfl
    ·show((0:Int),(3:Nat),(0:Int)-((v*1000000+p:Nat):Int))=(0,3,-((v*1000000+p:Nat):Int));rw [Int.zero_sub]
 ·have hle:¬xP a b f<=mP f:=by
   unfold xP mP;rw [hv0,hp0,show min v 2147483648=2147483648 from by omega];cases f
   ·simp
   ·simp only [if_true];omega
  rw [z7c,if_neg hle]
  have hal:a.length≠0:=fun h2=>by
   rw [List.eq_nil_of_length_eq_zero h2] at hv0;simp [z45] at hv0;omega
  obtain⟨n,h1|h1⟩:=v7a a ns0 hA rfl rfl (by show 2147483647<z45 0 a;omega)
  ·rcases happ with⟨_,h2,_⟩|⟨_,h2⟩
   ·exact z5f (by rw [h2];exact h1) (by show ns0.digits+a.length≠0;omega) (.inl rfl)
   ·refine z5f (t:={ ns0 with n:=n,digits:=ns0.digits+a.length+b.length,over:=true,fr:=some (0+b.length),parts:=ns0.parts+z63 0 b }) ?_ (by show ns0.digits+a.length+b.length≠0;omega) (.inl rfl);rw [h2,z6r,h1];simp only [Option.bind_some];rw [z18,hstep _ rfl];simp only;rw [y34 b _ 0 hB rfl]
  ·exact absurd h1 (by decide)
end Go.Proofs.YtnhlalkeaaiefaaGreatDoor
