/- Merged by program. -/
import Derived.Test.YthejpkflcgjdoaaGreatDoorE27
import Derived.Test.YthejpkflcgjdoaaGreatDoorE28
set_option linter.unusedVariables false
set_option linter.unusedSimpArgs false
namespace Go.Proofs.YthejpkflcgjdoaaGreatDoor
open Go.RowKit
noncomputable def nameT (s:ByteArray):List Nat × Int:=if textO s then(nmF (sl s),0) else([],17)
theorem hex_extract:∀ d,d<16->(ByteArray.mk #[48,49,50,51,52,53,54,55,56,57,97,98,99,100,101,102]).extract d (d+1)=sb [hexC d]:=by
 intro d h
 rcases d with _|_|_|_|_|_|_|_|_|_|_|_|_|_|_|_|d
 all_goals first
  |rfl
  |decide
  |omega
set_option maxHeartbeats 2000000 in
theorem r13hex_any (c:Nat) (hc:c<256) (w:World) :
  Calls Tryz.prog 85 #[.int .u8 (c:Nat)] w fun e w'=>e=.returned (.string (sb (hex2 c)))/\Chg NoS w w':=by
 obtain⟨a,ha⟩:∃ a,a=c / 16:=⟨_,rfl⟩
 obtain⟨b,hb⟩:∃ b,b=c%16:=⟨_,rfl⟩
 have ha16:a<16:=by omega
 have hb16:b<16:=by omega
 have s1:(c:Int) / 16=(a:Int):=by omega
 have s2:(c:Int)%16=(b:Int):=by omega
 have x1:=hex_extract a ha16
 have x2:=hex_extract b hb16
 have HE:=kf (show sb [hexC a]++sb [hexC b]=sb (hex2 c) from by rw [sb_app,ha,hb];rfl)
 obtain⟨y1,hy1⟩:∃ y1,y1=sb [hexC a]:=⟨_,rfl⟩
 obtain⟨y2,hy2⟩:∃ y2,y2=sb [hexC b]:=⟨_,rfl⟩
 have z1:y1.size=1:=by rw [hy1,sb_size];rfl
 have z2:y2.size=1:=by rw [hy2,sb_size];rfl
 rw [<- hy1,<- hy2] at HE
 rw [<- hy1] at x1
 rw [<- hy2] at x2
 have t1:(c:Int).tdiv 16=(a:Int):=by rw [Int.tdiv_eq_ediv_of_nonneg (by omega)];omega
 have t2:(c:Int).tmod 16=(b:Int):=by rw [Int.tmod_eq_emod_of_nonneg (by omega)];omega
 clear ha hb hy1 hy2
 go_enter Tryz.func85,Tryz.ntmps85
 go_wp2
 go_quiet (fail)
 go_wp2_with fail
 go_ret
 exact⟨by rw [<- HE.out];rfl,(Chg.refl NoS w).drewN _⟩
theorem ext_one (s:ByteArray) (k:Nat) (h:k<s.size):s.extract k (k+1)=sb [(sl s).getD k 0]:=by
 have h1:sl (s.extract k (k+1))=[(sl s).getD k 0]:=by
  unfold sl
  rw [ByteArray.data_extract,Array.toList_extract]
  simp only [List.extract_eq_take_drop,List.map_take,List.map_drop]
  show((sl s).drop k).take (k+1-k)=_
  rw [drop_cons (by rw [sl_len];exact h),show k+1-k=1 from by omega]
  rfl
 rw [<- sb_sl (s.extract k (k+1)),h1]
set_option maxHeartbeats 8000000 in
set_option maxRecDepth 100000 in
theorem r13name_any (s:ByteArray) (w:World) (hs:s.size<=300000000000000000) :
  Calls Tryz.prog 50 #[.string s] w fun e w'=>e=.returned (.tuple #[.string (sb (nameT s).1),.int .i64 (nameT s).2])/\Chg NoS w w':=by
 have HTX:=kf (fun X=>rtext11_any s X (by unfold maxLen;omega))
 by_cases hx:textO s
 ·have e1:nameT s=(nmF (sl s),0):=by unfold nameT;rw [if_pos hx]
  rw [e1]
  simp only []
  rw [decide_eq_true hx] at HTX
  have hn2:=hx.2
  have HDL0:=kf (fun y X=>rdelim_any y X)
  have HHX0:=kf (fun y (hy:y<256) X=>r13hex_any y hy X)
  have HAT:=kf (fun k (h2:k<s.size)=>sl_at s k h2)
  have HEX:=kf (fun k (h2:k<s.size)=>ext_one s k h2)
  have HGL:=kf (getD_lt s)
  obtain⟨n,hn⟩:∃ n,s.size=n:=⟨_,rfl⟩
  have HN:=kf (show(sl s).length=n from by rw [sl_len,hn])
  have HSN:=kf hn
  have hn127:n<=127:=by omega
  clear e1 hx hn2
  go_enter Tryz.func50,Tryz.ntmps50
  go_upto_region 5 with(go_at_call 86;refine(HTX.out _).mono ?_;rintro e w1 ⟨rfl,rfl⟩)
  go_loopw [4,5] (fun vs vk wr=>∃ (k m:Nat) (t:ByteArray),k<=n/\m<=3*k+1/\t.size=m/\vs=.string t/\vk=.int .i64 (k:Nat)/\Hid (t=sb (47::nmL ((sl s).take k)))/\Hid (m=1+(nmL ((sl s).take k)).length)/\Hid (Chg NoS w wr)) (fun _ vk _=>n-(intOf vk).toNat)
  case atStart=>exact⟨0,1,_,by omega,by omega,rfl,rfl,by go_num,rfl,rfl,Chg.refl NoS w⟩
  case round =>
   obtain⟨k,m,t,hk,hm,hts,rfl,rfl,HTT,HML,HCW⟩:=hrel
   by_cases hlt:k<n
   ·have hgt:∀ h:k<s.size,(s[k]'h).toNat=(sl s).getD k 0:=fun h=>HAT.out k h
    have hex:=HEX.out k (by rw [HSN.out];exact hlt)
    have hc256:=HGL.out k
    have HV:=kf (nmL_drop (l:=sl s) (k:=k) (by rw [HN.out];exact hlt))
    obtain⟨c,hc⟩:∃ c,c=(sl s).getD k 0:=⟨_,rfl⟩
    rw [<- hc] at hgt hex hc256 HV
    clear hc
    have HDL:=kf (fun X=>HDL0.out c X)
    have HHX:=kf (fun X=>HHX0.out c hc256 X)
    by_cases hg:32<c/\c<127/\c≠35/\isDl c=false
    ·have HVE:=kf (show nmC c=[c] from by unfold nmC;rw [if_pos hg])
     obtain⟨y,hy⟩:∃ y,y=sb [c]:=⟨_,rfl⟩
     have hy1:y.size=1:=by rw [hy,sb_size];rfl
     rw [<- hy] at hex
     have HNX:=kf (show t++y=sb (47::nmL ((sl s).take (k+1))) from by rw [HV.out,HVE.out,HTT.out,hy,sb_app];rfl)
     have HNL:=kf (show m+1=1+(nmL ((sl s).take (k+1))).length from by rw [HV.out,HVE.out,HML.out,List.length_append];simp only [List.length_cons,List.length_nil];omega)
     rw [hg.2.2.2] at HDL
     obtain⟨g1,g2,g3,_⟩:=hg
     have d1:decide ((32:Int)<c)=true:=by simp;omega
     have d1':decide (32<c)=true:=by simp;omega
     have d2:decide ((c:Int)<127)=true:=by simp;omega
     have d2':decide (c<127)=true:=by simp;omega
     have d3:((c:Int)==35)=false:=by simp;omega
     have d3':(c==35)=false:=by simp;omega
     have d4:((c:Int) != 35)=true:=by simp;omega
     have d4':(c != 35)=true:=by simp;omega
     have i1:¬9223372036854775807<m+1:=by omega
     clear g1 g2 g3 hy
     go_wp2_with (go_at_call 87;refine(HDL.out _).mono ?_;rintro e w5 ⟨rfl,rfl⟩)
     go_roundw
     case rel=>exact⟨k+1,m+1,_,by omega,by omega,by rw [ByteArray.size_append,hts,hy1],rfl,by go_num,HNX.out,HNL.out,HCW.out⟩
     case measure=>simp [intOf];omega
    have HVE:=kf (show nmC c=35::hex2 c from by unfold nmC;rw [if_neg hg])
    obtain⟨y,hy⟩:∃ y,y=sb (hex2 c):=⟨_,rfl⟩
    have hy2:y.size=2:=by rw [hy,sb_size];rfl
    have HNX:=kf (show t++⟨#[35]⟩++y=sb (47::nmL ((sl s).take (k+1))) from by rw [HV.out,HVE.out,HTT.out,hy,show ByteArray.mk #[35]=sb [35] from rfl,sb_app,sb_app];simp)
    have HNL:=kf (show m+1+2=1+(nmL ((sl s).take (k+1))).length from by rw [HV.out,HVE.out,HML.out,List.length_append];simp [hex2];omega)
    rw [<- hy] at HHX
    have i1:¬9223372036854775807<m+1:=by omega
    have i2:¬9223372036854775807<m+1+2:=by omega
    clear hy hex
    by_cases h1:32<c
    ·have d1:decide ((32:Int)<c)=true:=by simp;omega
     have d1':decide (32<c)=true:=by simp;omega
     by_cases h2:c<127
     ·have d2:decide ((c:Int)<127)=true:=by simp;omega
      have d2':decide (c<127)=true:=by simp;omega
      by_cases h3:c=35
      ·subst h3
       clear hg h1 h2
       go_wp2_with (go_at_call 85;refine(HHX.out _).mono ?_;rintro e w3 ⟨rfl,h3⟩;have HC3:=kf (HCW.out.trans h3 (fun _ _ e=>e));clear h3)
       go_roundw
       case rel=>exact⟨k+1,m+1+2,_,by omega,by omega,by rw [ByteArray.size_append,ByteArray.size_append,hts,hy2];rfl,rfl,by go_num,HNX.out,HNL.out,HC3.out⟩
       case measure=>simp [intOf];omega
      ·have d3:((c:Int)==35)=false:=by simp;omega
       have d3':(c==35)=false:=by simp;omega
       have d4:((c:Int) != 35)=true:=by simp;omega
       have d4':(c != 35)=true:=by simp;omega
       have hdl:isDl c=true:=by
        cases h4:isDl c with
        |true=>rfl
        |false=>exact absurd ⟨h1,h2,h3,h4⟩ hg
       rw [hdl] at HDL
       clear hg h1 h2 h3 hdl
       go_wp2_with first
        |(go_at_call 87;refine(HDL.out _).mono ?_;rintro e w5 ⟨rfl,rfl⟩)
        |(go_at_call 85;refine(HHX.out _).mono ?_;rintro e w3 ⟨rfl,h3⟩;have HC3:=kf (HCW.out.trans h3 (fun _ _ e=>e));clear h3)
       go_roundw
       case rel=>exact⟨k+1,m+1+2,_,by omega,by omega,by rw [ByteArray.size_append,ByteArray.size_append,hts,hy2];rfl,rfl,by go_num,HNX.out,HNL.out,HC3.out⟩
       case measure=>simp [intOf];omega
     ·have d2:decide ((c:Int)<127)=false:=by simp;omega
      have d2':decide (c<127)=false:=by simp;omega
      clear hg h1 h2
      go_wp2_with (go_at_call 85;refine(HHX.out _).mono ?_;rintro e w3 ⟨rfl,h3⟩;have HC3:=kf (HCW.out.trans h3 (fun _ _ e=>e));clear h3)
      go_roundw
      case rel=>exact⟨k+1,m+1+2,_,by omega,by omega,by rw [ByteArray.size_append,ByteArray.size_append,hts,hy2];rfl,rfl,by go_num,HNX.out,HNL.out,HC3.out⟩
      case measure=>simp [intOf];omega
    ·have d1:decide ((32:Int)<c)=false:=by simp;omega
     have d1':decide (32<c)=false:=by simp;omega
     clear hg h1
     go_wp2_with (go_at_call 85;refine(HHX.out _).mono ?_;rintro e w3 ⟨rfl,h3⟩;have HC3:=kf (HCW.out.trans h3 (fun _ _ e=>e));clear h3)
     go_roundw
     case rel=>exact⟨k+1,m+1+2,_,by omega,by omega,by rw [ByteArray.size_append,ByteArray.size_append,hts,hy2];rfl,rfl,by go_num,HNX.out,HNL.out,HC3.out⟩
     case measure=>simp [intOf];omega
   ·obtain rfl:k=n:=by omega
    have HE:=kf (show t=sb (nmF (sl s)) from by rw [HTT.out,List.take_of_length_le (by rw [HN.out];exact Nat.le_refl _)];rfl)
    go_wp2_with fail
    go_ret2
    exact⟨by rw [<- HE.out];rfl,HCW.out⟩
 ·have e1:nameT s=([],17):=by unfold nameT;rw [if_neg hx]
  rw [e1]
  simp only []
  rw [decide_eq_false hx] at HTX
  clear e1 hx
  go_enter Tryz.func50,Tryz.ntmps50
  go_wp2_with (go_at_call 86;refine(HTX.out _).mono ?_;rintro e w1 ⟨rfl,rfl⟩)
  go_ret2
  exact⟨rfl,Chg.refl NoS w⟩
theorem fine_snoc {l:List Nat} {k:Nat} (h:k<l.length):fineT (l.take (k+1))↔fineT (l.take k)/\32<=l.getD k 0/\l.getD k 0<=126:=by
 have e:l.take (k+1)=l.take k++[l.getD k 0]:=take_snoc (by rw [List.getD_eq_getElem?_getD,List.getElem?_eq_getElem h];rfl)
 rw [e]
 unfold fineT
 constructor
 ·intro hf
  exact⟨fun c hc=>hf c (List.mem_append_left _ hc),hf _ (List.mem_append_right _ (List.mem_cons_self ..))⟩
 ·rintro⟨h1,h2⟩ c hc
  rcases List.mem_append.1 hc with h3|h3
  ·exact h1 c h3
  ·rw [List.mem_singleton] at h3;rw [h3];exact h2
set_option maxHeartbeats 8000000 in
set_option maxRecDepth 100000 in
theorem r13text_any (s:ByteArray) (w:World) (hs:s.size<=300000000000000000) :
  Calls Tryz.prog 49 #[.string s] w fun e w'=>e=.returned (.string (sb (txF (sl s))))/\Chg NoS w w':=by
 have HHX0:=kf (fun y (hy:y<256) X=>r13hex_any y hy X)
 have HAT:=kf (fun k (h2:k<s.size)=>sl_at s k h2)
 have HEX:=kf (fun k (h2:k<s.size)=>ext_one s k h2)
 have HGL:=kf (getD_lt s)
 obtain⟨n,hn⟩:∃ n,s.size=n:=⟨_,rfl⟩
 have HN:=kf (show(sl s).length=n from by rw [sl_len,hn])
 have HSN:=kf hn
 rw [hn] at hs
 go_enter Tryz.func49,Tryz.ntmps49
 go_upto_region 5 with fail
 go_loopw [3,4,5,6] (fun va vb vf vk wr=>∃ (k m:Nat) (ta tb:ByteArray) (f:Bool),k<=n/\m<=2*k+1/\ta.size=m/\tb.size=2*k+1/\va=.string ta/\vb=.string tb/\vf=.bool f/\vk=.int .i64 (k:Nat)/\Hid (ta=sb (40::esL ((sl s).take k)))/\Hid (m=1+(esL ((sl s).take k)).length)/\Hid (tb=sb (60::hxL ((sl s).take k)))/\Hid (f=decide (fineT ((sl s).take k)))/\Hid (Chg NoS w wr)) (fun _ _ _ vk _=>n-(intOf vk).toNat)
 case atStart=>exact⟨0,1,_,_,true,by omega,by omega,rfl,rfl,rfl,rfl,rfl,by go_num,rfl,rfl,rfl,rfl,Chg.refl NoS w⟩
 case round =>
  obtain⟨k,m,ta,tb,f,hk,hm,hta,htb,rfl,rfl,rfl,rfl,HTA,HML,HTB,HFI,HCW⟩:=hrel
  by_cases hlt:k<n
  ·have hgt:∀ h:k<s.size,(s[k]'h).toNat=(sl s).getD k 0:=fun h=>HAT.out k h
   have hex:=HEX.out k (by rw [HSN.out];exact hlt)
   have hc256:=HGL.out k
   have HVA:=kf (esL_drop (l:=sl s) (k:=k) (by rw [HN.out];exact hlt))
   have HVB:=kf (hxL_drop (l:=sl s) (k:=k) (by rw [HN.out];exact hlt))
   have HVF:=kf (fine_snoc (l:=sl s) (k:=k) (by rw [HN.out];exact hlt))
   obtain⟨c,hc⟩:∃ c,c=(sl s).getD k 0:=⟨_,rfl⟩
   rw [<- hc] at hgt hex hc256 HVA HVB HVF
   clear hc
   have HHX:=kf (fun X=>HHX0.out c hc256 X)
   obtain⟨y,hy⟩:∃ y,y=sb [c]:=⟨_,rfl⟩
   have hy1:y.size=1:=by rw [hy,sb_size];rfl
   rw [<- hy] at hex
   obtain⟨x,hx⟩:∃ x,x=sb (hex2 c):=⟨_,rfl⟩
   have hx2:x.size=2:=by rw [hx,sb_size];rfl
   rw [<- hx] at HHX
   have HNB:=kf (show tb++x=sb (60::hxL ((sl s).take (k+1))) from by rw [HVB.out,HTB.out,hx,sb_app];rfl)
   have i1:¬9223372036854775807<m+1:=by omega
   have i2:¬9223372036854775807<m+1+1:=by omega
   have i3:¬9223372036854775807<2*k+1+2:=by omega
   have HY:=kf hy
   clear hy hx
   by_cases h40:c=40
   ·subst h40
    have HNA:=kf (show ta++⟨#[92]⟩++y=sb (40::esL ((sl s).take (k+1))) from by rw [HVA.out,HTA.out,HY.out,show ByteArray.mk #[92]=sb [92] from rfl,sb_app,sb_app];simp [esC])
    have HNL:=kf (show m+1+1=1+(esL ((sl s).take (k+1))).length from by rw [HVA.out,HML.out,List.length_append];simp [esC];omega)
    cases f with
    |true =>
     have HNF:=kf (show true=decide (fineT ((sl s).take (k+1))) from by rw [decide_eq_true (HVF.out.2 ⟨of_decide_eq_true HFI.out.symm,by decide,by decide⟩)])
     go_wp2_with (go_at_call 85;refine(HHX.out _).mono ?_;rintro e w3 ⟨rfl,h3⟩;have HC3:=kf (HCW.out.trans h3 (fun _ _ e=>e));clear h3)
     go_roundw
     case rel=>exact⟨k+1,m+1+1,_,_,true,by omega,by omega,by rw [ByteArray.size_append,ByteArray.size_append,hta,hy1];rfl,by rw [ByteArray.size_append,htb,hx2];omega,rfl,rfl,rfl,by go_num,HNA.out,HNL.out,HNB.out,HNF.out,HC3.out⟩
     case measure=>simp [intOf];omega
    |false =>
     have HNF:=kf (show false=decide (fineT ((sl s).take (k+1))) from by rw [decide_eq_false (fun e=>of_decide_eq_false HFI.out.symm (HVF.out.1 e).1)])
     go_wp2_with (go_at_call 85;refine(HHX.out _).mono ?_;rintro e w3 ⟨rfl,h3⟩;have HC3:=kf (HCW.out.trans h3 (fun _ _ e=>e));clear h3)
     go_roundw
     case rel=>exact⟨k+1,m+1+1,_,_,false,by omega,by omega,by rw [ByteArray.size_append,ByteArray.size_append,hta,hy1];rfl,by rw [ByteArray.size_append,htb,hx2];omega,rfl,rfl,rfl,by go_num,HNA.out,HNL.out,HNB.out,HNF.out,HC3.out⟩
     case measure=>simp [intOf];omega
   by_cases h41:c=41
   ·subst h41
    have HNA:=kf (show ta++⟨#[92]⟩++y=sb (40::esL ((sl s).take (k+1))) from by rw [HVA.out,HTA.out,HY.out,show ByteArray.mk #[92]=sb [92] from rfl,sb_app,sb_app];simp [esC])
    have HNL:=kf (show m+1+1=1+(esL ((sl s).take (k+1))).length from by rw [HVA.out,HML.out,List.length_append];simp [esC];omega)
    cases f with
    |true =>
     have HNF:=kf (show true=decide (fineT ((sl s).take (k+1))) from by rw [decide_eq_true (HVF.out.2 ⟨of_decide_eq_true HFI.out.symm,by decide,by decide⟩)])
     go_wp2_with (go_at_call 85;refine(HHX.out _).mono ?_;rintro e w3 ⟨rfl,h3⟩;have HC3:=kf (HCW.out.trans h3 (fun _ _ e=>e));clear h3)
     go_roundw
     case rel=>exact⟨k+1,m+1+1,_,_,true,by omega,by omega,by rw [ByteArray.size_append,ByteArray.size_append,hta,hy1];rfl,by rw [ByteArray.size_append,htb,hx2];omega,rfl,rfl,rfl,by go_num,HNA.out,HNL.out,HNB.out,HNF.out,HC3.out⟩
     case measure=>simp [intOf];omega
    |false =>
     have HNF:=kf (show false=decide (fineT ((sl s).take (k+1))) from by rw [decide_eq_false (fun e=>of_decide_eq_false HFI.out.symm (HVF.out.1 e).1)])
     go_wp2_with (go_at_call 85;refine(HHX.out _).mono ?_;rintro e w3 ⟨rfl,h3⟩;have HC3:=kf (HCW.out.trans h3 (fun _ _ e=>e));clear h3)
     go_roundw
     case rel=>exact⟨k+1,m+1+1,_,_,false,by omega,by omega,by rw [ByteArray.size_append,ByteArray.size_append,hta,hy1];rfl,by rw [ByteArray.size_append,htb,hx2];omega,rfl,rfl,rfl,by go_num,HNA.out,HNL.out,HNB.out,HNF.out,HC3.out⟩
     case measure=>simp [intOf];omega
   by_cases h92:c=92
   ·subst h92
    have HNA:=kf (show ta++⟨#[92]⟩++y=sb (40::esL ((sl s).take (k+1))) from by rw [HVA.out,HTA.out,HY.out,show ByteArray.mk #[92]=sb [92] from rfl,sb_app,sb_app];simp [esC])
    have HNL:=kf (show m+1+1=1+(esL ((sl s).take (k+1))).length from by rw [HVA.out,HML.out,List.length_append];simp [esC];omega)
    cases f with
    |true =>
     have HNF:=kf (show true=decide (fineT ((sl s).take (k+1))) from by rw [decide_eq_true (HVF.out.2 ⟨of_decide_eq_true HFI.out.symm,by decide,by decide⟩)])
     go_wp2_with (go_at_call 85;refine(HHX.out _).mono ?_;rintro e w3 ⟨rfl,h3⟩;have HC3:=kf (HCW.out.trans h3 (fun _ _ e=>e));clear h3)
     go_roundw
     case rel=>exact⟨k+1,m+1+1,_,_,true,by omega,by omega,by rw [ByteArray.size_append,ByteArray.size_append,hta,hy1];rfl,by rw [ByteArray.size_append,htb,hx2];omega,rfl,rfl,rfl,by go_num,HNA.out,HNL.out,HNB.out,HNF.out,HC3.out⟩
     case measure=>simp [intOf];omega
    |false =>
     have HNF:=kf (show false=decide (fineT ((sl s).take (k+1))) from by rw [decide_eq_false (fun e=>of_decide_eq_false HFI.out.symm (HVF.out.1 e).1)])
     go_wp2_with (go_at_call 85;refine(HHX.out _).mono ?_;rintro e w3 ⟨rfl,h3⟩;have HC3:=kf (HCW.out.trans h3 (fun _ _ e=>e));clear h3)
     go_roundw
     case rel=>exact⟨k+1,m+1+1,_,_,false,by omega,by omega,by rw [ByteArray.size_append,ByteArray.size_append,hta,hy1];rfl,by rw [ByteArray.size_append,htb,hx2];omega,rfl,rfl,rfl,by go_num,HNA.out,HNL.out,HNB.out,HNF.out,HC3.out⟩
     case measure=>simp [intOf];omega
   have e1:((c:Int)==40)=false:=by simp;omega
   have e1':(c==40)=false:=by simp;omega
   have e2:((c:Int)==41)=false:=by simp;omega
   have e2':(c==41)=false:=by simp;omega
   have e3:((c:Int)==92)=false:=by simp;omega
   have e3':(c==92)=false:=by simp;omega
   have HES:=kf (show esC c=[c] from by unfold esC;rw [if_neg (by omega)])
   have HNA:=kf (show ta++y=sb (40::esL ((sl s).take (k+1))) from by rw [HVA.out,HTA.out,HY.out,HES.out,sb_app];rfl)
   have HNL:=kf (show m+1=1+(esL ((sl s).take (k+1))).length from by rw [HVA.out,HML.out,HES.out,List.length_append];simp only [List.length_cons,List.length_nil];omega)
   clear h40 h41 h92
   cases f with
   |false =>
    have HNF:=kf (show false=decide (fineT ((sl s).take (k+1))) from by rw [decide_eq_false (fun e=>of_decide_eq_false HFI.out.symm (HVF.out.1 e).1)])
    go_wp2_with (go_at_call 85;refine(HHX.out _).mono ?_;rintro e w3 ⟨rfl,h3⟩;have HC3:=kf (HCW.out.trans h3 (fun _ _ e=>e));clear h3)
    go_roundw
    case rel=>exact⟨k+1,m+1,_,_,false,by omega,by omega,by rw [ByteArray.size_append,hta,hy1],by rw [ByteArray.size_append,htb,hx2];omega,rfl,rfl,rfl,by go_num,HNA.out,HNL.out,HNB.out,HNF.out,HC3.out⟩
    case measure=>simp [intOf];omega
   |true =>
    by_cases h1:32<=c
    ·have d1:decide ((32:Int)<=c)=true:=by simp;omega
     have d1':decide (32<=c)=true:=by simp;omega
     by_cases h2:c<=126
     ·have d2:decide ((c:Int)<=126)=true:=by simp;omega
      have d2':decide (c<=126)=true:=by simp;omega
      have HNF:=kf (show true=decide (fineT ((sl s).take (k+1))) from by rw [decide_eq_true (HVF.out.2 ⟨of_decide_eq_true HFI.out.symm,h1,h2⟩)])
      clear h1 h2
      go_wp2_with (go_at_call 85;refine(HHX.out _).mono ?_;rintro e w3 ⟨rfl,h3⟩;have HC3:=kf (HCW.out.trans h3 (fun _ _ e=>e));clear h3)
      go_roundw
      case rel=>exact⟨k+1,m+1,_,_,true,by omega,by omega,by rw [ByteArray.size_append,hta,hy1],by rw [ByteArray.size_append,htb,hx2];omega,rfl,rfl,rfl,by go_num,HNA.out,HNL.out,HNB.out,HNF.out,HC3.out⟩
      case measure=>simp [intOf];omega
     ·have d2:decide ((c:Int)<=126)=false:=by simp;omega
      have d2':decide (c<=126)=false:=by simp;omega
      have HNF:=kf (show false=decide (fineT ((sl s).take (k+1))) from by rw [decide_eq_false (fun e=>h2 (HVF.out.1 e).2.2)])
      clear h1 h2
      go_wp2_with (go_at_call 85;refine(HHX.out _).mono ?_;rintro e w3 ⟨rfl,h3⟩;have HC3:=kf (HCW.out.trans h3 (fun _ _ e=>e));clear h3)
      go_roundw
      case rel=>exact⟨k+1,m+1,_,_,false,by omega,by omega,by rw [ByteArray.size_append,hta,hy1],by rw [ByteArray.size_append,htb,hx2];omega,rfl,rfl,rfl,by go_num,HNA.out,HNL.out,HNB.out,HNF.out,HC3.out⟩
      case measure=>simp [intOf];omega
    ·have d1:decide ((32:Int)<=c)=false:=by simp;omega
     have d1':decide (32<=c)=false:=by simp;omega
     have HNF:=kf (show false=decide (fineT ((sl s).take (k+1))) from by rw [decide_eq_false (fun e=>h1 (HVF.out.1 e).2.1)])
     clear h1
     go_wp2_with (go_at_call 85;refine(HHX.out _).mono ?_;rintro e w3 ⟨rfl,h3⟩;have HC3:=kf (HCW.out.trans h3 (fun _ _ e=>e));clear h3)
     go_roundw
     case rel=>exact⟨k+1,m+1,_,_,false,by omega,by omega,by rw [ByteArray.size_append,hta,hy1],by rw [ByteArray.size_append,htb,hx2];omega,rfl,rfl,rfl,by go_num,HNA.out,HNL.out,HNB.out,HNF.out,HC3.out⟩
     case measure=>simp [intOf];omega
  ·obtain rfl:k=n:=by omega
   have ht:(sl s).take k=sl s:=List.take_of_length_le (by rw [HN.out];exact Nat.le_refl _)
   have i1:¬9223372036854775807<m+1:=by omega
   have i3:¬9223372036854775807<2*k+1+1:=by omega
   cases f with
   |true =>
    have HE:=kf (show ta++⟨#[41]⟩=sb (txF (sl s)) from by
     have hf:=of_decide_eq_true HFI.out.symm
     rw [ht] at hf
     rw [HTA.out,ht,show ByteArray.mk #[41]=sb [41] from rfl,sb_app]
     unfold txF
     rw [if_pos hf]
     rfl)
    clear ht
    go_wp2_with fail
    go_ret
    exact⟨by rw [<- HE.out];rfl,HCW.out⟩
   |false =>
    have HE:=kf (show tb++⟨#[62]⟩=sb (txF (sl s)) from by
     have hf:=of_decide_eq_false HFI.out.symm
     rw [ht] at hf
     rw [HTB.out,ht,show ByteArray.mk #[62]=sb [62] from rfl,sb_app]
     unfold txF
     rw [if_neg hf]
     rfl)
    clear ht
    go_wp2_with fail
    go_ret
    exact⟨by rw [<- HE.out];rfl,HCW.out⟩
end Go.Proofs.YthejpkflcgjdoaaGreatDoor
