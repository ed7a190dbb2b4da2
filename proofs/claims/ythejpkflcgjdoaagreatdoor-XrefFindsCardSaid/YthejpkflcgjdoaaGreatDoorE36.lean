/- Merged by program. -/
import Derived.Test.YthejpkflcgjdoaaGreatDoorE31
import Derived.Test.YthejpkflcgjdoaaGreatDoorE32
import Derived.Test.YthejpkflcgjdoaaGreatDoorE33
set_option linter.unusedVariables false
set_option linter.unusedSimpArgs false
namespace Go.Proofs.YthejpkflcgjdoaaGreatDoor
open Go.RowKit
theorem tok_vn {last:Bool} {p c:Nat} {l:List Nat}:(tokO last p c l).1=0/\(tokO last p c l).2.kind=1\/(tokO last p c l).2.vn=0:=by
 have key:∀ r,tokO last p c l=r->(r.1=0/\r.2.kind=1)\/r.2.vn=0:=by
  intro r h
  unfold tokO at h
  by_cases h1:c=91
  ·rw [if_pos h1] at h;subst h;exact .inr rfl
  rw [if_neg h1] at h
  by_cases h1:c=93
  ·rw [if_pos h1] at h;subst h;exact .inr rfl
  rw [if_neg h1] at h
  by_cases h1:c=60/\l.head?=some 60
  ·rw [if_pos h1] at h;subst h;exact .inr rfl
  rw [if_neg h1] at h
  by_cases h1:c=62/\l.head?=some 62
  ·rw [if_pos h1] at h;subst h;exact .inr rfl
  rw [if_neg h1] at h
  by_cases h1:c=62/\l=[]/\last=false
  ·rw [if_pos h1] at h;subst h;exact .inr rfl
  rw [if_neg h1] at h
  by_cases h1:c=60
  ·rw [if_pos h1] at h;split at h<;>(subst h;exact .inr rfl)
  rw [if_neg h1] at h
  by_cases h1:c=40
  ·rw [if_pos h1] at h;split at h<;>(subst h;exact .inr rfl)
  rw [if_neg h1] at h
  by_cases h1:c=47
  ·rw [if_pos h1] at h
   by_cases h2:rgs l=l.length/\last=false
   ·rw [if_pos h2] at h;subst h;exact .inr rfl
   ·rw [if_neg h2] at h;split at h<;>(subst h;exact .inr rfl)
  rw [if_neg h1] at h
  by_cases h1:isDl c=true
  ·rw [if_pos h1] at h;subst h;exact .inr rfl
  rw [if_neg h1] at h
  by_cases h1:rgs l=l.length/\last=false
  ·rw [if_pos h1] at h;subst h;exact .inr rfl
  rw [if_neg h1] at h
  by_cases h1:isNm c=true
  ·rw [if_pos h1] at h
   split at h
   ·subst h;exact .inr rfl
   ·subst h;exact .inl ⟨rfl,rfl⟩
  ·rw [if_neg h1] at h;subst h;exact .inr rfl
 exact key _ rfl
theorem vn_small {bs:List Nat} {last:Bool} {s:FS} (hb:∀ x∈bs,x<256):(tokX bs last s).1.vn.natAbs<=2147483647*1000000:=by
 unfold tokX
 split
 ·show(0:Int).natAbs<=_;decide
 unfold nextA
 split
 ·show(0:Int).natAbs<=_;decide
 have hv:=next_val bs s.1.toNat last hb
 show(nextO bs s.1.toNat last).2.vn.natAbs<=_
 unfold nextO at hv ⊢
 split at hv
 ·show(0:Int).natAbs<=_;decide
 ·next c l hc =>
  rcases tok_vn (last:=last) (p:=s.1.toNat+skp false (bs.drop s.1.toNat)) (c:=c) (l:=l) with h|h
  ·have h2:=(hv h.1 h.2).2
   omega
  ·rw [h];decide
theorem grpX_end {bs:List Nat} {last:Bool} {n:Nat} {s:FS} {l:List XGr} (h:s.2≠0):grpX bs last n s l=(l,s):=by
 cases n with
 |zero=>rfl
 |succ n=>rw [grpX,if_pos h]
theorem grpX_tr {bs:List Nat} {last:Bool} {n:Nat} {a:Int} {l:List XGr} (h:(tokX bs last (a,0)).1.kind=6/\sb (tokX bs last (a,0)).1.s=sTrailer):grpX bs last (n+1) (a,0) l=(l,(tokX bs last (a,0)).2):=by
 rw [grpX,if_neg (by simp),if_pos h]
theorem grpX_go {bs:List Nat} {last:Bool} {n:Nat} {a:Int} {l:List XGr} (h:¬((tokX bs last (a,0)).1.kind=6/\sb (tokX bs last (a,0)).1.s=sTrailer)):grpX bs last (n+1) (a,0) l =
  grpX bs last n (entsX bs last (twoX bs last l.length (tokX bs last (a,0)).1 (tokX bs last (a,0)).2).1.toNat (twoX bs last l.length (tokX bs last (a,0)).1 (tokX bs last (a,0)).2).2 []).2
   (l++[⟨(tokX bs last (a,0)).1.vn,(entsX bs last (twoX bs last l.length (tokX bs last (a,0)).1 (tokX bs last (a,0)).2).1.toNat (twoX bs last l.length (tokX bs last (a,0)).1 (tokX bs last (a,0)).2).2 []).1⟩]):=by
 rw [grpX,if_neg (by simp),if_neg h]
theorem two_ok {bs:List Nat} {last:Bool} {k:Nat} {t:Tkn} {s:FS} (h:(twoX bs last k t s).2.2=0):k<64/\0<=(twoX bs last k t s).1/\(twoX bs last k t s).1<=4097:=by
 have h1:=(askX_ok (show askX (whlX (tokX bs last (whlX t s)).1 (tokX bs last (whlX t s)).2).2 _=0 from h)).2
 unfold fitsX at h1
 simp only [Bool.and_eq_true,decide_eq_true_eq] at h1
 show k<64/\0<=(tokX bs last (whlX t s)).1.vn/\(tokX bs last (whlX t s)).1.vn<=4097
 omega
theorem src_g1 {W:World} {B:Nat} {x:GC} {T:TypeId} (h:Blk W B T #[.int .i64 x.g.first,.slice x.A x.g.es.length x.c]):Src W 2 (some ⟨B,0,none⟩) 1 1 (gcells [x]):=by
 refine⟨rfl,fun e=>(by cases e),fun ad ha j u hj=>?_⟩
 cases ha
 have hj3:j<2:=(List.getElem?_eq_some_iff.1 hj).1
 have hadd:(⟨B,0,none⟩:Addr).add j=⟨B,j,none⟩:=by unfold Addr.add;split<;>simp_all
 rw [hadd,h.cell j]
 rcases j with _|_|j
 ·exact hj
 ·exact hj
 ·omega
def XGTo (w0:World) (bs:List Nat) (A:Option Addr) (c R:Nat) (last:Bool) (w:World) (gs:List XGr) (s:FS) (e:Ending) (w':World):Prop :=
 ∃ (xs:List GC) (B:Option Addr) (d:Nat),e=.returned (.slice B xs.length d)/\xs.map GC.g=gs/\Ev (fun i=>i<w.heap.size) w' (GsIs xs B d)/\XB w0 bs A c R last s w'/\Chg (Only R) w w'
structure GrS (w0:World) (bs:List Nat) (A:Option Addr) (c R:Nat) (last:Bool) (w:World) (xs:List GC) (k:Nat) (B:Option Addr) (d:Nat) (s:FS) (W:World):Prop where
 r:XB w0 bs A c R last s W
 o:Chg (Only R) w W
 g:RwG w W xs k B d
 l:R<w.heap.size
theorem GrS.only {w0 w W W':World} {bs:List Nat} {A B:Option Addr} {c R k d:Nat} {last:Bool} {xs:List GC} {s s':FS} (h:GrS w0 bs A c R last w xs k B d s W) (hr:XB w0 bs A c R last s' W') (hc:Chg (Only R) W W'):GrS w0 bs A c R last w xs k B d s' W' :=
 ⟨hr,only_tr h.o hc,h.g.turn hc (fun i hi=>by rw [hi];exact h.l),h.l⟩
theorem GrS.call {w0 w W W':World} {bs:List Nat} {A B:Option Addr} {c R k d:Nat} {last:Bool} {xs:List GC} {s:FS} (h:GrS w0 bs A c R last w xs k B d s W) (hc:Chg NoS W W'):GrS w0 bs A c R last w xs k B d s W' :=
 ⟨h.r.call hc,only_tr h.o (only_of hc),h.g.turn hc (fun i hi=>hi.elim),h.l⟩
set_option maxHeartbeats 16000000 in
set_option maxRecDepth 100000 in
theorem xgrp_any {w0 w:World} {bs:List Nat} {A:Option Addr} {c R:Nat} {last:Bool} {s:FS} (hB:RSrc w0 bs A c) (h:XB w0 bs A c R last s w) (hf:Fine4 bs.length s) :
  Calls Tryz.prog 41 #[.pointer (some ⟨R,0,none⟩)] w (XGTo w0 bs A c R last w (grpX bs last 66 s []).1 (grpX bs last 66 s []).2):=by
 have HR:=kf h
 have HLT:Hid (R<w.heap.size):=h.lt
 have HTK:=kf (fun(W:World) (s:FS) (hW:XB w0 bs A c R last s W)=>xtok_any hB hW)
 have HWH:=kf (fun(W:World) (s:FS) (t:Tkn) (hW:XB w0 bs A c R last s W)=>xwhl_any hW t)
 have HEN:=kf (fun(W:World) (s:FS) (m:Int) (hW:XB w0 bs A c R last s W) (hF:Fine4 bs.length s) (hm:s.2=0->0<=m/\m<=4097)=>xents_any hB hW hF m hm)
 have HVN:=kf (fun s=>vn_small (bs:=bs) (last:=last) (s:=s) hB.byt)
 have HEND:=kf (fun n (s:FS) l (h:s.2≠0)=>grpX_end (bs:=bs) (last:=last) (n:=n) (l:=l) h)
 have HTR:=kf (fun n a l=>grpX_tr (bs:=bs) (last:=last) (n:=n) (a:=a) (l:=l))
 have HGO:=kf (fun n a l=>grpX_go (bs:=bs) (last:=last) (n:=n) (a:=a) (l:=l))
 have HF:=kf hf
 obtain⟨T,hT⟩:∃ T,T=grpX bs last 66 s []:=⟨_,rfl⟩
 rw [<- hT]
 have HT:=kf hT
 clear h hB hT hf
 go_enter Tryz.func41,Tryz.ntmps41
 go_wp2_with fail
 go_loopg [3] 66 (fun g v3 wr=>∃ (k:Nat) (xs:List GC) (sk:FS) (B:Option Addr) (d:Nat),v3=.slice B k d/\g=66-k/\k<=65/\Hid (sk.2=0->k<=64)/\Hid (GrS w0 bs A c R last w xs k B d sk wr)/\Hid (Fine4 bs.length sk)/\Hid (T=grpX bs last (66-k) sk (xs.map GC.g)))
 case atStart=>exact⟨0,[],s,none,0,rfl,rfl,Nat.zero_le _,fun _=>Nat.zero_le _,⟨HR.out,Chg.refl _ _,RwG.start (Nat.le_refl _),HLT.out⟩,HF.out,HT.out⟩
 case round =>
  obtain⟨k,xs,sk,B,d,rfl,rfl,hk65,HK64,HS,HFk,HTk⟩:=hrel
  obtain⟨a,e⟩:=sk
  obtain⟨q0,q1,q2,q3,z1,z3⟩:=HS.out.r.cells
  simp only [] at q1 q3
  by_cases he:e=0
  ·subst he
   have hk64:=HK64.out rfl
   have HX1:=kf (HTK.out wr (a,0) HS.out.r)
   have HF1:=kf (tokX_fn (last:=last) HFk.out)
   have HTRk:=kf (HTR.out (65-k) a (xs.map GC.g))
   have HGOk:=kf (HGO.out (65-k) a (xs.map GC.g))
   have hxl:=HS.out.g.len
   rw [List.length_map,hxl] at HGOk
   have HXL:=kf hxl
   have hv1:=HVN.out (a,0)
   obtain⟨P,hP⟩:∃ P,P=tokX bs last (a,0):=⟨_,rfl⟩
   rw [<- hP] at HX1 HF1 HTRk HGOk hv1
   obtain⟨⟨tk,tf,tt_,tvk,tvn,tvs,ts⟩,st⟩:=P
   simp only [] at hv1
   have HV1:=kf hv1
   unfold tknV at HX1
   simp only [] at HX1 HF1 HTRk HGOk
   have HW1:=kf (fun W (hW:XB w0 bs A c R last st W)=>HWH.out W st ⟨tk,tf,tt_,tvk,tvn,tvs,ts⟩ hW)
   unfold tknV at HW1
   simp only [] at HW1
   obtain⟨S6,hS6⟩:∃ S6,S6=sb tvs:=⟨_,rfl⟩
   obtain⟨S7,hS7⟩:∃ S7,S7=sb ts:=⟨_,rfl⟩
   rw [<- hS6,<- hS7] at HX1 HW1
   rw [<- hS7] at HTRk HGOk
   clear hP hxl hv1 hS6 hS7
   -- the second token,and the wish
   have HX2:=kf (fun W hW=>HTK.out W (whlX ⟨tk,tf,tt_,tvk,tvn,tvs,ts⟩ st) hW)
   have HF2:=kf (twoX_fn (bs:=bs) (last:=last) (j:=k) (t:=⟨tk,tf,tt_,tvk,tvn,tvs,ts⟩) HF1.out)
   have HOK:=kf (fun h=>two_ok (bs:=bs) (last:=last) (k:=k) (t:=⟨tk,tf,tt_,tvk,tvn,tvs,ts⟩) (s:=st) h)
   have hv2:=HVN.out (whlX ⟨tk,tf,tt_,tvk,tvn,tvs,ts⟩ st)
   have HTW:=kf (show twoX bs last k ⟨tk,tf,tt_,tvk,tvn,tvs,ts⟩ st=((tokX bs last (whlX ⟨tk,tf,tt_,tvk,tvn,tvs,ts⟩ st)).1.vn,((tokX bs last (whlX ⟨tk,tf,tt_,tvk,tvn,tvs,ts⟩ st)).2.1,askX (whlX (tokX bs last (whlX ⟨tk,tf,tt_,tvk,tvn,tvs,ts⟩ st)).1 (tokX bs last (whlX ⟨tk,tf,tt_,tvk,tvn,tvs,ts⟩ st)).2).2 (decide (k<64)&&fitsX tvn (tokX bs last (whlX ⟨tk,tf,tt_,tvk,tvn,tvs,ts⟩ st)).1.vn))) from rfl)
   obtain⟨s2,hs2⟩:∃ s2,s2=whlX ⟨tk,tf,tt_,tvk,tvn,tvs,ts⟩ st:=⟨_,rfl⟩
   rw [<- hs2] at HX2 hv2 HTW HW1
   obtain⟨Q,hQ⟩:∃ Q,Q=tokX bs last s2:=⟨_,rfl⟩
   rw [<- hQ] at HX2 hv2 HTW
   obtain⟨u,su⟩:=Q
   simp only [] at HX2 hv2 HTW
   have HW2:=kf (fun W (hW:XB w0 bs A c R last su W)=>HWH.out W su u hW)
   have HV2:=kf hv2
   obtain⟨T2,hT2⟩:∃ T2,T2=twoX bs last k ⟨tk,tf,tt_,tvk,tvn,tvs,ts⟩ st:=⟨_,rfl⟩
   rw [<- hT2] at HF2 HOK HTW HGOk
   obtain⟨s3,hs3⟩:∃ s3,s3=whlX u su:=⟨_,rfl⟩
   rw [<- hs3] at HW2 HTW
   have HS3:=kf (show s3.1=su.1 from by rw [hs3];rfl)
   obtain⟨un,hun⟩:∃ un,un=u.vn:=⟨_,rfl⟩
   rw [<- hun] at HTW HV2 HW2
   obtain⟨m,s4⟩:=T2
   have HM:Hid (m=un):=congrArg Prod.fst HTW.out
   have HS4:Hid (s4=(s3.1,askX s3.2 (decide (k<64)&&fitsX tvn un))):=(congrArg Prod.snd HTW.out).trans (by rw [HS3.out])
   simp only [] at HF2 HOK HGOk
   rw [HM.out] at HOK HGOk
   clear hs2 hQ hv2 hT2 hs3 hun HTW HM m
   obtain⟨EE,hEE⟩:∃ EE,EE=entsX bs last un.toNat s4 []:=⟨_,rfl⟩
   have HE4:=kf (fun W hW=>HEN.out W s4 un hW HF2.out (fun h=>(HOK.out h).2))
   have HFE:=kf (entsX_fn (last:=last) un.toNat s4 [] HF2.out)
   have HEK:Hid (EE.2.2=0->k<64):=fun h=>by
    by_cases h4:s4.2=0
    ·exact(HOK.out h4).1
    ·rw [hEE,entsX_err h4] at h;exact absurd h h4
   rw [<- hEE] at HE4 HFE HGOk
   obtain⟨el,s5⟩:=EE
   simp only [] at HFE HEK HGOk
   clear hEE
   go_upto_region 4 with(go_at_call 75;refine HX1.out.mono ?_;rintro e w2 ⟨rfl,hr2,hc2⟩;have HS2:=kf (HS.out.only hr2 hc2);clear hr2 hc2)
   have HB4:=kf (Blk.new w2 131 #[.int .i64 (tk:Nat),.int .i64 (tf:Nat),.int .i64 (tt_:Nat),.int .i64 (tvk:Nat),.int .i64 tvn,.string S6,.slice none 0 0,.string S7])
   have HC4:=kf ((Chg.refl NoS w2).alloc (.cells #[.int .i64 (tk:Nat),.int .i64 (tf:Nat),.int .i64 (tt_:Nat),.int .i64 (tvk:Nat),.int .i64 tvn,.string S6,.slice none 0 0,.string S7] 131))
   have HS4a:=kf (HS2.out.call HC4.out)
   obtain⟨W3,hW3⟩:∃ W3,W3=w2.alloc (.cells #[.int .i64 (tk:Nat),.int .i64 (tf:Nat),.int .i64 (tt_:Nat),.int .i64 (tvk:Nat),.int .i64 tvn,.string S6,.slice none 0 0,.string S7] 131):=⟨_,rfl⟩
   obtain⟨g4,hg4⟩:∃ g4,g4=w2.heap.size:=⟨_,rfl⟩
   have HN4:Hid (g4≠R):=by show g4≠R;have:=HS2.out.r.lt;omega
   rw [<- hW3] at HB4 HS4a ⊢
   rw [<- hg4] at HB4 ⊢
   clear hW3 hg4 HC4 HS2 q0 q1 q2 q3 z1 z3
   obtain⟨p0,p1,p2,p3,p4,p5,p6,p7,_,_,_,_,_,_,_,_⟩:=HB4.out.cl8
   obtain⟨bt,hbt⟩:∃ bt,bt=(decide (tk=6)&&decide (S7=sTrailer)):=⟨_,rfl⟩
   have HBT:=kf hbt
   clear hbt
   go_cut [21] from 7 to 46 (fun s21 wx=>s21=.bool bt/\wx=W3)
   case first =>
    by_cases h6:tk=6
    ·subst h6
     by_cases h7:S7=sTrailer
     ·have HZ:Hid (bt=true):=by show _=_;rw [HBT.out,decide_eq_true h7];rfl
      have s1:(S7.toList==[116,114,97,105,108,101,114])=true:=by rw [h7];kernel_rfl
      have s2:S7.toList=[116,114,97,105,108,101,114]:=by rw [h7];kernel_rfl
      clear h7
      go_wp2_with fail
      go_meet
      exact⟨by rw [HZ.out],rfl⟩
     ·have HZ:Hid (bt=false):=by show _=_;rw [HBT.out,decide_eq_false h7];rfl
      have s1:(S7.toList==[116,114,97,105,108,101,114])=false:=by
       have h:=str_ne11 h7
       rw [show(sTrailer:ByteArray).toList=[116,114,97,105,108,101,114] from by kernel_rfl] at h
       simpa using h
      have s2:¬S7.toList=[116,114,97,105,108,101,114]:=by simpa using s1
      clear h7
      go_wp2_with fail
      go_meet
      exact⟨by rw [HZ.out],rfl⟩
    ·have HZ:Hid (bt=false):=by show _=_;rw [HBT.out,decide_eq_false h6];rfl
     have k6:((tk:Int)==6)=false:=by simp;omega
     clear h6
     go_wp2_with fail
     go_meet
     exact⟨by rw [HZ.out],rfl⟩
   case rest =>
    obtain⟨rfl,rfl⟩:=hcut
    cases bt with
    |true =>
     have hb2:=HBT.out.symm
     simp only [Bool.and_eq_true,decide_eq_true_eq] at hb2
     have HZ:=kf (HTk.out.trans (show grpX bs last (66-k) (a,0) (xs.map GC.g)=(xs.map GC.g,st) from by rw [show 66-k=65-k+1 by omega];exact HTRk.out hb2))
     clear hb2
     go_wp2_with fail
     go_ret
     rw [HZ.out]
     have h9:=HXL.out
     exact⟨xs,B,d,by rw [h9];rfl,rfl,HS4a.out.g.ev,HS4a.out.r,HS4a.out.o⟩
    |false =>
     have hb2:¬(tk=6/\S7=sTrailer):=fun h=>by
      have h1:=HBT.out
      rw [decide_eq_true h.1,decide_eq_true h.2] at h1
      cases h1
     have HZ:=kf (HTk.out.trans (show grpX bs last (66-k) (a,0) (xs.map GC.g)=grpX bs last (65-k) s5 (xs.map GC.g++[⟨tvn,el⟩]) from by rw [show 66-k=65-k+1 by omega];exact HGOk.out hb2))
     clear hb2
     obtain⟨Wx,hWx⟩:∃ Wx,Wx=wc:=⟨_,rfl⟩
     subst hWx
     go_upto_region 6 with(go_at_call 76;refine(HW1.out _ HS4a.out.r).mono ?_;rintro e w5 ⟨rfl,hr5,hc5⟩;have HS5:=kf (HS4a.out.only hr5 hc5);clear hr5 hc5)
     clear p0 p1 p2 p3 p4 p5 p6 p7
     go_upto_region 7 with(first
      |(go_at_call 75;refine(HX2.out _ HS5.out.r).mono ?_;rintro e w6 ⟨rfl,hr6,hc6⟩;have HS6:=kf (HS5.out.only hr6 hc6);clear hr6 hc6)
      |(go_at_call 76;refine(HW2.out _ HS6.out.r).mono ?_;rintro e w7 ⟨rfl,hr7,hc7⟩;have HS7:=kf (HS6.out.only hr7 hc7);clear hr7 hc7))
     have HFT:=kf (fun W=>xfits_any tvn un W (by have:=HV1.out;omega) (by have:=HV2.out;omega))
     obtain⟨fb,hfb⟩:∃ fb,fb=fitsX tvn un:=⟨_,rfl⟩
     rw [<- hfb] at HFT HS4
     clear hfb
     go_cut [] from 7 to 46 (fun wx=>Hid (GrS w0 bs A c R last w xs k B d s4 wx))
     case first =>
      by_cases h64:k<64
      ·have d1:decide ((k:Int)<64)=true:=by simp;omega
       have HA:=kf (xask_any HS7.out.r fb)
       have HZ4:=kf (show s4=(s3.1,askX s3.2 fb) from by rw [HS4.out,decide_eq_true h64];rfl)
       go_wp2_with (first
        |(go_at_call 65;refine(HFT.out _).mono ?_;rintro e w8 ⟨rfl,rfl⟩)
        |(go_at_call 77;refine HA.out.mono ?_;rintro e w9 ⟨rfl,hr9,hc9⟩;have HS9:=kf (HS7.out.only hr9 hc9);clear hr9 hc9))
       go_meet
       exact kf (by rw [HZ4.out];exact HS9.out)
      ·have d1:decide ((k:Int)<64)=false:=by simp;omega
       have d2:decide (k<64)=false:=by simpa using h64
       have HA:=kf (xask_any HS7.out.r false)
       have HZ4:=kf (show s4=(s3.1,askX s3.2 false) from by rw [HS4.out,decide_eq_false h64];rfl)
       go_wp2_with (go_at_call 77;refine HA.out.mono ?_;rintro e w9 ⟨rfl,hr9,hc9⟩;have HS9:=kf (HS7.out.only hr9 hc9);clear hr9 hc9)
       go_meet
       exact kf (by rw [HZ4.out];exact HS9.out)
     case rest =>
      have HS8:=kf hcut.out
      obtain⟨Wy,hWy⟩:∃ Wy,Wy=wc:=⟨_,rfl⟩
      subst hWy
      clear hcut HS7 HS6 HS5 HS4a HS HB4
      have HEX:=kf (HE4.out _ HS8.out.r)
      go_wp2_with (first
       |(go_at_call 78;refine HEX.out.mono ?_;rintro e w6 ⟨B5,d5,rfl,hev5,hr6,hc6⟩;have HS9:=kf (HS8.out.only hr6 hc6);have HEV:=kf hev5;clear hr6 hc6 hev5)
       |(at_builtin;refine appG (e:=⟨⟨tvn,el⟩,B5,d5⟩) rfl (.tmp 39) (.tmp 45) rfl rfl rfl (HS9.out.g.turn (S:=NoS) ((Chg.refl NoS w6).alloc _) (fun _ h=>h.elim)) (by omega) (src_g1 (x:=⟨⟨tvn,el⟩,B5,d5⟩) (Blk.new w6 _ _)) ((HEV.out.chg ((Chg.refl NoS w6).alloc _)).turn (Chg.refl _ _) (fun i _ h=>h.elim (fun h=>Nat.lt_of_lt_of_le h HS8.out.g.siz) (fun h=>HS8.out.g.lt h))) ?_;intro A3 c3 w8 hre8 hcg8;have HG8:=kf hre8;have HH8:=kf hcg8;clear hre8 hcg8))
      have HA6:=kf ((Chg.refl NoS w6).alloc (.cells #[.int .i64 tvn,.slice B5 el.length d5] 56))
      have hch:Chg (fun i=>w.heap.size<=i) w6 w8:=(HA6.out.mono (T:=fun i=>w.heap.size<=i) (fun _ _ e=>e.elim)).trans (HH8.out (fun i=>w.heap.size<=i) (fun _ h=>h)) (fun _ _ h=>h)
      have HR9:=kf (HS9.out.r.far hch (by have:=HLT.out;omega) (fun i hi=>by have:=HR.out.chg.size;omega))
      have HC9:=kf (HS9.out.o.trans hch (fun i hi h=>by omega))
      clear hch HA6
      go_roundg (65-k)
      case rel =>
       refine⟨k+1,xs++[⟨⟨tvn,el⟩,B5,d5⟩],s5,A3,c3,rfl,by omega,by omega,kf (fun h=>by have:=HEK.out h;omega),kf ⟨HR9.out,HC9.out,HG8.out,HLT.out⟩,HFE,kf ?_⟩
       rw [HZ.out,List.map_append,show 66-(k+1)=65-k by omega]
       rfl
      case measure=>omega
  ·have r1:(e==0)=false:=by simpa using he
   have HZ:=kf (HTk.out.trans (HEND.out _ _ _ he))
   have HXL:=kf HS.out.g.len
   clear he
   go_wp2_with fail
   go_ret
   rw [HZ.out]
   have h9:=HXL.out
   exact⟨xs,B,d,by rw [h9];rfl,rfl,HS.out.g.ev,HS.out.r,HS.out.o⟩
def secA (B:Option Addr) (n d:Nat) (v:VC):Array Value:=#[.slice B n d,.int .i64 v.k,.int .i64 v.n,.string v.s,.slice v.A v.len v.cap]
def XPTo (w:World) (r:XR) (e:Ending) (w':World):Prop :=
 ∃ (xs:List GC) (B:Option Addr) (d:Nat) (v:VC),e=.returned (.tuple #[.agg (secA B xs.length d v),.int .i64 r.tz,.int .i64 r.e])/\xs.map GC.g=r.gs/\Ev (fun i=>i<w.heap.size) w' (GsIs xs B d)/\Ins (fun i=>i<w.heap.size) w' r.v v/\Chg NoS w w'
theorem set5_chg (w:World) (g:Nat) (a b c d e:Value):Chg (fun i=>i=g) w (((((w.setCell ⟨g,0,none⟩ a).setCell ⟨g,1,none⟩ b).setCell ⟨g,2,none⟩ c).setCell ⟨g,3,none⟩ d).setCell ⟨g,4,none⟩ e) :=
 Chg.setCell (S:=fun i=>i=g) (set4_chg w g a b c d) (p:=⟨g,4,none⟩) (fun _=>rfl) e
theorem Blk.cl5 {w:World} {g:Nat} {T:TypeId} {x0 x1 x2 x3 x4:Value} (h:Blk w g T #[x0,x1,x2,x3,x4]):w.cell? ⟨g,0,none⟩=some x0/\w.cell? ⟨g,1,none⟩=some x1/\w.cell? ⟨g,2,none⟩=some x2/\w.cell? ⟨g,3,none⟩=some x3/\w.cell? ⟨g,4,none⟩=some x4/\w.frozen? ⟨g,0,none⟩=false/\w.frozen? ⟨g,1,none⟩=false/\w.frozen? ⟨g,2,none⟩=false/\w.frozen? ⟨g,3,none⟩=false/\w.frozen? ⟨g,4,none⟩=false :=
 ⟨h.cell 0,h.cell 1,h.cell 2,h.cell 3,h.cell 4,h.frozen 0,h.frozen 1,h.frozen 2,h.frozen 3,h.frozen 4⟩
theorem gs_nil (w:World):GsIs [] none 0 w:=⟨⟨⟨rfl,fun _=>⟨rfl,rfl⟩,fun ad h=>(by cases h)⟩,Nat.le_refl _⟩,fun x hx=>(by cases hx)⟩
set_option maxHeartbeats 16000000 in
set_option maxRecDepth 100000 in
theorem xparse_any (bs:List Nat) (A:Option Addr) (c:Nat) (a:Int) (last:Bool) (w:World) (hB:RSrc w bs A c) :
  Calls Tryz.prog 18 #[.slice A bs.length c,.int .i64 a,.bool last] w (XPTo w (xrfO bs a last)):=by
 have HB2:=kf ((Blk.new w 36 #[.slice none 0 0,.int .i64 0,.int .i64 0,.string ⟨#[]⟩,.slice none 0 0]).alloc (.cells #[.slice A bs.length c,.int .i64 a,.bool last,.int .i64 0] 82))
 have hbr:=Blk.new (w.alloc (.cells #[.slice none 0 0,.int .i64 0,.int .i64 0,.string ⟨#[]⟩,.slice none 0 0] 36)) 82 #[.slice A bs.length c,.int .i64 a,.bool last,.int .i64 0]
 have hc2:=((Chg.refl NoS w).alloc (.cells #[.slice none 0 0,.int .i64 0,.int .i64 0,.string ⟨#[]⟩,.slice none 0 0] 36)).alloc (.cells #[.slice A bs.length c,.int .i64 a,.bool last,.int .i64 0] 82)
 rw [World.size_alloc] at hbr
 obtain⟨R,hR⟩:∃ R,R=w.heap.size+1:=⟨_,rfl⟩
 obtain⟨g6,hg6⟩:∃ g6,g6=w.heap.size:=⟨_,rfl⟩
 have HG:Hid (g6=w.heap.size/\R=w.heap.size+1/\g6≠R):=⟨hg6,hR,by omega⟩
 rw [<- hR] at hbr
 rw [<- hg6] at HB2
 have h0:XB w bs A c R last (a,0) ((w.alloc (.cells #[.slice none 0 0,.int .i64 0,.int .i64 0,.string ⟨#[]⟩,.slice none 0 0] 36)).alloc (.cells #[.slice A bs.length c,.int .i64 a,.bool last,.int .i64 0] 82)):=⟨hbr,hc2,by omega⟩
 have HX0:=kf h0
 have HS2:Hid (((w.alloc (.cells #[.slice none 0 0,.int .i64 0,.int .i64 0,.string ⟨#[]⟩,.slice none 0 0] 36)).alloc (.cells #[.slice A bs.length c,.int .i64 a,.bool last,.int .i64 0] 82)).heap.size=w.heap.size+2):=by show _=_;simp
 have HZO:=kf (show xrfO bs a last=if (dicX bs last (grpX bs last 66 (wrdS bs last sXref (a,0)) []).2).2.2≠0 then⟨[],nilT,0,(dicX bs last (grpX bs last 66 (wrdS bs last sXref (a,0)) []).2).2.2⟩ else⟨(grpX bs last 66 (wrdS bs last sXref (a,0)) []).1,(dicX bs last (grpX bs last 66 (wrdS bs last sXref (a,0)) []).2).1,(dicX bs last (grpX bs last 66 (wrdS bs last sXref (a,0)) []).2).2.1,0⟩ from rfl)
 have hf1:=wrd_fn (bs:=bs) (last:=last) (S:=sXref) (s:=(a,0))
 obtain⟨S1,hS1⟩:∃ S1,S1=wrdS bs last sXref (a,0):=⟨_,rfl⟩
 have HW:=kf (fun W (hW:XB w bs A c R last (a,0) W)=>xwrd_any hB hW sXref)
 rw [<- hS1] at HZO hf1 HW
 have HGR:=kf (fun W (hW:XB w bs A c R last S1 W)=>xgrp_any hB hW hf1)
 obtain⟨S2,hS2⟩:∃ S2,S2=grpX bs last 66 S1 []:=⟨_,rfl⟩
 rw [<- hS2] at HZO HGR
 obtain⟨gs,s2⟩:=S2
 simp only [] at HZO HGR
 have HDI:=kf (fun W (hW:XB w bs A c R last s2 W)=>xdict_any hB hW)
 obtain⟨S3,hS3⟩:∃ S3,S3=dicX bs last s2:=⟨_,rfl⟩
 rw [<- hS3] at HZO HDI
 obtain⟨t,ta,te⟩:=S3
 simp only [] at HZO HDI
 clear hbr hc2 hR hg6 h0 hB hf1 hS1 hS2 hS3
 go_enter Tryz.func18,Tryz.ntmps18
 go_upto_region 2 with fail
 rw [<- HG.out.2.1,<- HG.out.1]
 obtain⟨w2,hw2⟩:∃ w2,w2=(w.alloc (.cells #[.slice none 0 0,.int .i64 0,.int .i64 0,.string ⟨#[]⟩,.slice none 0 0] 36)).alloc (.cells #[.slice A bs.length c,.int .i64 a,.bool last,.int .i64 0] 82):=⟨_,rfl⟩
 rw [<- hw2] at HB2 HX0 HS2 ⊢
 clear hw2
 go_upto_region 3 with(go_at_call 40;refine(HW.out _ HX0.out).mono ?_;rintro e w3 ⟨rfl,hr3,hc3⟩;have HX3:=kf hr3;have HB3:=kf (HB2.out.chg hc3 HG.out.2.2);have HZ3:=kf hc3.size;clear hr3 hc3)
 go_upto_region 4 with(go_at_call 41;refine(HGR.out _ HX3.out).mono ?_;rintro e w4 ⟨xs,B,d,rfl,hgs,hev4,hr4,hc4⟩;have HX4:=kf hr4;have HB4:=kf (HB3.out.chg hc4 HG.out.2.2);have HZ4:=kf hc4.size;have HGS:=kf hgs;have HEV4:=kf hev4;clear hr4 hc4 hgs hev4)
 go_upto_region 5 with(go_at_call 42;refine(HDI.out _ HX4.out).mono ?_;rintro e w5 ⟨⟨vk,vn,vs,vA,vl,vc⟩,rfl,hin5,hr5,hc5⟩;have HX5:=kf hr5;have HB5:=kf (HB4.out.chg hc5 HG.out.2.2);have HIN5:=kf hin5;have HEV5:=kf (HEV4.out.turn (O':=fun i=>i<w2.heap.size) (hc5.mono (fun i _ e=>by rw [e];have:=HG.out.2.1;have:=HS2.out;have:=HZ3.out;omega)) (fun i _ h=>by have:=HZ3.out;omega));have HZ5:=kf hc5.size;clear hr5 hc5 hin5;unfold VC.val;simp only [])
 have HA6:=kf ((Chg.refl NoS w5).alloc (.cells #[.int .i64 vk,.int .i64 vn,.string vs,.slice vA vl vc] 25))
 have HB11:=kf (Blk.new w5 25 #[.int .i64 vk,.int .i64 vn,.string vs,.slice vA vl vc])
 have HX6:=kf (HX5.out.call HA6.out)
 have HB6:=kf (HB5.out.alloc (.cells #[.int .i64 vk,.int .i64 vn,.string vs,.slice vA vl vc] 25))
 have HEV6:=kf (HEV5.out.chg HA6.out)
 have HIN6:=kf (HIN5.out.chg HA6.out)
 obtain⟨W6,hW6⟩:∃ W6,W6=w5.alloc (.cells #[.int .i64 vk,.int .i64 vn,.string vs,.slice vA vl vc] 25):=⟨_,rfl⟩
 obtain⟨g11,hg11⟩:∃ g11,g11=w5.heap.size:=⟨_,rfl⟩
 have HN11:Hid (g11≠g6/\g11≠R/\g6≠g11/\R≠g11/\g6≠R/\R≠g6/\g6=w.heap.size):=by
  have h1:=HG.out
  have h2:=HS2.out
  have h3:=HZ3.out
  have h4:=HZ4.out
  have h5:=HZ5.out
  show _/\_/\_/\_/\_/\_/\_
  refine⟨?_,?_,?_,?_,?_,?_,?_⟩<;>omega
 have HIN7:=kf (HIN6.out.turn (O':=fun i=>i<w2.heap.size) (Chg.refl _ _) (fun i _ h=>by have:=HZ3.out;have:=HZ4.out;omega))
 rw [<- hW6] at HX6 HB6 HEV6 HIN7 HB11 ⊢
 rw [<- hg11] at HB11 ⊢
 clear hW6 hg11 HA6 HEV5 HIN5 HIN6 HX5 HB5 HX4 HB4 HX3 HB3 HEV4
 obtain⟨q0,q1,q2,q3,z1,z3⟩:=HX6.out.cells
 obtain⟨r0,r1,r2,r3,r4,u0,u1,u2,u3,u4⟩:=HB6.out.cl5
 obtain⟨p0,p1,p2,p3,y0,y1,y2,y3⟩:=HB11.out.cl4
 obtain⟨n1,n2,n3,n4,n5,n6,-⟩:=HN11.out
 simp only [] at q1 q3
 by_cases hte:te=0
 ·subst hte
  have HZ:=kf (HZO.out.trans (if_neg (by simp)))
  clear HZO
  go_upto_region 7 with fail
  go_region
  all_goals
   try go_wp2_with fail
   refine bodyPost_ret (v:=.tuple #[.agg #[.slice B xs.length d,.int .i64 vk,.int .i64 vn,.string vs,.slice vA vl vc],.int .i64 ta,.int .i64 0]) (by simp [results,Tryz.results18,go_sem,r0,r1,r2,r3,r4]) rfl ?_
   rw [HZ.out]
   have hlast:=(set5_chg W6.drew g6 (.slice B xs.length d) (.int .i64 vk) (.int .i64 vn) (.string vs) (.slice vA vl vc))
   have hO:∀ i,i=g6->i<w2.heap.size:=fun i e=>by have:=HG.out;have:=HS2.out;omega
   exact⟨xs,B,d,⟨vk,vn,vs,vA,vl,vc⟩,rfl,HGS.out,(HEV6.out.turn (O':=fun i=>i<w2.heap.size) ((Chg.refl _ W6).drew.trans (hlast.mono (fun i _ e=>hO i e)) (fun _ _ e=>e)) (fun _ _ h=>h)).turn (Chg.refl _ _) (fun i _ h=>by have:=HS2.out;omega),(HIN7.out.turn (O':=fun i=>i<w2.heap.size) ((Chg.refl _ W6).drew.trans (hlast.mono (fun i _ e=>hO i e)) (fun _ _ e=>e)) (fun _ _ h=>h)).turn (Chg.refl _ _) (fun i _ h=>by have:=HS2.out;omega),HX6.out.chg.trans ((Chg.refl _ W6).drew.trans hlast (fun _ _ e=>e)) (fun i hi e=>by have:=HG.out;omega)⟩
 ·have e1:(te==0)=false:=by simpa using hte
  have e2:(te != 0)=true:=by simpa using hte
  have HZ:=kf (HZO.out.trans (if_pos hte))
  clear HZO hte
  go_upto_region 6 with fail
  go_region
  all_goals
   try go_wp2_with fail
   refine bodyPost_ret (v:=.tuple #[.agg #[.slice none 0 0,.int .i64 0,.int .i64 0,.string ⟨#[]⟩,.slice none 0 0],.int .i64 0,.int .i64 te]) (by simp [results,Tryz.results18,go_sem,r0,r1,r2,r3,r4]) rfl ?_
   rw [HZ.out]
   have hlast:=(set5_chg W6.drew g6 (.slice none 0 0) (.int .i64 0) (.int .i64 0) (.string ⟨#[]⟩) (.slice none 0 0))
   exact⟨[],none,0,⟨0,0,⟨#[]⟩,none,0,0⟩,rfl,rfl,fun V _=>gs_nil V,ins_leaf _ _ 0 0 ⟨#[]⟩ (by decide) (by decide) (by decide),HX6.out.chg.trans ((Chg.refl _ W6).drew.trans hlast (fun _ _ e=>e)) (fun i hi e=>by have:=HG.out;omega)⟩
theorem ev_nos {O:Nat->Prop} {w:World} {P:World->Prop} (h:Ev O w P):Ev NoS w P:=fun V hV=>h V (hV.mono (fun _ _ e=>e.elim))
end Go.Proofs.YthejpkflcgjdoaaGreatDoor
