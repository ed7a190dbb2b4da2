/- Merged by program. -/
import Derived.Test.YthejpkflcgjdoaaGreatDoorE07
import Derived.Test.YthejpkflcgjdoaaGreatDoorE08
import Derived.Test.YthejpkflcgjdoaaGreatDoorE10
set_option linter.unusedVariables false
set_option linter.unusedSimpArgs false
namespace Go.Proofs.YthejpkflcgjdoaaGreatDoor
open Go.RowKit
set_option maxHeartbeats 4000000 in
theorem parse_any (s:ByteArray) (w:World) (hl:s.size<=500000):Calls Tryz.prog 213 #[.string s] w (PaTo w (sl s)):=by
 have hlt:=signed_lt (sl_lt s)
 have hlen:(signed (sl s)).2.length<=500000:=Nat.le_trans (signed_len _) (by rw [sl_len];exact hl)
 have HBAD:=kf (num_bad (sl s))
 have HNUM:=kf (num_P (sl s))
 have HU:=kf (fun W=>unsigned_any s W)
 generalize signed (sl s)=t at hlt hlen HBAD HNUM HU
 obtain⟨sg,m⟩:=t
 simp only at hlt hlen HBAD HNUM HU
 have HK:=kf (fun W=>cut_any m hlt (by omega) W)
 have hab:=cutN_lt hlt
 have hal:=cutN_len m
 generalize cutN m=t at HBAD HNUM HK hab hal
 obtain⟨a,b,f⟩:=t
 simp only at HBAD HNUM HK hab hal
 have hsa:=sl_sb a hab.1
 have hsb:=sl_sb b hab.2
 have HAa:=kf (fun W=>alld_any (sb a) W (by rw [sb_size];omega))
 have HAb:=kf (fun W=>alld_any (sb b) W (by rw [sb_size];omega))
 have HCn:=kf (fun(h:allD (sl (sb a))) W=>count_any (sb a) W (by rw [sb_size];omega) h)
 have HMi:=kf (fun(h:allD (sl (sb b))) W=>mil_any (sb b) W (by rw [sb_size];omega) h)
 rw [hsa] at HAa HCn
 rw [hsb] at HAb HMi
 obtain⟨rs,hrs⟩:∃ x,sb m=x:=⟨_,rfl⟩
 rw [hrs] at HU HK
 have hza:(sb a).size=a.length:=sb_size a
 have hzb:(sb b).size=b.length:=sb_size b
 obtain⟨ta,hta⟩:∃ x,sb a=x:=⟨_,rfl⟩
 obtain⟨tb,htb⟩:∃ x,sb b=x:=⟨_,rfl⟩
 rw [hta] at HAa HCn hza HK
 rw [htb] at HAb HMi hzb HK
 clear hl hlt hlen hab hal hsa hsb hrs hta htb
 by_cases hA:allD a
 ·by_cases hB:allD b
  ·by_cases hE:a=[]/\b=[]
   ·have HN:=kf (HBAD.out (.inl hE))
    have ha:a.length=0:=by rw [hE.1];rfl
    obtain rfl:ta=⟨#[]⟩:=str_nil (by rw [hza];exact ha)
    obtain rfl:tb=⟨#[]⟩:=str_nil (by rw [hzb,hE.2];rfl)
    clear HAa HAb HCn HMi HBAD HNUM hA hB hE ha hza hzb
    go_enter Tryz.func213,Tryz.ntmps213
    go_upto_region 1 with fail
    have HR:=kf (⟨Blk.new w 25 #[.int .i64 0,.int .i64 0,.string ⟨#[]⟩,.slice none 0 0],Nat.le_refl _⟩:PB w _ w.heap.size _)
    have HC:=kf ((Chg.refl NoS w).alloc (.cells #[.int .i64 0,.int .i64 0,.string ⟨#[]⟩,.slice none 0 0] 25))
    obtain⟨W,hW⟩:∃ W,W=w.alloc (.cells #[.int .i64 0,.int .i64 0,.string ⟨#[]⟩,.slice none 0 0] 25):=⟨_,rfl⟩
    rw [<- hW] at HR HC ⊢
    clear hW
    obtain⟨g,hg⟩:∃ g,g=w.heap.size:=⟨_,rfl⟩
    rw [<- hg] at HR ⊢
    clear hg
    go_upto_region 3 with first|(go_at_call 229;refine(HU.out _).mono ?_;rintro e w1 ⟨rfl,rfl⟩)|(go_at_call 210;refine(HK.out _).mono ?_;rintro e w2 ⟨rfl,hc2⟩;have HR2:=kf (HR.out.call hc2);have HC3:=kf (HC.out.trans hc2 (fun _ _ h=>h));clear hc2)
    go_upto_region 4 with fail
    have z0:=HR2.out.blk.frozen 0
    have z1:=HR2.out.blk.frozen 1
    have z2:=HR2.out.blk.frozen 2
    have z3:=HR2.out.blk.frozen 3
    have r0:=HR2.out.blk.cell 0
    have r1:=HR2.out.blk.cell 1
    have r2:=HR2.out.blk.cell 2
    have r3:=HR2.out.blk.cell 3
    simp at r0 r1 r2 r3
    go_wp2_with fail
    try simp only [Exit.noGoto_ret]
    obtain⟨hb,hcc⟩:=HR2.out.set4 (a:=.int .i64 0) (b:=.int .i64 0) (c:=.string ⟨#[]⟩) (d:=.slice none 0 0) HC3.out rfl
    clear r0 r1 r2 r3
    have r0:=hb.blk.cell 0
    have r1:=hb.blk.cell 1
    have r2:=hb.blk.cell 2
    have r3:=hb.blk.cell 3
    simp at r0 r1 r2 r3
    refine bodyPost_ret (v:=.tuple #[.agg #[.int .i64 0,.int .i64 0,.string ⟨#[]⟩,.slice none 0 0],.int .i64 11]) (by simp [results,Tryz.results213,go_sem,r0,r1,r2,r3]) rfl ?_
    exact PaTo.of HN.out hcc
   ·have HNU:=kf (HNUM.out (by rintro(h|h|h);exact hE h;exact h hA;exact h hB))
    have hml:=mil_lt hB
    obtain⟨v,hv⟩:∃ v,min (valF 0 a) 2147483648=v:=⟨_,rfl⟩
    obtain⟨p,hp⟩:∃ p,milF 0 b=p:=⟨_,rfl⟩
    have HAa2:Hid (∀ W,Calls Tryz.prog 190 #[.string ta] W fun e w'=>e=.returned (.bool true)/\Chg NoS W w'):=fun W=>by
     have h:=HAa.out W
     rw [decide_eq_true hA] at h
     exact h
    have HAb2:Hid (∀ W,Calls Tryz.prog 190 #[.string tb] W fun e w'=>e=.returned (.bool true)/\Chg NoS W w'):=fun W=>by
     have h:=HAb.out W
     rw [decide_eq_true hB] at h
     exact h
    have HC2:=kf (HCn.out hA)
    have HM2:=kf (HMi.out hB)
    rw [hv] at HC2
    rw [hp] at HM2 hml
    have hv9:v<=2147483648:=by omega
    have HX:Hid (∀ f,xP a b f=if f then v*1000000+p else v):=fun f=>by
     unfold xP
     rw [hv,hp]
    clear HAa HAb HCn HMi HBAD HNUM hA hB hv hp
    by_cases ha:a.length=0
    ·have hb:b.length≠0:=fun h=>hE ⟨List.eq_nil_of_length_eq_zero ha,List.eq_nil_of_length_eq_zero h⟩
     obtain rfl:ta=⟨#[]⟩:=str_nil (by rw [hza];exact ha)
     have u2:=str_em (s:=tb) (by rw [hzb];exact hb)
     clear hza hzb ha hb hE
     go_enter Tryz.func213,Tryz.ntmps213
     go_upto_region 1 with fail
     have HR:=kf (⟨Blk.new w 25 #[.int .i64 0,.int .i64 0,.string ⟨#[]⟩,.slice none 0 0],Nat.le_refl _⟩:PB w _ w.heap.size _)
     have HC:=kf ((Chg.refl NoS w).alloc (.cells #[.int .i64 0,.int .i64 0,.string ⟨#[]⟩,.slice none 0 0] 25))
     obtain⟨W,hW⟩:∃ W,W=w.alloc (.cells #[.int .i64 0,.int .i64 0,.string ⟨#[]⟩,.slice none 0 0] 25):=⟨_,rfl⟩
     rw [<- hW] at HR HC ⊢
     clear hW
     obtain⟨g,hg⟩:∃ g,g=w.heap.size:=⟨_,rfl⟩
     rw [<- hg] at HR ⊢
     clear hg
     go_upto_region 3 with first|(go_at_call 229;refine(HU.out _).mono ?_;rintro e w1 ⟨rfl,rfl⟩)|(go_at_call 210;refine(HK.out _).mono ?_;rintro e w2 ⟨rfl,hc2⟩;have HR2:=kf (HR.out.call hc2);have HC3:=kf (HC.out.trans hc2 (fun _ _ h=>h));clear hc2)
     go_upto_region 5 with first|(go_at_call 190;have hx:=HR3.out;clear hx;refine(HAb2.out _).mono ?_;rintro e w4 ⟨rfl,hc4⟩;have HR4:=kf (HR3.out.call hc4);have HC5:=kf (HC4.out.trans hc4 (fun _ _ h=>h));clear hc4)|(go_at_call 190;refine(HAa2.out _).mono ?_;rintro e w3 ⟨rfl,hc3⟩;have HR3:=kf (HR2.out.call hc3);have HC4:=kf (HC3.out.trans hc3 (fun _ _ h=>h));clear hc3)
     go_upto_region 6 with(go_at_call 191;refine(HC2.out _).mono ?_;rintro e w5 ⟨rfl,hc5⟩;have HR5:=kf (HR4.out.call hc5);have HC6:=kf (HC5.out.trans hc5 (fun _ _ h=>h));clear hc5)
     have HV6:=kf (⟨Blk.new w5 25 #[.int .i64 2,.int .i64 (v:Int),.string ⟨#[]⟩,.slice none 0 0],HC6.out.size⟩:PB w _ w5.heap.size _)
     have HR6:=kf (HR5.out.alloc (.cells #[.int .i64 2,.int .i64 (v:Int),.string ⟨#[]⟩,.slice none 0 0] 25))
     have HC7:=kf (HC6.out.alloc (.cells #[.int .i64 2,.int .i64 (v:Int),.string ⟨#[]⟩,.slice none 0 0] 25))
     have HNE:=kf (Nat.ne_of_lt HR5.out.blk.lt)
     obtain⟨W6,hW⟩:∃ W,W=w5.alloc (.cells #[.int .i64 2,.int .i64 (v:Int),.string ⟨#[]⟩,.slice none 0 0] 25):=⟨_,rfl⟩
     rw [<- hW] at HV6 HR6 HC7 ⊢
     clear hW
     obtain⟨gv,hg⟩:∃ g,g=w5.heap.size:=⟨_,rfl⟩
     rw [<- hg] at HV6 HNE ⊢
     clear hg HR2 HR3 HR4 HR5 HC3 HC4 HC5 HC6
     cases f with
     |false =>
      have HXE:Hid (xP a b false=v):=by
       show _=_
       rw [HX.out false]
       rfl
      obtain⟨W8,hW⟩:∃ W,W=W6:=⟨_,rfl⟩
      have HV8:=HV6
      have HR8:=HR6
      have HC9:=HC7
      rw [<- hW] at HV8 HR8 HC9 ⊢
      clear hW HV6 HR6 HC7
      cases sg with
      |true =>
       have q1:=HV8.out.blk.cell 1
       have z1:=HV8.out.blk.frozen 1
       simp at q1
       go_upto_region 10 with fail
       clear q1 z1
       have HV9:Hid (PB w (W8.setCell ⟨gv,1,none⟩ (.int .i64 (-(v:Int)))) gv #[.int .i64 2,.int .i64 (-(v:Int)),.string ⟨#[]⟩,.slice none 0 0]):=HV8.out.set 1 _
       have HR9:=kf (HR8.out.far HNE.out 1 (.int .i64 (-(v:Int))))
       have HC10:=kf (HV8.out.chg HC9.out 1 (.int .i64 (-(v:Int))))
       obtain⟨W9,hW⟩:∃ W,W=W8.setCell ⟨gv,1,none⟩ (.int .i64 (-(v:Int))):=⟨_,rfl⟩
       rw [<- hW] at HV9 HR9 HC10 ⊢
       clear hW
       have HCH:=kf (fun W=>chk_any 2 (-(v:Int)) ⟨#[]⟩ none 0 0 W)
       by_cases hle:v<=2147483647
       ·have hk:chkOf 2 (-(v:Int)) (ByteArray.mk #[]).size 0=0:=if_pos ⟨rfl,rfl,by unfold mayN;omega⟩
        have HCK:Hid (∀ W,Calls Tryz.prog 103 #[.agg #[.int .i64 2,.int .i64 (-(v:Int)),.string ⟨#[]⟩,.slice none 0 0]] W fun e w'=>e=.returned (.int .i64 0)/\Chg NoS W w'):=fun W=>by
         have h:=HCH.out W
         rw [hk] at h
         exact h
        have HN:Hid (numOf (sl s)=(0,2,-(v:Int))):=by
         show _=_
         rw [HNU.out,numP,if_pos (by rw [HXE.out];exact hle),HXE.out]
         rfl
        clear hle hk HCH HNU
        have q0:=HV9.out.blk.cell 0
        have q1:=HV9.out.blk.cell 1
        have q2:=HV9.out.blk.cell 2
        have q3:=HV9.out.blk.cell 3
        simp at q0 q1 q2 q3
        go_upto_region 12 with(go_at_call 103;refine(HCK.out _).mono ?_;rintro e w11 ⟨rfl,hc11⟩;have HR11:=kf (HR9.out.call hc11);have HV11:=kf (HV9.out.call hc11);have HC12:=kf (HC10.out.trans hc11 (fun _ _ h=>h));clear hc11)
        clear q0 q1 q2 q3
        have z0:=HR11.out.blk.frozen 0
        have z1:=HR11.out.blk.frozen 1
        have z2:=HR11.out.blk.frozen 2
        have z3:=HR11.out.blk.frozen 3
        have r0:=HR11.out.blk.cell 0
        have r1:=HR11.out.blk.cell 1
        have r2:=HR11.out.blk.cell 2
        have r3:=HR11.out.blk.cell 3
        have q0:=HV11.out.blk.cell 0
        have q1:=HV11.out.blk.cell 1
        have q2:=HV11.out.blk.cell 2
        have q3:=HV11.out.blk.cell 3
        simp at r0 r1 r2 r3 q0 q1 q2 q3
        go_wp2_with fail
        try simp only [Exit.noGoto_ret]
        obtain⟨hb,hcc⟩:=HR11.out.set4 (a:=.int .i64 2) (b:=.int .i64 (-(v:Int))) (c:=.string ⟨#[]⟩) (d:=.slice none 0 0) HC12.out rfl
        clear r0 r1 r2 r3
        have r0:=hb.blk.cell 0
        have r1:=hb.blk.cell 1
        have r2:=hb.blk.cell 2
        have r3:=hb.blk.cell 3
        simp at r0 r1 r2 r3
        refine bodyPost_ret (v:=.tuple #[.agg #[.int .i64 2,.int .i64 (-(v:Int)),.string ⟨#[]⟩,.slice none 0 0],.int .i64 0]) (by simp [results,Tryz.results213,go_sem,r0,r1,r2,r3]) rfl ?_
        exact PaTo.of HN.out hcc
       ·have hk:chkOf 2 (-(v:Int)) (ByteArray.mk #[]).size 0=2:=if_neg (fun h=>by have h:=h.2.2;unfold mayN at h;omega)
        have HCK:Hid (∀ W,Calls Tryz.prog 103 #[.agg #[.int .i64 2,.int .i64 (-(v:Int)),.string ⟨#[]⟩,.slice none 0 0]] W fun e w'=>e=.returned (.int .i64 2)/\Chg NoS W w'):=fun W=>by
         have h:=HCH.out W
         rw [hk] at h
         exact h
        have HN:Hid (numOf (sl s)=(5,0,0)):=by
         show _=_
         rw [HNU.out,numP,if_neg (by rw [HXE.out];exact hle)]
        clear hle hk HCH HNU
        have q0:=HV9.out.blk.cell 0
        have q1:=HV9.out.blk.cell 1
        have q2:=HV9.out.blk.cell 2
        have q3:=HV9.out.blk.cell 3
        simp at q0 q1 q2 q3
        go_upto_region 11 with(go_at_call 103;refine(HCK.out _).mono ?_;rintro e w11 ⟨rfl,hc11⟩;have HR11:=kf (HR9.out.call hc11);have HV11:=kf (HV9.out.call hc11);have HC12:=kf (HC10.out.trans hc11 (fun _ _ h=>h));clear hc11)
        clear q0 q1 q2 q3
        have z0:=HR11.out.blk.frozen 0
        have z1:=HR11.out.blk.frozen 1
        have z2:=HR11.out.blk.frozen 2
        have z3:=HR11.out.blk.frozen 3
        have r0:=HR11.out.blk.cell 0
        have r1:=HR11.out.blk.cell 1
        have r2:=HR11.out.blk.cell 2
        have r3:=HR11.out.blk.cell 3
        simp at r0 r1 r2 r3
        go_wp2_with fail
        try simp only [Exit.noGoto_ret]
        obtain⟨hb,hcc⟩:=HR11.out.set4 (a:=.int .i64 0) (b:=.int .i64 0) (c:=.string ⟨#[]⟩) (d:=.slice none 0 0) HC12.out rfl
        clear r0 r1 r2 r3
        have r0:=hb.blk.cell 0
        have r1:=hb.blk.cell 1
        have r2:=hb.blk.cell 2
        have r3:=hb.blk.cell 3
        simp at r0 r1 r2 r3
        refine bodyPost_ret (v:=.tuple #[.agg #[.int .i64 0,.int .i64 0,.string ⟨#[]⟩,.slice none 0 0],.int .i64 5]) (by simp [results,Tryz.results213,go_sem,r0,r1,r2,r3]) rfl ?_
        exact PaTo.of HN.out hcc
      |false =>
       have HV9:=HV8
       have HR9:=HR8
       have HC10:=HC9
       have HCH:=kf (fun W=>chk_any 2 ((v:Int)) ⟨#[]⟩ none 0 0 W)
       by_cases hle:v<=2147483647
       ·have hk:chkOf 2 ((v:Int)) (ByteArray.mk #[]).size 0=0:=if_pos ⟨rfl,rfl,by unfold mayN;omega⟩
        have HCK:Hid (∀ W,Calls Tryz.prog 103 #[.agg #[.int .i64 2,.int .i64 ((v:Int)),.string ⟨#[]⟩,.slice none 0 0]] W fun e w'=>e=.returned (.int .i64 0)/\Chg NoS W w'):=fun W=>by
         have h:=HCH.out W
         rw [hk] at h
         exact h
        have HN:Hid (numOf (sl s)=(0,2,(v:Int))):=by
         show _=_
         rw [HNU.out,numP,if_pos (by rw [HXE.out];exact hle),HXE.out]
         rfl
        clear hle hk HCH HNU
        have q0:=HV9.out.blk.cell 0
        have q1:=HV9.out.blk.cell 1
        have q2:=HV9.out.blk.cell 2
        have q3:=HV9.out.blk.cell 3
        simp at q0 q1 q2 q3
        go_upto_region 12 with(go_at_call 103;refine(HCK.out _).mono ?_;rintro e w11 ⟨rfl,hc11⟩;have HR11:=kf (HR9.out.call hc11);have HV11:=kf (HV9.out.call hc11);have HC12:=kf (HC10.out.trans hc11 (fun _ _ h=>h));clear hc11)
        clear q0 q1 q2 q3
        have z0:=HR11.out.blk.frozen 0
        have z1:=HR11.out.blk.frozen 1
        have z2:=HR11.out.blk.frozen 2
        have z3:=HR11.out.blk.frozen 3
        have r0:=HR11.out.blk.cell 0
        have r1:=HR11.out.blk.cell 1
        have r2:=HR11.out.blk.cell 2
        have r3:=HR11.out.blk.cell 3
        have q0:=HV11.out.blk.cell 0
        have q1:=HV11.out.blk.cell 1
        have q2:=HV11.out.blk.cell 2
        have q3:=HV11.out.blk.cell 3
        simp at r0 r1 r2 r3 q0 q1 q2 q3
        go_wp2_with fail
        try simp only [Exit.noGoto_ret]
        obtain⟨hb,hcc⟩:=HR11.out.set4 (a:=.int .i64 2) (b:=.int .i64 ((v:Int))) (c:=.string ⟨#[]⟩) (d:=.slice none 0 0) HC12.out rfl
        clear r0 r1 r2 r3
        have r0:=hb.blk.cell 0
        have r1:=hb.blk.cell 1
        have r2:=hb.blk.cell 2
        have r3:=hb.blk.cell 3
        simp at r0 r1 r2 r3
        refine bodyPost_ret (v:=.tuple #[.agg #[.int .i64 2,.int .i64 ((v:Int)),.string ⟨#[]⟩,.slice none 0 0],.int .i64 0]) (by simp [results,Tryz.results213,go_sem,r0,r1,r2,r3]) rfl ?_
        exact PaTo.of HN.out hcc
       ·have hk:chkOf 2 ((v:Int)) (ByteArray.mk #[]).size 0=2:=if_neg (fun h=>by have h:=h.2.2;unfold mayN at h;omega)
        have HCK:Hid (∀ W,Calls Tryz.prog 103 #[.agg #[.int .i64 2,.int .i64 ((v:Int)),.string ⟨#[]⟩,.slice none 0 0]] W fun e w'=>e=.returned (.int .i64 2)/\Chg NoS W w'):=fun W=>by
         have h:=HCH.out W
         rw [hk] at h
         exact h
        have HN:Hid (numOf (sl s)=(5,0,0)):=by
         show _=_
         rw [HNU.out,numP,if_neg (by rw [HXE.out];exact hle)]
        clear hle hk HCH HNU
        have q0:=HV9.out.blk.cell 0
        have q1:=HV9.out.blk.cell 1
        have q2:=HV9.out.blk.cell 2
        have q3:=HV9.out.blk.cell 3
        simp at q0 q1 q2 q3
        go_upto_region 11 with(go_at_call 103;refine(HCK.out _).mono ?_;rintro e w11 ⟨rfl,hc11⟩;have HR11:=kf (HR9.out.call hc11);have HV11:=kf (HV9.out.call hc11);have HC12:=kf (HC10.out.trans hc11 (fun _ _ h=>h));clear hc11)
        clear q0 q1 q2 q3
        have z0:=HR11.out.blk.frozen 0
        have z1:=HR11.out.blk.frozen 1
        have z2:=HR11.out.blk.frozen 2
        have z3:=HR11.out.blk.frozen 3
        have r0:=HR11.out.blk.cell 0
        have r1:=HR11.out.blk.cell 1
        have r2:=HR11.out.blk.cell 2
        have r3:=HR11.out.blk.cell 3
        simp at r0 r1 r2 r3
        go_wp2_with fail
        try simp only [Exit.noGoto_ret]
        obtain⟨hb,hcc⟩:=HR11.out.set4 (a:=.int .i64 0) (b:=.int .i64 0) (c:=.string ⟨#[]⟩) (d:=.slice none 0 0) HC12.out rfl
        clear r0 r1 r2 r3
        have r0:=hb.blk.cell 0
        have r1:=hb.blk.cell 1
        have r2:=hb.blk.cell 2
        have r3:=hb.blk.cell 3
        simp at r0 r1 r2 r3
        refine bodyPost_ret (v:=.tuple #[.agg #[.int .i64 0,.int .i64 0,.string ⟨#[]⟩,.slice none 0 0],.int .i64 5]) (by simp [results,Tryz.results213,go_sem,r0,r1,r2,r3]) rfl ?_
        exact PaTo.of HN.out hcc
     |true =>
      go_upto_region 7 with fail
      obtain⟨y,hy⟩:∃ y:Nat,v*1000000=y:=⟨_,rfl⟩
      obtain⟨x,hx⟩:∃ x:Nat,y+p=x:=⟨_,rfl⟩
      have e1:(v:Int)*1000000=(y:Int):=by omega
      have e2:(y:Int)+(p:Int)=(x:Int):=by omega
      have hy9:y<=2147483648000000:=by omega
      have hx9:x<=2147483649000000:=by omega
      have k1:IntKind.i64.wrap (y:Int)=(y:Int):=by rw [IntKind.wrap_i64];omega
      have k2:IntKind.i64.wrap (x:Int)=(x:Int):=by rw [IntKind.wrap_i64];omega
      have HXE:Hid (xP a b true=x):=by
       show _=_
       rw [HX.out true,<- hx,<- hy]
       rfl
      clear hx hy
      have q1:=HV6.out.blk.cell 1
      have z0:=HV6.out.blk.frozen 0
      have z1:=HV6.out.blk.frozen 1
      have z2:=HV6.out.blk.frozen 2
      have z3:=HV6.out.blk.frozen 3
      simp at q1
      go_region_with (go_at_call 230;refine(HM2.out _).mono ?_;rintro e w7 ⟨rfl,hc7⟩;have HR7:=kf (HR6.out.drew.call hc7);have HV7:=kf (HV6.out.drew.call hc7);have HC8:=kf (HC7.out.drew.trans hc7 (fun _ _ h=>h));clear hc7;have q0':=HV7.out.blk.cell 0;have q1':=HV7.out.blk.cell 1;have q2':=HV7.out.blk.cell 2;have q3':=HV7.out.blk.cell 3;have z0':=HV7.out.blk.frozen 0;have z1':=HV7.out.blk.frozen 1;have z2':=HV7.out.blk.frozen 2;have z3':=HV7.out.blk.frozen 3;simp at q0' q1' q2' q3')
      all_goals
       try rw [k1,e2,k2]
       obtain⟨hv8,hc8⟩:=HV7.out.set4 (a:=.int .i64 3) (b:=.int .i64 (x:Int)) (c:=.string ⟨#[]⟩) (d:=.slice none 0 0) HC8.out rfl
       have hr8:=HR7.out.far4 (a:=.int .i64 3) (b:=.int .i64 (x:Int)) (c:=.string ⟨#[]⟩) (d:=.slice none 0 0) HNE.out
       have HV8:=kf hv8
       have HR8:=kf hr8
       have HC9:=kf hc8
       clear hv8 hr8 hc8
       obtain⟨W8,hW⟩:∃ W,W=((((w7.setCell ⟨gv,0,none⟩ (.int .i64 3)).setCell ⟨gv,1,none⟩ (.int .i64 (x:Int))).setCell ⟨gv,2,none⟩ (.string ⟨#[]⟩)).setCell ⟨gv,3,none⟩ (.slice none 0 0)):=⟨_,rfl⟩
       rw [<- hW] at HV8 HR8 HC9 ⊢
       clear hW q1 z0 z1 z2 z3 q0' q1' q2' q3' z0' z1' z2' z3' HV6 HR6 HC7 HV7 HR7 HC8 k1 k2 e1 e2 hy9
       cases sg with
       |true =>
        have q1:=HV8.out.blk.cell 1
        have z1:=HV8.out.blk.frozen 1
        simp at q1
        go_upto_region 10 with fail
        clear q1 z1
        have HV9:Hid (PB w (W8.setCell ⟨gv,1,none⟩ (.int .i64 (-(x:Int)))) gv #[.int .i64 3,.int .i64 (-(x:Int)),.string ⟨#[]⟩,.slice none 0 0]):=HV8.out.set 1 _
        have HR9:=kf (HR8.out.far HNE.out 1 (.int .i64 (-(x:Int))))
        have HC10:=kf (HV8.out.chg HC9.out 1 (.int .i64 (-(x:Int))))
        obtain⟨W9,hW⟩:∃ W,W=W8.setCell ⟨gv,1,none⟩ (.int .i64 (-(x:Int))):=⟨_,rfl⟩
        rw [<- hW] at HV9 HR9 HC10 ⊢
        clear hW
        have HCH:=kf (fun W=>chk_any 3 (-(x:Int)) ⟨#[]⟩ none 0 0 W)
        by_cases hle:x<=2147483647000000
        ·have hk:chkOf 3 (-(x:Int)) (ByteArray.mk #[]).size 0=0:=if_pos ⟨rfl,rfl,by unfold mayN;omega⟩
         have HCK:Hid (∀ W,Calls Tryz.prog 103 #[.agg #[.int .i64 3,.int .i64 (-(x:Int)),.string ⟨#[]⟩,.slice none 0 0]] W fun e w'=>e=.returned (.int .i64 0)/\Chg NoS W w'):=fun W=>by
          have h:=HCH.out W
          rw [hk] at h
          exact h
         have HN:Hid (numOf (sl s)=(0,3,-(x:Int))):=by
          show _=_
          rw [HNU.out,numP,if_pos (by rw [HXE.out];exact hle),HXE.out]
          rfl
         clear hle hk HCH HNU
         have q0:=HV9.out.blk.cell 0
         have q1:=HV9.out.blk.cell 1
         have q2:=HV9.out.blk.cell 2
         have q3:=HV9.out.blk.cell 3
         simp at q0 q1 q2 q3
         go_upto_region 12 with(go_at_call 103;refine(HCK.out _).mono ?_;rintro e w11 ⟨rfl,hc11⟩;have HR11:=kf (HR9.out.call hc11);have HV11:=kf (HV9.out.call hc11);have HC12:=kf (HC10.out.trans hc11 (fun _ _ h=>h));clear hc11)
         clear q0 q1 q2 q3
         have z0:=HR11.out.blk.frozen 0
         have z1:=HR11.out.blk.frozen 1
         have z2:=HR11.out.blk.frozen 2
         have z3:=HR11.out.blk.frozen 3
         have r0:=HR11.out.blk.cell 0
         have r1:=HR11.out.blk.cell 1
         have r2:=HR11.out.blk.cell 2
         have r3:=HR11.out.blk.cell 3
         have q0:=HV11.out.blk.cell 0
         have q1:=HV11.out.blk.cell 1
         have q2:=HV11.out.blk.cell 2
         have q3:=HV11.out.blk.cell 3
         simp at r0 r1 r2 r3 q0 q1 q2 q3
         go_wp2_with fail
         try simp only [Exit.noGoto_ret]
         obtain⟨hb,hcc⟩:=HR11.out.set4 (a:=.int .i64 3) (b:=.int .i64 (-(x:Int))) (c:=.string ⟨#[]⟩) (d:=.slice none 0 0) HC12.out rfl
         clear r0 r1 r2 r3
         have r0:=hb.blk.cell 0
         have r1:=hb.blk.cell 1
         have r2:=hb.blk.cell 2
         have r3:=hb.blk.cell 3
         simp at r0 r1 r2 r3
         refine bodyPost_ret (v:=.tuple #[.agg #[.int .i64 3,.int .i64 (-(x:Int)),.string ⟨#[]⟩,.slice none 0 0],.int .i64 0]) (by simp [results,Tryz.results213,go_sem,r0,r1,r2,r3]) rfl ?_
         exact PaTo.of HN.out hcc
        ·have hk:chkOf 3 (-(x:Int)) (ByteArray.mk #[]).size 0=2:=if_neg (fun h=>by have h:=h.2.2;unfold mayN at h;omega)
         have HCK:Hid (∀ W,Calls Tryz.prog 103 #[.agg #[.int .i64 3,.int .i64 (-(x:Int)),.string ⟨#[]⟩,.slice none 0 0]] W fun e w'=>e=.returned (.int .i64 2)/\Chg NoS W w'):=fun W=>by
          have h:=HCH.out W
          rw [hk] at h
          exact h
         have HN:Hid (numOf (sl s)=(5,0,0)):=by
          show _=_
          rw [HNU.out,numP,if_neg (by rw [HXE.out];exact hle)]
         clear hle hk HCH HNU
         have q0:=HV9.out.blk.cell 0
         have q1:=HV9.out.blk.cell 1
         have q2:=HV9.out.blk.cell 2
         have q3:=HV9.out.blk.cell 3
         simp at q0 q1 q2 q3
         go_upto_region 11 with(go_at_call 103;refine(HCK.out _).mono ?_;rintro e w11 ⟨rfl,hc11⟩;have HR11:=kf (HR9.out.call hc11);have HV11:=kf (HV9.out.call hc11);have HC12:=kf (HC10.out.trans hc11 (fun _ _ h=>h));clear hc11)
         clear q0 q1 q2 q3
         have z0:=HR11.out.blk.frozen 0
         have z1:=HR11.out.blk.frozen 1
         have z2:=HR11.out.blk.frozen 2
         have z3:=HR11.out.blk.frozen 3
         have r0:=HR11.out.blk.cell 0
         have r1:=HR11.out.blk.cell 1
         have r2:=HR11.out.blk.cell 2
         have r3:=HR11.out.blk.cell 3
         simp at r0 r1 r2 r3
         go_wp2_with fail
         try simp only [Exit.noGoto_ret]
         obtain⟨hb,hcc⟩:=HR11.out.set4 (a:=.int .i64 0) (b:=.int .i64 0) (c:=.string ⟨#[]⟩) (d:=.slice none 0 0) HC12.out rfl
         clear r0 r1 r2 r3
         have r0:=hb.blk.cell 0
         have r1:=hb.blk.cell 1
         have r2:=hb.blk.cell 2
         have r3:=hb.blk.cell 3
         simp at r0 r1 r2 r3
         refine bodyPost_ret (v:=.tuple #[.agg #[.int .i64 0,.int .i64 0,.string ⟨#[]⟩,.slice none 0 0],.int .i64 5]) (by simp [results,Tryz.results213,go_sem,r0,r1,r2,r3]) rfl ?_
         exact PaTo.of HN.out hcc
       |false =>
        have HV9:=HV8
        have HR9:=HR8
        have HC10:=HC9
        have HCH:=kf (fun W=>chk_any 3 ((x:Int)) ⟨#[]⟩ none 0 0 W)
        by_cases hle:x<=2147483647000000
        ·have hk:chkOf 3 ((x:Int)) (ByteArray.mk #[]).size 0=0:=if_pos ⟨rfl,rfl,by unfold mayN;omega⟩
         have HCK:Hid (∀ W,Calls Tryz.prog 103 #[.agg #[.int .i64 3,.int .i64 ((x:Int)),.string ⟨#[]⟩,.slice none 0 0]] W fun e w'=>e=.returned (.int .i64 0)/\Chg NoS W w'):=fun W=>by
          have h:=HCH.out W
          rw [hk] at h
          exact h
         have HN:Hid (numOf (sl s)=(0,3,(x:Int))):=by
          show _=_
          rw [HNU.out,numP,if_pos (by rw [HXE.out];exact hle),HXE.out]
          rfl
         clear hle hk HCH HNU
         have q0:=HV9.out.blk.cell 0
         have q1:=HV9.out.blk.cell 1
         have q2:=HV9.out.blk.cell 2
         have q3:=HV9.out.blk.cell 3
         simp at q0 q1 q2 q3
         go_upto_region 12 with(go_at_call 103;refine(HCK.out _).mono ?_;rintro e w11 ⟨rfl,hc11⟩;have HR11:=kf (HR9.out.call hc11);have HV11:=kf (HV9.out.call hc11);have HC12:=kf (HC10.out.trans hc11 (fun _ _ h=>h));clear hc11)
         clear q0 q1 q2 q3
         have z0:=HR11.out.blk.frozen 0
         have z1:=HR11.out.blk.frozen 1
         have z2:=HR11.out.blk.frozen 2
         have z3:=HR11.out.blk.frozen 3
         have r0:=HR11.out.blk.cell 0
         have r1:=HR11.out.blk.cell 1
         have r2:=HR11.out.blk.cell 2
         have r3:=HR11.out.blk.cell 3
         have q0:=HV11.out.blk.cell 0
         have q1:=HV11.out.blk.cell 1
         have q2:=HV11.out.blk.cell 2
         have q3:=HV11.out.blk.cell 3
         simp at r0 r1 r2 r3 q0 q1 q2 q3
         go_wp2_with fail
         try simp only [Exit.noGoto_ret]
         obtain⟨hb,hcc⟩:=HR11.out.set4 (a:=.int .i64 3) (b:=.int .i64 ((x:Int))) (c:=.string ⟨#[]⟩) (d:=.slice none 0 0) HC12.out rfl
         clear r0 r1 r2 r3
         have r0:=hb.blk.cell 0
         have r1:=hb.blk.cell 1
         have r2:=hb.blk.cell 2
         have r3:=hb.blk.cell 3
         simp at r0 r1 r2 r3
         refine bodyPost_ret (v:=.tuple #[.agg #[.int .i64 3,.int .i64 ((x:Int)),.string ⟨#[]⟩,.slice none 0 0],.int .i64 0]) (by simp [results,Tryz.results213,go_sem,r0,r1,r2,r3]) rfl ?_
         exact PaTo.of HN.out hcc
        ·have hk:chkOf 3 ((x:Int)) (ByteArray.mk #[]).size 0=2:=if_neg (fun h=>by have h:=h.2.2;unfold mayN at h;omega)
         have HCK:Hid (∀ W,Calls Tryz.prog 103 #[.agg #[.int .i64 3,.int .i64 ((x:Int)),.string ⟨#[]⟩,.slice none 0 0]] W fun e w'=>e=.returned (.int .i64 2)/\Chg NoS W w'):=fun W=>by
          have h:=HCH.out W
          rw [hk] at h
          exact h
         have HN:Hid (numOf (sl s)=(5,0,0)):=by
          show _=_
          rw [HNU.out,numP,if_neg (by rw [HXE.out];exact hle)]
         clear hle hk HCH HNU
         have q0:=HV9.out.blk.cell 0
         have q1:=HV9.out.blk.cell 1
         have q2:=HV9.out.blk.cell 2
         have q3:=HV9.out.blk.cell 3
         simp at q0 q1 q2 q3
         go_upto_region 11 with(go_at_call 103;refine(HCK.out _).mono ?_;rintro e w11 ⟨rfl,hc11⟩;have HR11:=kf (HR9.out.call hc11);have HV11:=kf (HV9.out.call hc11);have HC12:=kf (HC10.out.trans hc11 (fun _ _ h=>h));clear hc11)
         clear q0 q1 q2 q3
         have z0:=HR11.out.blk.frozen 0
         have z1:=HR11.out.blk.frozen 1
         have z2:=HR11.out.blk.frozen 2
         have z3:=HR11.out.blk.frozen 3
         have r0:=HR11.out.blk.cell 0
         have r1:=HR11.out.blk.cell 1
         have r2:=HR11.out.blk.cell 2
         have r3:=HR11.out.blk.cell 3
         simp at r0 r1 r2 r3
         go_wp2_with fail
         try simp only [Exit.noGoto_ret]
         obtain⟨hb,hcc⟩:=HR11.out.set4 (a:=.int .i64 0) (b:=.int .i64 0) (c:=.string ⟨#[]⟩) (d:=.slice none 0 0) HC12.out rfl
         clear r0 r1 r2 r3
         have r0:=hb.blk.cell 0
         have r1:=hb.blk.cell 1
         have r2:=hb.blk.cell 2
         have r3:=hb.blk.cell 3
         simp at r0 r1 r2 r3
         refine bodyPost_ret (v:=.tuple #[.agg #[.int .i64 0,.int .i64 0,.string ⟨#[]⟩,.slice none 0 0],.int .i64 5]) (by simp [results,Tryz.results213,go_sem,r0,r1,r2,r3]) rfl ?_
         exact PaTo.of HN.out hcc
    ·have u1:=str_em (s:=ta) (by rw [hza];exact ha)
     clear hza hzb ha hE
     go_enter Tryz.func213,Tryz.ntmps213
     go_upto_region 1 with fail
     have HR:=kf (⟨Blk.new w 25 #[.int .i64 0,.int .i64 0,.string ⟨#[]⟩,.slice none 0 0],Nat.le_refl _⟩:PB w _ w.heap.size _)
     have HC:=kf ((Chg.refl NoS w).alloc (.cells #[.int .i64 0,.int .i64 0,.string ⟨#[]⟩,.slice none 0 0] 25))
     obtain⟨W,hW⟩:∃ W,W=w.alloc (.cells #[.int .i64 0,.int .i64 0,.string ⟨#[]⟩,.slice none 0 0] 25):=⟨_,rfl⟩
     rw [<- hW] at HR HC ⊢
     clear hW
     obtain⟨g,hg⟩:∃ g,g=w.heap.size:=⟨_,rfl⟩
     rw [<- hg] at HR ⊢
     clear hg
     go_upto_region 3 with first|(go_at_call 229;refine(HU.out _).mono ?_;rintro e w1 ⟨rfl,rfl⟩)|(go_at_call 210;refine(HK.out _).mono ?_;rintro e w2 ⟨rfl,hc2⟩;have HR2:=kf (HR.out.call hc2);have HC3:=kf (HC.out.trans hc2 (fun _ _ h=>h));clear hc2)
     go_upto_region 5 with first|(go_at_call 190;have hx:=HR3.out;clear hx;refine(HAb2.out _).mono ?_;rintro e w4 ⟨rfl,hc4⟩;have HR4:=kf (HR3.out.call hc4);have HC5:=kf (HC4.out.trans hc4 (fun _ _ h=>h));clear hc4)|(go_at_call 190;refine(HAa2.out _).mono ?_;rintro e w3 ⟨rfl,hc3⟩;have HR3:=kf (HR2.out.call hc3);have HC4:=kf (HC3.out.trans hc3 (fun _ _ h=>h));clear hc3)
     go_upto_region 6 with(go_at_call 191;refine(HC2.out _).mono ?_;rintro e w5 ⟨rfl,hc5⟩;have HR5:=kf (HR4.out.call hc5);have HC6:=kf (HC5.out.trans hc5 (fun _ _ h=>h));clear hc5)
     have HV6:=kf (⟨Blk.new w5 25 #[.int .i64 2,.int .i64 (v:Int),.string ⟨#[]⟩,.slice none 0 0],HC6.out.size⟩:PB w _ w5.heap.size _)
     have HR6:=kf (HR5.out.alloc (.cells #[.int .i64 2,.int .i64 (v:Int),.string ⟨#[]⟩,.slice none 0 0] 25))
     have HC7:=kf (HC6.out.alloc (.cells #[.int .i64 2,.int .i64 (v:Int),.string ⟨#[]⟩,.slice none 0 0] 25))
     have HNE:=kf (Nat.ne_of_lt HR5.out.blk.lt)
     obtain⟨W6,hW⟩:∃ W,W=w5.alloc (.cells #[.int .i64 2,.int .i64 (v:Int),.string ⟨#[]⟩,.slice none 0 0] 25):=⟨_,rfl⟩
     rw [<- hW] at HV6 HR6 HC7 ⊢
     clear hW
     obtain⟨gv,hg⟩:∃ g,g=w5.heap.size:=⟨_,rfl⟩
     rw [<- hg] at HV6 HNE ⊢
     clear hg HR2 HR3 HR4 HR5 HC3 HC4 HC5 HC6
     cases f with
     |false =>
      have HXE:Hid (xP a b false=v):=by
       show _=_
       rw [HX.out false]
       rfl
      obtain⟨W8,hW⟩:∃ W,W=W6:=⟨_,rfl⟩
      have HV8:=HV6
      have HR8:=HR6
      have HC9:=HC7
      rw [<- hW] at HV8 HR8 HC9 ⊢
      clear hW HV6 HR6 HC7
      cases sg with
      |true =>
       have q1:=HV8.out.blk.cell 1
       have z1:=HV8.out.blk.frozen 1
       simp at q1
       go_upto_region 10 with fail
       clear q1 z1
       have HV9:Hid (PB w (W8.setCell ⟨gv,1,none⟩ (.int .i64 (-(v:Int)))) gv #[.int .i64 2,.int .i64 (-(v:Int)),.string ⟨#[]⟩,.slice none 0 0]):=HV8.out.set 1 _
       have HR9:=kf (HR8.out.far HNE.out 1 (.int .i64 (-(v:Int))))
       have HC10:=kf (HV8.out.chg HC9.out 1 (.int .i64 (-(v:Int))))
       obtain⟨W9,hW⟩:∃ W,W=W8.setCell ⟨gv,1,none⟩ (.int .i64 (-(v:Int))):=⟨_,rfl⟩
       rw [<- hW] at HV9 HR9 HC10 ⊢
       clear hW
       have HCH:=kf (fun W=>chk_any 2 (-(v:Int)) ⟨#[]⟩ none 0 0 W)
       by_cases hle:v<=2147483647
       ·have hk:chkOf 2 (-(v:Int)) (ByteArray.mk #[]).size 0=0:=if_pos ⟨rfl,rfl,by unfold mayN;omega⟩
        have HCK:Hid (∀ W,Calls Tryz.prog 103 #[.agg #[.int .i64 2,.int .i64 (-(v:Int)),.string ⟨#[]⟩,.slice none 0 0]] W fun e w'=>e=.returned (.int .i64 0)/\Chg NoS W w'):=fun W=>by
         have h:=HCH.out W
         rw [hk] at h
         exact h
        have HN:Hid (numOf (sl s)=(0,2,-(v:Int))):=by
         show _=_
         rw [HNU.out,numP,if_pos (by rw [HXE.out];exact hle),HXE.out]
         rfl
        clear hle hk HCH HNU
        have q0:=HV9.out.blk.cell 0
        have q1:=HV9.out.blk.cell 1
        have q2:=HV9.out.blk.cell 2
        have q3:=HV9.out.blk.cell 3
        simp at q0 q1 q2 q3
        go_upto_region 12 with(go_at_call 103;refine(HCK.out _).mono ?_;rintro e w11 ⟨rfl,hc11⟩;have HR11:=kf (HR9.out.call hc11);have HV11:=kf (HV9.out.call hc11);have HC12:=kf (HC10.out.trans hc11 (fun _ _ h=>h));clear hc11)
        clear q0 q1 q2 q3
        have z0:=HR11.out.blk.frozen 0
        have z1:=HR11.out.blk.frozen 1
        have z2:=HR11.out.blk.frozen 2
        have z3:=HR11.out.blk.frozen 3
        have r0:=HR11.out.blk.cell 0
        have r1:=HR11.out.blk.cell 1
        have r2:=HR11.out.blk.cell 2
        have r3:=HR11.out.blk.cell 3
        have q0:=HV11.out.blk.cell 0
        have q1:=HV11.out.blk.cell 1
        have q2:=HV11.out.blk.cell 2
        have q3:=HV11.out.blk.cell 3
        simp at r0 r1 r2 r3 q0 q1 q2 q3
        go_wp2_with fail
        try simp only [Exit.noGoto_ret]
        obtain⟨hb,hcc⟩:=HR11.out.set4 (a:=.int .i64 2) (b:=.int .i64 (-(v:Int))) (c:=.string ⟨#[]⟩) (d:=.slice none 0 0) HC12.out rfl
        clear r0 r1 r2 r3
        have r0:=hb.blk.cell 0
        have r1:=hb.blk.cell 1
        have r2:=hb.blk.cell 2
        have r3:=hb.blk.cell 3
        simp at r0 r1 r2 r3
        refine bodyPost_ret (v:=.tuple #[.agg #[.int .i64 2,.int .i64 (-(v:Int)),.string ⟨#[]⟩,.slice none 0 0],.int .i64 0]) (by simp [results,Tryz.results213,go_sem,r0,r1,r2,r3]) rfl ?_
        exact PaTo.of HN.out hcc
       ·have hk:chkOf 2 (-(v:Int)) (ByteArray.mk #[]).size 0=2:=if_neg (fun h=>by have h:=h.2.2;unfold mayN at h;omega)
        have HCK:Hid (∀ W,Calls Tryz.prog 103 #[.agg #[.int .i64 2,.int .i64 (-(v:Int)),.string ⟨#[]⟩,.slice none 0 0]] W fun e w'=>e=.returned (.int .i64 2)/\Chg NoS W w'):=fun W=>by
         have h:=HCH.out W
         rw [hk] at h
         exact h
        have HN:Hid (numOf (sl s)=(5,0,0)):=by
         show _=_
         rw [HNU.out,numP,if_neg (by rw [HXE.out];exact hle)]
        clear hle hk HCH HNU
        have q0:=HV9.out.blk.cell 0
        have q1:=HV9.out.blk.cell 1
        have q2:=HV9.out.blk.cell 2
        have q3:=HV9.out.blk.cell 3
        simp at q0 q1 q2 q3
        go_upto_region 11 with(go_at_call 103;refine(HCK.out _).mono ?_;rintro e w11 ⟨rfl,hc11⟩;have HR11:=kf (HR9.out.call hc11);have HV11:=kf (HV9.out.call hc11);have HC12:=kf (HC10.out.trans hc11 (fun _ _ h=>h));clear hc11)
        clear q0 q1 q2 q3
        have z0:=HR11.out.blk.frozen 0
        have z1:=HR11.out.blk.frozen 1
        have z2:=HR11.out.blk.frozen 2
        have z3:=HR11.out.blk.frozen 3
        have r0:=HR11.out.blk.cell 0
        have r1:=HR11.out.blk.cell 1
        have r2:=HR11.out.blk.cell 2
        have r3:=HR11.out.blk.cell 3
        simp at r0 r1 r2 r3
        go_wp2_with fail
        try simp only [Exit.noGoto_ret]
        obtain⟨hb,hcc⟩:=HR11.out.set4 (a:=.int .i64 0) (b:=.int .i64 0) (c:=.string ⟨#[]⟩) (d:=.slice none 0 0) HC12.out rfl
        clear r0 r1 r2 r3
        have r0:=hb.blk.cell 0
        have r1:=hb.blk.cell 1
        have r2:=hb.blk.cell 2
        have r3:=hb.blk.cell 3
        simp at r0 r1 r2 r3
        refine bodyPost_ret (v:=.tuple #[.agg #[.int .i64 0,.int .i64 0,.string ⟨#[]⟩,.slice none 0 0],.int .i64 5]) (by simp [results,Tryz.results213,go_sem,r0,r1,r2,r3]) rfl ?_
        exact PaTo.of HN.out hcc
      |false =>
       have HV9:=HV8
       have HR9:=HR8
       have HC10:=HC9
       have HCH:=kf (fun W=>chk_any 2 ((v:Int)) ⟨#[]⟩ none 0 0 W)
       by_cases hle:v<=2147483647
       ·have hk:chkOf 2 ((v:Int)) (ByteArray.mk #[]).size 0=0:=if_pos ⟨rfl,rfl,by unfold mayN;omega⟩
        have HCK:Hid (∀ W,Calls Tryz.prog 103 #[.agg #[.int .i64 2,.int .i64 ((v:Int)),.string ⟨#[]⟩,.slice none 0 0]] W fun e w'=>e=.returned (.int .i64 0)/\Chg NoS W w'):=fun W=>by
         have h:=HCH.out W
         rw [hk] at h
         exact h
        have HN:Hid (numOf (sl s)=(0,2,(v:Int))):=by
         show _=_
         rw [HNU.out,numP,if_pos (by rw [HXE.out];exact hle),HXE.out]
         rfl
        clear hle hk HCH HNU
        have q0:=HV9.out.blk.cell 0
        have q1:=HV9.out.blk.cell 1
        have q2:=HV9.out.blk.cell 2
        have q3:=HV9.out.blk.cell 3
        simp at q0 q1 q2 q3
        go_upto_region 12 with(go_at_call 103;refine(HCK.out _).mono ?_;rintro e w11 ⟨rfl,hc11⟩;have HR11:=kf (HR9.out.call hc11);have HV11:=kf (HV9.out.call hc11);have HC12:=kf (HC10.out.trans hc11 (fun _ _ h=>h));clear hc11)
        clear q0 q1 q2 q3
        have z0:=HR11.out.blk.frozen 0
        have z1:=HR11.out.blk.frozen 1
        have z2:=HR11.out.blk.frozen 2
        have z3:=HR11.out.blk.frozen 3
        have r0:=HR11.out.blk.cell 0
        have r1:=HR11.out.blk.cell 1
        have r2:=HR11.out.blk.cell 2
        have r3:=HR11.out.blk.cell 3
        have q0:=HV11.out.blk.cell 0
        have q1:=HV11.out.blk.cell 1
        have q2:=HV11.out.blk.cell 2
        have q3:=HV11.out.blk.cell 3
        simp at r0 r1 r2 r3 q0 q1 q2 q3
        go_wp2_with fail
        try simp only [Exit.noGoto_ret]
        obtain⟨hb,hcc⟩:=HR11.out.set4 (a:=.int .i64 2) (b:=.int .i64 ((v:Int))) (c:=.string ⟨#[]⟩) (d:=.slice none 0 0) HC12.out rfl
        clear r0 r1 r2 r3
        have r0:=hb.blk.cell 0
        have r1:=hb.blk.cell 1
        have r2:=hb.blk.cell 2
        have r3:=hb.blk.cell 3
        simp at r0 r1 r2 r3
        refine bodyPost_ret (v:=.tuple #[.agg #[.int .i64 2,.int .i64 ((v:Int)),.string ⟨#[]⟩,.slice none 0 0],.int .i64 0]) (by simp [results,Tryz.results213,go_sem,r0,r1,r2,r3]) rfl ?_
        exact PaTo.of HN.out hcc
       ·have hk:chkOf 2 ((v:Int)) (ByteArray.mk #[]).size 0=2:=if_neg (fun h=>by have h:=h.2.2;unfold mayN at h;omega)
        have HCK:Hid (∀ W,Calls Tryz.prog 103 #[.agg #[.int .i64 2,.int .i64 ((v:Int)),.string ⟨#[]⟩,.slice none 0 0]] W fun e w'=>e=.returned (.int .i64 2)/\Chg NoS W w'):=fun W=>by
         have h:=HCH.out W
         rw [hk] at h
         exact h
        have HN:Hid (numOf (sl s)=(5,0,0)):=by
         show _=_
         rw [HNU.out,numP,if_neg (by rw [HXE.out];exact hle)]
        clear hle hk HCH HNU
        have q0:=HV9.out.blk.cell 0
        have q1:=HV9.out.blk.cell 1
        have q2:=HV9.out.blk.cell 2
        have q3:=HV9.out.blk.cell 3
        simp at q0 q1 q2 q3
        go_upto_region 11 with(go_at_call 103;refine(HCK.out _).mono ?_;rintro e w11 ⟨rfl,hc11⟩;have HR11:=kf (HR9.out.call hc11);have HV11:=kf (HV9.out.call hc11);have HC12:=kf (HC10.out.trans hc11 (fun _ _ h=>h));clear hc11)
        clear q0 q1 q2 q3
        have z0:=HR11.out.blk.frozen 0
        have z1:=HR11.out.blk.frozen 1
        have z2:=HR11.out.blk.frozen 2
        have z3:=HR11.out.blk.frozen 3
        have r0:=HR11.out.blk.cell 0
        have r1:=HR11.out.blk.cell 1
        have r2:=HR11.out.blk.cell 2
        have r3:=HR11.out.blk.cell 3
        simp at r0 r1 r2 r3
        go_wp2_with fail
        try simp only [Exit.noGoto_ret]
        obtain⟨hb,hcc⟩:=HR11.out.set4 (a:=.int .i64 0) (b:=.int .i64 0) (c:=.string ⟨#[]⟩) (d:=.slice none 0 0) HC12.out rfl
        clear r0 r1 r2 r3
        have r0:=hb.blk.cell 0
        have r1:=hb.blk.cell 1
        have r2:=hb.blk.cell 2
        have r3:=hb.blk.cell 3
        simp at r0 r1 r2 r3
        refine bodyPost_ret (v:=.tuple #[.agg #[.int .i64 0,.int .i64 0,.string ⟨#[]⟩,.slice none 0 0],.int .i64 5]) (by simp [results,Tryz.results213,go_sem,r0,r1,r2,r3]) rfl ?_
        exact PaTo.of HN.out hcc
     |true =>
      go_upto_region 7 with fail
      obtain⟨y,hy⟩:∃ y:Nat,v*1000000=y:=⟨_,rfl⟩
      obtain⟨x,hx⟩:∃ x:Nat,y+p=x:=⟨_,rfl⟩
      have e1:(v:Int)*1000000=(y:Int):=by omega
      have e2:(y:Int)+(p:Int)=(x:Int):=by omega
      have hy9:y<=2147483648000000:=by omega
      have hx9:x<=2147483649000000:=by omega
      have k1:IntKind.i64.wrap (y:Int)=(y:Int):=by rw [IntKind.wrap_i64];omega
      have k2:IntKind.i64.wrap (x:Int)=(x:Int):=by rw [IntKind.wrap_i64];omega
      have HXE:Hid (xP a b true=x):=by
       show _=_
       rw [HX.out true,<- hx,<- hy]
       rfl
      clear hx hy
      have q1:=HV6.out.blk.cell 1
      have z0:=HV6.out.blk.frozen 0
      have z1:=HV6.out.blk.frozen 1
      have z2:=HV6.out.blk.frozen 2
      have z3:=HV6.out.blk.frozen 3
      simp at q1
      go_region_with (go_at_call 230;refine(HM2.out _).mono ?_;rintro e w7 ⟨rfl,hc7⟩;have HR7:=kf (HR6.out.drew.call hc7);have HV7:=kf (HV6.out.drew.call hc7);have HC8:=kf (HC7.out.drew.trans hc7 (fun _ _ h=>h));clear hc7;have q0':=HV7.out.blk.cell 0;have q1':=HV7.out.blk.cell 1;have q2':=HV7.out.blk.cell 2;have q3':=HV7.out.blk.cell 3;have z0':=HV7.out.blk.frozen 0;have z1':=HV7.out.blk.frozen 1;have z2':=HV7.out.blk.frozen 2;have z3':=HV7.out.blk.frozen 3;simp at q0' q1' q2' q3')
      all_goals
       try rw [k1,e2,k2]
       obtain⟨hv8,hc8⟩:=HV7.out.set4 (a:=.int .i64 3) (b:=.int .i64 (x:Int)) (c:=.string ⟨#[]⟩) (d:=.slice none 0 0) HC8.out rfl
       have hr8:=HR7.out.far4 (a:=.int .i64 3) (b:=.int .i64 (x:Int)) (c:=.string ⟨#[]⟩) (d:=.slice none 0 0) HNE.out
       have HV8:=kf hv8
       have HR8:=kf hr8
       have HC9:=kf hc8
       clear hv8 hr8 hc8
       obtain⟨W8,hW⟩:∃ W,W=((((w7.setCell ⟨gv,0,none⟩ (.int .i64 3)).setCell ⟨gv,1,none⟩ (.int .i64 (x:Int))).setCell ⟨gv,2,none⟩ (.string ⟨#[]⟩)).setCell ⟨gv,3,none⟩ (.slice none 0 0)):=⟨_,rfl⟩
       rw [<- hW] at HV8 HR8 HC9 ⊢
       clear hW q1 z0 z1 z2 z3 q0' q1' q2' q3' z0' z1' z2' z3' HV6 HR6 HC7 HV7 HR7 HC8 k1 k2 e1 e2 hy9
       cases sg with
       |true =>
        have q1:=HV8.out.blk.cell 1
        have z1:=HV8.out.blk.frozen 1
        simp at q1
        go_upto_region 10 with fail
        clear q1 z1
        have HV9:Hid (PB w (W8.setCell ⟨gv,1,none⟩ (.int .i64 (-(x:Int)))) gv #[.int .i64 3,.int .i64 (-(x:Int)),.string ⟨#[]⟩,.slice none 0 0]):=HV8.out.set 1 _
        have HR9:=kf (HR8.out.far HNE.out 1 (.int .i64 (-(x:Int))))
        have HC10:=kf (HV8.out.chg HC9.out 1 (.int .i64 (-(x:Int))))
        obtain⟨W9,hW⟩:∃ W,W=W8.setCell ⟨gv,1,none⟩ (.int .i64 (-(x:Int))):=⟨_,rfl⟩
        rw [<- hW] at HV9 HR9 HC10 ⊢
        clear hW
        have HCH:=kf (fun W=>chk_any 3 (-(x:Int)) ⟨#[]⟩ none 0 0 W)
        by_cases hle:x<=2147483647000000
        ·have hk:chkOf 3 (-(x:Int)) (ByteArray.mk #[]).size 0=0:=if_pos ⟨rfl,rfl,by unfold mayN;omega⟩
         have HCK:Hid (∀ W,Calls Tryz.prog 103 #[.agg #[.int .i64 3,.int .i64 (-(x:Int)),.string ⟨#[]⟩,.slice none 0 0]] W fun e w'=>e=.returned (.int .i64 0)/\Chg NoS W w'):=fun W=>by
          have h:=HCH.out W
          rw [hk] at h
          exact h
         have HN:Hid (numOf (sl s)=(0,3,-(x:Int))):=by
          show _=_
          rw [HNU.out,numP,if_pos (by rw [HXE.out];exact hle),HXE.out]
          rfl
         clear hle hk HCH HNU
         have q0:=HV9.out.blk.cell 0
         have q1:=HV9.out.blk.cell 1
         have q2:=HV9.out.blk.cell 2
         have q3:=HV9.out.blk.cell 3
         simp at q0 q1 q2 q3
         go_upto_region 12 with(go_at_call 103;refine(HCK.out _).mono ?_;rintro e w11 ⟨rfl,hc11⟩;have HR11:=kf (HR9.out.call hc11);have HV11:=kf (HV9.out.call hc11);have HC12:=kf (HC10.out.trans hc11 (fun _ _ h=>h));clear hc11)
         clear q0 q1 q2 q3
         have z0:=HR11.out.blk.frozen 0
         have z1:=HR11.out.blk.frozen 1
         have z2:=HR11.out.blk.frozen 2
         have z3:=HR11.out.blk.frozen 3
         have r0:=HR11.out.blk.cell 0
         have r1:=HR11.out.blk.cell 1
         have r2:=HR11.out.blk.cell 2
         have r3:=HR11.out.blk.cell 3
         have q0:=HV11.out.blk.cell 0
         have q1:=HV11.out.blk.cell 1
         have q2:=HV11.out.blk.cell 2
         have q3:=HV11.out.blk.cell 3
         simp at r0 r1 r2 r3 q0 q1 q2 q3
         go_wp2_with fail
         try simp only [Exit.noGoto_ret]
         obtain⟨hb,hcc⟩:=HR11.out.set4 (a:=.int .i64 3) (b:=.int .i64 (-(x:Int))) (c:=.string ⟨#[]⟩) (d:=.slice none 0 0) HC12.out rfl
         clear r0 r1 r2 r3
         have r0:=hb.blk.cell 0
         have r1:=hb.blk.cell 1
         have r2:=hb.blk.cell 2
         have r3:=hb.blk.cell 3
         simp at r0 r1 r2 r3
         refine bodyPost_ret (v:=.tuple #[.agg #[.int .i64 3,.int .i64 (-(x:Int)),.string ⟨#[]⟩,.slice none 0 0],.int .i64 0]) (by simp [results,Tryz.results213,go_sem,r0,r1,r2,r3]) rfl ?_
         exact PaTo.of HN.out hcc
        ·have hk:chkOf 3 (-(x:Int)) (ByteArray.mk #[]).size 0=2:=if_neg (fun h=>by have h:=h.2.2;unfold mayN at h;omega)
         have HCK:Hid (∀ W,Calls Tryz.prog 103 #[.agg #[.int .i64 3,.int .i64 (-(x:Int)),.string ⟨#[]⟩,.slice none 0 0]] W fun e w'=>e=.returned (.int .i64 2)/\Chg NoS W w'):=fun W=>by
          have h:=HCH.out W
          rw [hk] at h
          exact h
         have HN:Hid (numOf (sl s)=(5,0,0)):=by
          show _=_
          rw [HNU.out,numP,if_neg (by rw [HXE.out];exact hle)]
         clear hle hk HCH HNU
         have q0:=HV9.out.blk.cell 0
         have q1:=HV9.out.blk.cell 1
         have q2:=HV9.out.blk.cell 2
         have q3:=HV9.out.blk.cell 3
         simp at q0 q1 q2 q3
         go_upto_region 11 with(go_at_call 103;refine(HCK.out _).mono ?_;rintro e w11 ⟨rfl,hc11⟩;have HR11:=kf (HR9.out.call hc11);have HV11:=kf (HV9.out.call hc11);have HC12:=kf (HC10.out.trans hc11 (fun _ _ h=>h));clear hc11)
         clear q0 q1 q2 q3
         have z0:=HR11.out.blk.frozen 0
         have z1:=HR11.out.blk.frozen 1
         have z2:=HR11.out.blk.frozen 2
         have z3:=HR11.out.blk.frozen 3
         have r0:=HR11.out.blk.cell 0
         have r1:=HR11.out.blk.cell 1
         have r2:=HR11.out.blk.cell 2
         have r3:=HR11.out.blk.cell 3
         simp at r0 r1 r2 r3
         go_wp2_with fail
         try simp only [Exit.noGoto_ret]
         obtain⟨hb,hcc⟩:=HR11.out.set4 (a:=.int .i64 0) (b:=.int .i64 0) (c:=.string ⟨#[]⟩) (d:=.slice none 0 0) HC12.out rfl
         clear r0 r1 r2 r3
         have r0:=hb.blk.cell 0
         have r1:=hb.blk.cell 1
         have r2:=hb.blk.cell 2
         have r3:=hb.blk.cell 3
         simp at r0 r1 r2 r3
         refine bodyPost_ret (v:=.tuple #[.agg #[.int .i64 0,.int .i64 0,.string ⟨#[]⟩,.slice none 0 0],.int .i64 5]) (by simp [results,Tryz.results213,go_sem,r0,r1,r2,r3]) rfl ?_
         exact PaTo.of HN.out hcc
       |false =>
        have HV9:=HV8
        have HR9:=HR8
        have HC10:=HC9
        have HCH:=kf (fun W=>chk_any 3 ((x:Int)) ⟨#[]⟩ none 0 0 W)
        by_cases hle:x<=2147483647000000
        ·have hk:chkOf 3 ((x:Int)) (ByteArray.mk #[]).size 0=0:=if_pos ⟨rfl,rfl,by unfold mayN;omega⟩
         have HCK:Hid (∀ W,Calls Tryz.prog 103 #[.agg #[.int .i64 3,.int .i64 ((x:Int)),.string ⟨#[]⟩,.slice none 0 0]] W fun e w'=>e=.returned (.int .i64 0)/\Chg NoS W w'):=fun W=>by
          have h:=HCH.out W
          rw [hk] at h
          exact h
         have HN:Hid (numOf (sl s)=(0,3,(x:Int))):=by
          show _=_
          rw [HNU.out,numP,if_pos (by rw [HXE.out];exact hle),HXE.out]
          rfl
         clear hle hk HCH HNU
         have q0:=HV9.out.blk.cell 0
         have q1:=HV9.out.blk.cell 1
         have q2:=HV9.out.blk.cell 2
         have q3:=HV9.out.blk.cell 3
         simp at q0 q1 q2 q3
         go_upto_region 12 with(go_at_call 103;refine(HCK.out _).mono ?_;rintro e w11 ⟨rfl,hc11⟩;have HR11:=kf (HR9.out.call hc11);have HV11:=kf (HV9.out.call hc11);have HC12:=kf (HC10.out.trans hc11 (fun _ _ h=>h));clear hc11)
         clear q0 q1 q2 q3
         have z0:=HR11.out.blk.frozen 0
         have z1:=HR11.out.blk.frozen 1
         have z2:=HR11.out.blk.frozen 2
         have z3:=HR11.out.blk.frozen 3
         have r0:=HR11.out.blk.cell 0
         have r1:=HR11.out.blk.cell 1
         have r2:=HR11.out.blk.cell 2
         have r3:=HR11.out.blk.cell 3
         have q0:=HV11.out.blk.cell 0
         have q1:=HV11.out.blk.cell 1
         have q2:=HV11.out.blk.cell 2
         have q3:=HV11.out.blk.cell 3
         simp at r0 r1 r2 r3 q0 q1 q2 q3
         go_wp2_with fail
         try simp only [Exit.noGoto_ret]
         obtain⟨hb,hcc⟩:=HR11.out.set4 (a:=.int .i64 3) (b:=.int .i64 ((x:Int))) (c:=.string ⟨#[]⟩) (d:=.slice none 0 0) HC12.out rfl
         clear r0 r1 r2 r3
         have r0:=hb.blk.cell 0
         have r1:=hb.blk.cell 1
         have r2:=hb.blk.cell 2
         have r3:=hb.blk.cell 3
         simp at r0 r1 r2 r3
         refine bodyPost_ret (v:=.tuple #[.agg #[.int .i64 3,.int .i64 ((x:Int)),.string ⟨#[]⟩,.slice none 0 0],.int .i64 0]) (by simp [results,Tryz.results213,go_sem,r0,r1,r2,r3]) rfl ?_
         exact PaTo.of HN.out hcc
        ·have hk:chkOf 3 ((x:Int)) (ByteArray.mk #[]).size 0=2:=if_neg (fun h=>by have h:=h.2.2;unfold mayN at h;omega)
         have HCK:Hid (∀ W,Calls Tryz.prog 103 #[.agg #[.int .i64 3,.int .i64 ((x:Int)),.string ⟨#[]⟩,.slice none 0 0]] W fun e w'=>e=.returned (.int .i64 2)/\Chg NoS W w'):=fun W=>by
          have h:=HCH.out W
          rw [hk] at h
          exact h
         have HN:Hid (numOf (sl s)=(5,0,0)):=by
          show _=_
          rw [HNU.out,numP,if_neg (by rw [HXE.out];exact hle)]
         clear hle hk HCH HNU
         have q0:=HV9.out.blk.cell 0
         have q1:=HV9.out.blk.cell 1
         have q2:=HV9.out.blk.cell 2
         have q3:=HV9.out.blk.cell 3
         simp at q0 q1 q2 q3
         go_upto_region 11 with(go_at_call 103;refine(HCK.out _).mono ?_;rintro e w11 ⟨rfl,hc11⟩;have HR11:=kf (HR9.out.call hc11);have HV11:=kf (HV9.out.call hc11);have HC12:=kf (HC10.out.trans hc11 (fun _ _ h=>h));clear hc11)
         clear q0 q1 q2 q3
         have z0:=HR11.out.blk.frozen 0
         have z1:=HR11.out.blk.frozen 1
         have z2:=HR11.out.blk.frozen 2
         have z3:=HR11.out.blk.frozen 3
         have r0:=HR11.out.blk.cell 0
         have r1:=HR11.out.blk.cell 1
         have r2:=HR11.out.blk.cell 2
         have r3:=HR11.out.blk.cell 3
         simp at r0 r1 r2 r3
         go_wp2_with fail
         try simp only [Exit.noGoto_ret]
         obtain⟨hb,hcc⟩:=HR11.out.set4 (a:=.int .i64 0) (b:=.int .i64 0) (c:=.string ⟨#[]⟩) (d:=.slice none 0 0) HC12.out rfl
         clear r0 r1 r2 r3
         have r0:=hb.blk.cell 0
         have r1:=hb.blk.cell 1
         have r2:=hb.blk.cell 2
         have r3:=hb.blk.cell 3
         simp at r0 r1 r2 r3
         refine bodyPost_ret (v:=.tuple #[.agg #[.int .i64 0,.int .i64 0,.string ⟨#[]⟩,.slice none 0 0],.int .i64 5]) (by simp [results,Tryz.results213,go_sem,r0,r1,r2,r3]) rfl ?_
         exact PaTo.of HN.out hcc
  ·have HN:=kf (HBAD.out (.inr (.inr hB)))
   have HAa2:Hid (∀ W,Calls Tryz.prog 190 #[.string ta] W fun e w'=>e=.returned (.bool true)/\Chg NoS W w'):=fun W=>by
    have h:=HAa.out W
    rw [decide_eq_true hA] at h
    exact h
   have HAb2:Hid (∀ W,Calls Tryz.prog 190 #[.string tb] W fun e w'=>e=.returned (.bool false)/\Chg NoS W w'):=fun W=>by
    have h:=HAb.out W
    rw [decide_eq_false hB] at h
    exact h
   have hb:b.length≠0:=fun h=>hB (by rw [List.eq_nil_of_length_eq_zero h];exact fun d hd=>by cases hd)
   clear HAa HAb HCn HMi HBAD HNUM hA hB
   by_cases ha:a.length=0
   ·obtain rfl:ta=⟨#[]⟩:=str_nil (by rw [hza];exact ha)
    have u2:=str_em (s:=tb) (by rw [hzb];exact hb)
    clear hza hzb ha hb
    go_enter Tryz.func213,Tryz.ntmps213
    go_upto_region 1 with fail
    have HR:=kf (⟨Blk.new w 25 #[.int .i64 0,.int .i64 0,.string ⟨#[]⟩,.slice none 0 0],Nat.le_refl _⟩:PB w _ w.heap.size _)
    have HC:=kf ((Chg.refl NoS w).alloc (.cells #[.int .i64 0,.int .i64 0,.string ⟨#[]⟩,.slice none 0 0] 25))
    obtain⟨W,hW⟩:∃ W,W=w.alloc (.cells #[.int .i64 0,.int .i64 0,.string ⟨#[]⟩,.slice none 0 0] 25):=⟨_,rfl⟩
    rw [<- hW] at HR HC ⊢
    clear hW
    obtain⟨g,hg⟩:∃ g,g=w.heap.size:=⟨_,rfl⟩
    rw [<- hg] at HR ⊢
    clear hg
    go_upto_region 3 with first|(go_at_call 229;refine(HU.out _).mono ?_;rintro e w1 ⟨rfl,rfl⟩)|(go_at_call 210;refine(HK.out _).mono ?_;rintro e w2 ⟨rfl,hc2⟩;have HR2:=kf (HR.out.call hc2);have HC3:=kf (HC.out.trans hc2 (fun _ _ h=>h));clear hc2)
    go_upto_region 4 with first|(go_at_call 190;have hx:=HR3.out;clear hx;refine(HAb2.out _).mono ?_;rintro e w4 ⟨rfl,hc4⟩;have HR4:=kf (HR3.out.call hc4);have HC5:=kf (HC4.out.trans hc4 (fun _ _ h=>h));clear hc4)|(go_at_call 190;refine(HAa2.out _).mono ?_;rintro e w3 ⟨rfl,hc3⟩;have HR3:=kf (HR2.out.call hc3);have HC4:=kf (HC3.out.trans hc3 (fun _ _ h=>h));clear hc3)
    have z0:=HR4.out.blk.frozen 0
    have z1:=HR4.out.blk.frozen 1
    have z2:=HR4.out.blk.frozen 2
    have z3:=HR4.out.blk.frozen 3
    have r0:=HR4.out.blk.cell 0
    have r1:=HR4.out.blk.cell 1
    have r2:=HR4.out.blk.cell 2
    have r3:=HR4.out.blk.cell 3
    simp at r0 r1 r2 r3
    go_wp2_with fail
    try simp only [Exit.noGoto_ret]
    obtain⟨hb,hcc⟩:=HR4.out.set4 (a:=.int .i64 0) (b:=.int .i64 0) (c:=.string ⟨#[]⟩) (d:=.slice none 0 0) HC5.out rfl
    clear r0 r1 r2 r3
    have r0:=hb.blk.cell 0
    have r1:=hb.blk.cell 1
    have r2:=hb.blk.cell 2
    have r3:=hb.blk.cell 3
    simp at r0 r1 r2 r3
    refine bodyPost_ret (v:=.tuple #[.agg #[.int .i64 0,.int .i64 0,.string ⟨#[]⟩,.slice none 0 0],.int .i64 11]) (by simp [results,Tryz.results213,go_sem,r0,r1,r2,r3]) rfl ?_
    exact PaTo.of HN.out hcc
   ·have u1:=str_em (s:=ta) (by rw [hza];exact ha)
    clear hza hzb ha hb
    go_enter Tryz.func213,Tryz.ntmps213
    go_upto_region 1 with fail
    have HR:=kf (⟨Blk.new w 25 #[.int .i64 0,.int .i64 0,.string ⟨#[]⟩,.slice none 0 0],Nat.le_refl _⟩:PB w _ w.heap.size _)
    have HC:=kf ((Chg.refl NoS w).alloc (.cells #[.int .i64 0,.int .i64 0,.string ⟨#[]⟩,.slice none 0 0] 25))
    obtain⟨W,hW⟩:∃ W,W=w.alloc (.cells #[.int .i64 0,.int .i64 0,.string ⟨#[]⟩,.slice none 0 0] 25):=⟨_,rfl⟩
    rw [<- hW] at HR HC ⊢
    clear hW
    obtain⟨g,hg⟩:∃ g,g=w.heap.size:=⟨_,rfl⟩
    rw [<- hg] at HR ⊢
    clear hg
    go_upto_region 3 with first|(go_at_call 229;refine(HU.out _).mono ?_;rintro e w1 ⟨rfl,rfl⟩)|(go_at_call 210;refine(HK.out _).mono ?_;rintro e w2 ⟨rfl,hc2⟩;have HR2:=kf (HR.out.call hc2);have HC3:=kf (HC.out.trans hc2 (fun _ _ h=>h));clear hc2)
    go_upto_region 4 with first|(go_at_call 190;have hx:=HR3.out;clear hx;refine(HAb2.out _).mono ?_;rintro e w4 ⟨rfl,hc4⟩;have HR4:=kf (HR3.out.call hc4);have HC5:=kf (HC4.out.trans hc4 (fun _ _ h=>h));clear hc4)|(go_at_call 190;refine(HAa2.out _).mono ?_;rintro e w3 ⟨rfl,hc3⟩;have HR3:=kf (HR2.out.call hc3);have HC4:=kf (HC3.out.trans hc3 (fun _ _ h=>h));clear hc3)
    have z0:=HR4.out.blk.frozen 0
    have z1:=HR4.out.blk.frozen 1
    have z2:=HR4.out.blk.frozen 2
    have z3:=HR4.out.blk.frozen 3
    have r0:=HR4.out.blk.cell 0
    have r1:=HR4.out.blk.cell 1
    have r2:=HR4.out.blk.cell 2
    have r3:=HR4.out.blk.cell 3
    simp at r0 r1 r2 r3
    go_wp2_with fail
    try simp only [Exit.noGoto_ret]
    obtain⟨hb,hcc⟩:=HR4.out.set4 (a:=.int .i64 0) (b:=.int .i64 0) (c:=.string ⟨#[]⟩) (d:=.slice none 0 0) HC5.out rfl
    clear r0 r1 r2 r3
    have r0:=hb.blk.cell 0
    have r1:=hb.blk.cell 1
    have r2:=hb.blk.cell 2
    have r3:=hb.blk.cell 3
    simp at r0 r1 r2 r3
    refine bodyPost_ret (v:=.tuple #[.agg #[.int .i64 0,.int .i64 0,.string ⟨#[]⟩,.slice none 0 0],.int .i64 11]) (by simp [results,Tryz.results213,go_sem,r0,r1,r2,r3]) rfl ?_
    exact PaTo.of HN.out hcc
 ·have HN:=kf (HBAD.out (.inr (.inl hA)))
  have HAa2:Hid (∀ W,Calls Tryz.prog 190 #[.string ta] W fun e w'=>e=.returned (.bool false)/\Chg NoS W w'):=fun W=>by
   have h:=HAa.out W
   rw [decide_eq_false hA] at h
   exact h
  have ha:a.length≠0:=fun h=>hA (by rw [List.eq_nil_of_length_eq_zero h];exact fun d hd=>by cases hd)
  have u1:=str_em (s:=ta) (by rw [hza];exact ha)
  clear HAa HAb HCn HMi HBAD HNUM hA hza hzb ha
  go_enter Tryz.func213,Tryz.ntmps213
  go_upto_region 1 with fail
  have HR:=kf (⟨Blk.new w 25 #[.int .i64 0,.int .i64 0,.string ⟨#[]⟩,.slice none 0 0],Nat.le_refl _⟩:PB w _ w.heap.size _)
  have HC:=kf ((Chg.refl NoS w).alloc (.cells #[.int .i64 0,.int .i64 0,.string ⟨#[]⟩,.slice none 0 0] 25))
  obtain⟨W,hW⟩:∃ W,W=w.alloc (.cells #[.int .i64 0,.int .i64 0,.string ⟨#[]⟩,.slice none 0 0] 25):=⟨_,rfl⟩
  rw [<- hW] at HR HC ⊢
  clear hW
  obtain⟨g,hg⟩:∃ g,g=w.heap.size:=⟨_,rfl⟩
  rw [<- hg] at HR ⊢
  clear hg
  go_upto_region 3 with first|(go_at_call 229;refine(HU.out _).mono ?_;rintro e w1 ⟨rfl,rfl⟩)|(go_at_call 210;refine(HK.out _).mono ?_;rintro e w2 ⟨rfl,hc2⟩;have HR2:=kf (HR.out.call hc2);have HC3:=kf (HC.out.trans hc2 (fun _ _ h=>h));clear hc2)
  go_upto_region 4 with(go_at_call 190;refine(HAa2.out _).mono ?_;rintro e w3 ⟨rfl,hc3⟩;have HR3:=kf (HR2.out.call hc3);have HC4:=kf (HC3.out.trans hc3 (fun _ _ h=>h));clear hc3)
  have z0:=HR3.out.blk.frozen 0
  have z1:=HR3.out.blk.frozen 1
  have z2:=HR3.out.blk.frozen 2
  have z3:=HR3.out.blk.frozen 3
  have r0:=HR3.out.blk.cell 0
  have r1:=HR3.out.blk.cell 1
  have r2:=HR3.out.blk.cell 2
  have r3:=HR3.out.blk.cell 3
  simp at r0 r1 r2 r3
  go_wp2_with fail
  try simp only [Exit.noGoto_ret]
  obtain⟨hb,hcc⟩:=HR3.out.set4 (a:=.int .i64 0) (b:=.int .i64 0) (c:=.string ⟨#[]⟩) (d:=.slice none 0 0) HC4.out rfl
  clear r0 r1 r2 r3
  have r0:=hb.blk.cell 0
  have r1:=hb.blk.cell 1
  have r2:=hb.blk.cell 2
  have r3:=hb.blk.cell 3
  simp at r0 r1 r2 r3
  refine bodyPost_ret (v:=.tuple #[.agg #[.int .i64 0,.int .i64 0,.string ⟨#[]⟩,.slice none 0 0],.int .i64 11]) (by simp [results,Tryz.results213,go_sem,r0,r1,r2,r3]) rfl ?_
  exact PaTo.of HN.out hcc
end Go.Proofs.YthejpkflcgjdoaaGreatDoor
