/- Merged by program. -/
import Derived.Test.YthejpkflcgjdoaaGreatDoorE30
set_option linter.unusedVariables false
set_option linter.unusedSimpArgs false
namespace Go.Proofs.YthejpkflcgjdoaaGreatDoor
open Go.RowKit
set_option maxHeartbeats 4000000 in
set_option maxRecDepth 100000 in
theorem xwrd_any {w0 w:World} {bs:List Nat} {A:Option Addr} {c R:Nat} {last:Bool} {s:FS} (hB:RSrc w0 bs A c) (h:XB w0 bs A c R last s w) (S:ByteArray) :
  Calls Tryz.prog 40 #[.pointer (some ⟨R,0,none⟩),.string S] w (XTo w0 bs A c R last w (.tuple #[]) (wrdS bs last S s)):=by
 obtain⟨a,e⟩:=s
 have HR:=kf h
 have HD:=kf (h.call ((Chg.refl NoS w).drew))
 have HK:=kf (fun W (hW:Chg NoS w0 W)=>qwrd_any bs A c a last S W (Src.below (w0:=w0) hB.src hW) hB.len hB.cap hB.byt)
 have HN:=kf (show wrdS bs last S (a,e)=if e≠0 then(a,e) else pwrdO bs a last S from rfl)
 obtain⟨P,hP⟩:∃ P,P=pwrdO bs a last S:=⟨_,rfl⟩
 rw [<- hP] at HK HN
 obtain⟨a',e'⟩:=P
 simp only [] at HK HN
 clear hP hB
 obtain⟨q0,q1,q2,q3,z1,z3⟩:=h.cells
 simp only [] at q1 q3
 clear h
 by_cases he:e=0
 ·subst he
  have HZ:=kf (HN.out.trans (if_neg (by simp)))
  clear HN
  rw [HZ.out]
  go_enter Tryz.func40,Tryz.ntmps40
  go_upto_region 1 with fail
  go_region_with (go_at_call 74;refine(HK.out _ HD.out.chg).mono ?_;rintro e w2 ⟨rfl,hc2⟩;have HC2:=kf hc2;have HR2:=kf (HD.out.call hc2);obtain⟨x0,x1,x2,x3,y1,y3⟩:=HR2.out.cells;simp only [] at x1 x3;clear hc2)
  all_goals
   try go_wp2_with fail
   first|go_end0|go_ret|go_ret2
   exact⟨rfl,(HR2.out.setA a').setE e',only_tr (only_tr (only_of ((Chg.refl NoS w).drew.trans HC2.out (fun _ _ e=>e))) (only_set _ _ _ _)) (only_set _ _ _ _)⟩
 ·have e1:(e==0)=false:=by simpa using he
  have e2:(e != 0)=true:=by simpa using he
  have HZ:=kf (HN.out.trans (if_pos he))
  clear HN he
  rw [HZ.out]
  go_enter Tryz.func40,Tryz.ntmps40
  go_wp2_with fail
  first|go_end0|go_ret|go_ret2
  exact⟨rfl,HR.out,Chg.refl _ _⟩
theorem tokX_is {bs:List Nat} {last:Bool} {a:Int} {er:Int} {t:Tkn} (h:nextA bs a last=(er,t)):tokX bs last (a,0)=(t,((t.to:Nat):Int),if er=0/\t.kind=0 then 10 else er):=by
 unfold tokX
 rw [if_neg (by simp)]
 simp only [h]
theorem XB.held {w0 W:World} {bs:List Nat} {A:Option Addr} {c R:Nat} {last:Bool} {s:FS} (h:XB w0 bs A c R last s W):W.cell? ⟨R,0,none⟩=some (.slice A bs.length c)/\W.cell? ⟨R,1,none⟩=some (.int .i64 s.1)/\W.cell? ⟨R,2,none⟩=some (.bool last):=⟨h.cells.1,h.cells.2.1,h.cells.2.2.1⟩
set_option maxHeartbeats 16000000 in
set_option maxRecDepth 100000 in
theorem xtok_any {w0 wi:World} {bs:List Nat} {A:Option Addr} {c R:Nat} {last:Bool} {s:FS} (hB:RSrc w0 bs A c) (hi:XB w0 bs A c R last s wi) :
  Calls Tryz.prog 75 #[.pointer (some ⟨R,0,none⟩)] wi (XTo w0 bs A c R last wi (tknV (tokX bs last s).1) (tokX bs last s).2):=by
 obtain⟨a,e⟩:=s
 have HLTi:Hid (R<wi.heap.size):=hi.lt
 have h:=hi.call ((Chg.refl NoS wi).alloc (.cells #[.int .i64 0,.int .i64 0,.int .i64 0,.int .i64 0,.int .i64 0,.string ⟨#[]⟩,.slice none 0 0,.string ⟨#[]⟩] 131))
 have hb2:=Blk.new wi 131 #[.int .i64 0,.int .i64 0,.int .i64 0,.int .i64 0,.int .i64 0,.string ⟨#[]⟩,.slice none 0 0,.string ⟨#[]⟩]
 have hci:=(Chg.refl NoS wi).alloc (.cells #[.int .i64 0,.int .i64 0,.int .i64 0,.int .i64 0,.int .i64 0,.string ⟨#[]⟩,.slice none 0 0,.string ⟨#[]⟩] 131)
 have hge2:w0.heap.size<=wi.heap.size:=hi.chg.size
 by_cases he:e=0
 ·subst he
  go_enter Tryz.func75,Tryz.ntmps75
  go_upto_region 1 with fail
  obtain⟨w,hw⟩:∃ w,w=wi.alloc (.cells #[.int .i64 0,.int .i64 0,.int .i64 0,.int .i64 0,.int .i64 0,.string ⟨#[]⟩,.slice none 0 0,.string ⟨#[]⟩] 131):=⟨_,rfl⟩
  obtain⟨g2,hg2⟩:∃ g2,g2=wi.heap.size:=⟨_,rfl⟩
  have HG2:Hid (g2<w.heap.size/\R≠g2/\g2=wi.heap.size/\w0.heap.size<=g2):=by
   show _/\_/\_/\_
   have:=HLTi.out
   rw [hw,World.size_alloc]
   omega
  rw [<- hw] at h hb2 hci ⊢
  rw [<- hg2] at hb2 ⊢
  clear hw hg2 hi HLTi hge2
  have HB2:=kf hb2
  have HCI:=kf hci
  clear hb2 hci
  have HR:=kf h
  have HD:=kf (h.call ((Chg.refl NoS w).drew))
  have HDA:=kf (h.call (((Chg.refl NoS w).drew).alloc (.cells #[.int .i64 0,.int .i64 0,.int .i64 0,.int .i64 0,.int .i64 0,.string ⟨#[]⟩,.slice none 0 0,.string ⟨#[]⟩] 131)))
  have HBA:=kf (show Blk (w.drew.alloc (.cells #[.int .i64 0,.int .i64 0,.int .i64 0,.int .i64 0,.int .i64 0,.string ⟨#[]⟩,.slice none 0 0,.string ⟨#[]⟩] 131)) w.heap.size 131 #[.int .i64 0,.int .i64 0,.int .i64 0,.int .i64 0,.int .i64 0,.string ⟨#[]⟩,.slice none 0 0,.string ⟨#[]⟩] from Blk.new w.drew _ _)
  have HK:=kf (fun W (hW:Chg NoS w0 W)=>pnext_any bs A c a last W (Src.below (w0:=w0) hB.src hW) hB.len hB.cap hB.byt)
  obtain⟨P,hP⟩:∃ P,P=nextA bs a last:=⟨_,rfl⟩
  rw [<- hP] at HK
  obtain⟨er,tk,tf,tt_,tvk,tvn,tvs,ts⟩:=P
  have HN2:=kf (tokX_is hP.symm)
  unfold NxTo tknV at HK
  simp only [] at HK HN2
  obtain⟨S6,hS6⟩:∃ S6,S6=sb tvs:=⟨_,rfl⟩
  obtain⟨S7,hS7⟩:∃ S7,S7=sb ts:=⟨_,rfl⟩
  rw [<- hS6,<- hS7] at HK
  have HS6:=kf hS6
  have HS7:=kf hS7
  obtain⟨q0,q1,q2,q3,z1,z3⟩:=h.cells
  have HLT:Hid (R<w.heap.size):=h.lt
  have HW0:Hid (w0.heap.size<=w.heap.size):=h.chg.size
  have n1:R≠w.heap.size:=by have:=HLT.out;omega
  have n2:w.heap.size≠R:=Ne.symm n1
  simp only [] at q1 q3
  clear h hP hB hS6 hS7
  go_upto_region 3 with fail
  go_cut [3,4] from 11 to 29 (fun s3 s4 wx=>∃ g3,s3=.pointer (some ⟨g3,0,none⟩)/\s4=.int .i64 er/\Hid (Blk wx g3 131 #[.int .i64 (tk:Nat),.int .i64 (tf:Nat),.int .i64 (tt_:Nat),.int .i64 (tvk:Nat),.int .i64 tvn,.string S6,.slice none 0 0,.string S7]/\Chg NoS w wx/\XB w0 bs A c R last (a,0) wx/\R≠g3/\w.heap.size<=g3))
  case first =>
   refine startZ (fun w'=>w'.cell? ⟨R,0,none⟩=some (.slice A bs.length c)/\w'.cell? ⟨R,1,none⟩=some (.int .i64 a)/\w'.cell? ⟨R,2,none⟩=some (.bool last)) 21 (by kernel_rfl) HD.out.held (fun hHeld=>?_)
   refine takeZ (i:=0) (oi:={ dst:=some 12,op:=Go.Op.move (Go.Operand.tmp 0),type:=78,pos:=_,after:=_,guard:=none }) (v:=?_) rfl (by kernel_rfl) (by kernel_rfl) (by kernel_rfl) (by kernel_rfl) (fun _ _ _ h=>h) (Or.inl ⟨by rfl,?_⟩) (by assumption) ?_
   rotate_left
   ·intro w hSw;(try dsimp only at hSw);(try obtain⟨s0,s1,s2,s3,s4,s5⟩:=hSw);(first|(go_simp;done)|(go_simp;with_reducible rfl))
   try simp only [Act.put,List.setIfInBounds_toArray,List.set_cons_zero,List.set_cons_succ]
   refine takeZ (i:=1) (oi:={ dst:=some 13,op:=Go.Op.nilCheck (Go.Operand.tmp 12),type:=0,pos:=_,after:=_,guard:=none }) (v:=?_) rfl (by kernel_rfl) (by kernel_rfl) (by kernel_rfl) (by kernel_rfl) (fun _ _ _ h=>h) (Or.inl ⟨by rfl,?_⟩) (by assumption) ?_
   rotate_left
   ·intro w hSw;(try dsimp only at hSw);(try obtain⟨s0,s1,s2,s3,s4,s5⟩:=hSw);(first|(go_simp;done)|(go_simp;with_reducible rfl))
   try simp only [Act.put,List.setIfInBounds_toArray,List.set_cons_zero,List.set_cons_succ]
   refine takeZ (i:=2) (oi:={ dst:=some 14,op:=Go.Op.fieldAddr 82 (Go.Operand.tmp 13) 0,type:=0,pos:=_,after:=_,guard:=none }) (v:=?_) rfl (by kernel_rfl) (by kernel_rfl) (by kernel_rfl) (by kernel_rfl) (fun _ _ _ h=>h) (Or.inl ⟨by rfl,?_⟩) (by assumption) ?_
   rotate_left
   ·intro w hSw;(try dsimp only at hSw);(try obtain⟨s0,s1,s2,s3,s4,s5⟩:=hSw);(first|(go_simp;done)|(go_simp;with_reducible rfl))
   try simp only [Act.put,List.setIfInBounds_toArray,List.set_cons_zero,List.set_cons_succ]
   refine takeZ (i:=3) (oi:={ dst:=some 15,op:=Go.Op.fieldAddr 80 (Go.Operand.tmp 14) 0,type:=0,pos:=_,after:=_,guard:=none }) (v:=?_) rfl (by kernel_rfl) (by kernel_rfl) (by kernel_rfl) (by kernel_rfl) (fun _ _ _ h=>h) (Or.inl ⟨by rfl,?_⟩) (by assumption) ?_
   rotate_left
   ·intro w hSw;(try dsimp only at hSw);(try obtain⟨s0,s1,s2,s3,s4,s5⟩:=hSw);(first|(go_simp;done)|(go_simp;with_reducible rfl))
   try simp only [Act.put,List.setIfInBounds_toArray,List.set_cons_zero,List.set_cons_succ]
   refine takeZ (i:=4) (oi:={ dst:=some 16,op:=Go.Op.load 32 (Go.Operand.tmp 15),type:=32,pos:=_,after:=_,guard:=none }) (v:=?_) rfl (by kernel_rfl) (by kernel_rfl) (by kernel_rfl) (by kernel_rfl) (fun _ _ _ h=>h) (Or.inl ⟨by rfl,?_⟩) (by assumption) ?_
   rotate_left
   ·intro w hSw;(try dsimp only at hSw);(try obtain⟨s0,s1,s2,s3,s4,s5⟩:=hSw);(first|(go_simp;done)|(go_simp;with_reducible rfl))
   try simp only [Act.put,List.setIfInBounds_toArray,List.set_cons_zero,List.set_cons_succ]
   refine takeZ (i:=5) (oi:={ dst:=some 17,op:=Go.Op.move (Go.Operand.tmp 0),type:=78,pos:=_,after:=_,guard:=none }) (v:=?_) rfl (by kernel_rfl) (by kernel_rfl) (by kernel_rfl) (by kernel_rfl) (fun _ _ _ h=>h) (Or.inl ⟨by rfl,?_⟩) (by assumption) ?_
   rotate_left
   ·intro w hSw;(try dsimp only at hSw);(try obtain⟨s0,s1,s2,s3,s4,s5⟩:=hSw);(first|(go_simp;done)|(go_simp;with_reducible rfl))
   try simp only [Act.put,List.setIfInBounds_toArray,List.set_cons_zero,List.set_cons_succ]
   refine takeZ (i:=6) (oi:={ dst:=some 18,op:=Go.Op.nilCheck (Go.Operand.tmp 17),type:=0,pos:=_,after:=_,guard:=none }) (v:=?_) rfl (by kernel_rfl) (by kernel_rfl) (by kernel_rfl) (by kernel_rfl) (fun _ _ _ h=>h) (Or.inl ⟨by rfl,?_⟩) (by assumption) ?_
   rotate_left
   ·intro w hSw;(try dsimp only at hSw);(try obtain⟨s0,s1,s2,s3,s4,s5⟩:=hSw);(first|(go_simp;done)|(go_simp;with_reducible rfl))
   try simp only [Act.put,List.setIfInBounds_toArray,List.set_cons_zero,List.set_cons_succ]
   refine takeZ (i:=7) (oi:={ dst:=some 19,op:=Go.Op.fieldAddr 82 (Go.Operand.tmp 18) 0,type:=0,pos:=_,after:=_,guard:=none }) (v:=?_) rfl (by kernel_rfl) (by kernel_rfl) (by kernel_rfl) (by kernel_rfl) (fun _ _ _ h=>h) (Or.inl ⟨by rfl,?_⟩) (by assumption) ?_
   rotate_left
   ·intro w hSw;(try dsimp only at hSw);(try obtain⟨s0,s1,s2,s3,s4,s5⟩:=hSw);(first|(go_simp;done)|(go_simp;with_reducible rfl))
   try simp only [Act.put,List.setIfInBounds_toArray,List.set_cons_zero,List.set_cons_succ]
   refine takeZ (i:=8) (oi:={ dst:=some 20,op:=Go.Op.fieldAddr 80 (Go.Operand.tmp 19) 1,type:=0,pos:=_,after:=_,guard:=none }) (v:=?_) rfl (by kernel_rfl) (by kernel_rfl) (by kernel_rfl) (by kernel_rfl) (fun _ _ _ h=>h) (Or.inl ⟨by rfl,?_⟩) (by assumption) ?_
   rotate_left
   ·intro w hSw;(try dsimp only at hSw);(try obtain⟨s0,s1,s2,s3,s4,s5⟩:=hSw);(first|(go_simp;done)|(go_simp;with_reducible rfl))
   try simp only [Act.put,List.setIfInBounds_toArray,List.set_cons_zero,List.set_cons_succ]
   refine takeZ (i:=9) (oi:={ dst:=some 21,op:=Go.Op.load 3 (Go.Operand.tmp 20),type:=3,pos:=_,after:=_,guard:=none }) (v:=?_) rfl (by kernel_rfl) (by kernel_rfl) (by kernel_rfl) (by kernel_rfl) (fun _ _ _ h=>h) (Or.inl ⟨by rfl,?_⟩) (by assumption) ?_
   rotate_left
   ·intro w hSw;(try dsimp only at hSw);(try obtain⟨s0,s1,s2,s3,s4,s5⟩:=hSw);(first|(go_simp;done)|(go_simp;with_reducible rfl))
   try simp only [Act.put,List.setIfInBounds_toArray,List.set_cons_zero,List.set_cons_succ]
   refine takeZ (i:=10) (oi:={ dst:=some 22,op:=Go.Op.move (Go.Operand.tmp 0),type:=78,pos:=_,after:=_,guard:=none }) (v:=?_) rfl (by kernel_rfl) (by kernel_rfl) (by kernel_rfl) (by kernel_rfl) (fun _ _ _ h=>h) (Or.inl ⟨by rfl,?_⟩) (by assumption) ?_
   rotate_left
   ·intro w hSw;(try dsimp only at hSw);(try obtain⟨s0,s1,s2,s3,s4,s5⟩:=hSw);(first|(go_simp;done)|(go_simp;with_reducible rfl))
   try simp only [Act.put,List.setIfInBounds_toArray,List.set_cons_zero,List.set_cons_succ]
   refine takeZ (i:=11) (oi:={ dst:=some 23,op:=Go.Op.nilCheck (Go.Operand.tmp 22),type:=0,pos:=_,after:=_,guard:=none }) (v:=?_) rfl (by kernel_rfl) (by kernel_rfl) (by kernel_rfl) (by kernel_rfl) (fun _ _ _ h=>h) (Or.inl ⟨by rfl,?_⟩) (by assumption) ?_
   rotate_left
   ·intro w hSw;(try dsimp only at hSw);(try obtain⟨s0,s1,s2,s3,s4,s5⟩:=hSw);(first|(go_simp;done)|(go_simp;with_reducible rfl))
   try simp only [Act.put,List.setIfInBounds_toArray,List.set_cons_zero,List.set_cons_succ]
   refine takeZ (i:=12) (oi:={ dst:=some 24,op:=Go.Op.fieldAddr 82 (Go.Operand.tmp 23) 0,type:=0,pos:=_,after:=_,guard:=none }) (v:=?_) rfl (by kernel_rfl) (by kernel_rfl) (by kernel_rfl) (by kernel_rfl) (fun _ _ _ h=>h) (Or.inl ⟨by rfl,?_⟩) (by assumption) ?_
   rotate_left
   ·intro w hSw;(try dsimp only at hSw);(try obtain⟨s0,s1,s2,s3,s4,s5⟩:=hSw);(first|(go_simp;done)|(go_simp;with_reducible rfl))
   try simp only [Act.put,List.setIfInBounds_toArray,List.set_cons_zero,List.set_cons_succ]
   refine takeZ (i:=13) (oi:={ dst:=some 25,op:=Go.Op.fieldAddr 80 (Go.Operand.tmp 24) 2,type:=0,pos:=_,after:=_,guard:=none }) (v:=?_) rfl (by kernel_rfl) (by kernel_rfl) (by kernel_rfl) (by kernel_rfl) (fun _ _ _ h=>h) (Or.inl ⟨by rfl,?_⟩) (by assumption) ?_
   rotate_left
   ·intro w hSw;(try dsimp only at hSw);(try obtain⟨s0,s1,s2,s3,s4,s5⟩:=hSw);(first|(go_simp;done)|(go_simp;with_reducible rfl))
   try simp only [Act.put,List.setIfInBounds_toArray,List.set_cons_zero,List.set_cons_succ]
   refine takeZ (i:=14) (oi:={ dst:=some 26,op:=Go.Op.load 4 (Go.Operand.tmp 25),type:=4,pos:=_,after:=_,guard:=none }) (v:=?_) rfl (by kernel_rfl) (by kernel_rfl) (by kernel_rfl) (by kernel_rfl) (fun _ _ _ h=>h) (Or.inl ⟨by rfl,?_⟩) (by assumption) ?_
   rotate_left
   ·intro w hSw;(try dsimp only at hSw);(try obtain⟨s0,s1,s2,s3,s4,s5⟩:=hSw);(first|(go_simp;done)|(go_simp;with_reducible rfl))
   try simp only [Act.put,List.setIfInBounds_toArray,List.set_cons_zero,List.set_cons_succ]
   refine twoZ (i:=15) (j:=19) (o:={ dst:=some 27,op:=Go.Op.call { callee:=Go.Callee.value (Go.Operand.func 109),args:=#[Go.Operand.tmp 16,Go.Operand.tmp 21,Go.Operand.tmp 26],argTypes:=#[32,3,4] },type:=164,pos:=_,after:=_,guard:=none }) (o':={ dst:=some 3,op:=Go.Op.alloc 131,type:=0,pos:=_,after:=_,guard:=none }) (by kernel_rfl) rfl rfl (by decide) (by decide) (fun K hK=>?_) (fun K hK=>?_)
   ·go_simp
    (go_at_call 109;refine(HK.out _ HD.out.chg).mono ?_;rintro e w2 ⟨rfl,hc2⟩;have HC2:=kf ((Chg.refl NoS w).drew.trans hc2 (fun _ _ e=>e));have HR2:=kf (HD.out.call hc2);have m1:R≠w2.heap.size:=(by have:=HR2.out.lt;omega);have m2:w2.heap.size≠R:=Ne.symm m1;clear hc2)
    refine hK.out _ _ HR2.out.held (fun hHeld=>?_)
    clear hK K
    try simp only [Act.put,List.setIfInBounds_toArray,List.set_cons_zero,List.set_cons_succ]
    refine takeZ (i:=16) (oi:={ dst:=some 11,op:=Go.Op.move (Go.Operand.tmp 27),type:=164,pos:=_,after:=_,guard:=none }) (v:=?_) rfl (by kernel_rfl) (by kernel_rfl) (by kernel_rfl) (by kernel_rfl) (fun _ _ _ h=>h) (Or.inl ⟨by rfl,?_⟩) (by assumption) ?_
    rotate_left
    ·intro w hSw;(try dsimp only at hSw);(try obtain⟨s0,s1,s2,s3,s4,s5⟩:=hSw);(first|(go_simp;done)|(go_simp;with_reducible rfl))
    try simp only [Act.put,List.setIfInBounds_toArray,List.set_cons_zero,List.set_cons_succ]
    refine takeZ (i:=17) (oi:={ dst:=some 28,op:=Go.Op.extract (Go.Operand.tmp 11) 0,type:=131,pos:=_,after:=_,guard:=none }) (v:=?_) rfl (by kernel_rfl) (by kernel_rfl) (by kernel_rfl) (by kernel_rfl) (fun _ _ _ h=>h) (Or.inl ⟨by rfl,?_⟩) (by assumption) ?_
    rotate_left
    ·intro w hSw;(try dsimp only at hSw);(try obtain⟨s0,s1,s2,s3,s4,s5⟩:=hSw);(first|(go_simp;done)|(go_simp;with_reducible rfl))
    try simp only [Act.put,List.setIfInBounds_toArray,List.set_cons_zero,List.set_cons_succ]
    refine takeZ (i:=18) (oi:={ dst:=some 29,op:=Go.Op.extract (Go.Operand.tmp 11) 1,type:=33,pos:=_,after:=_,guard:=none }) (v:=?_) rfl (by kernel_rfl) (by kernel_rfl) (by kernel_rfl) (by kernel_rfl) (fun _ _ _ h=>h) (Or.inl ⟨by rfl,?_⟩) (by assumption) ?_
    rotate_left
    ·intro w hSw;(try dsimp only at hSw);(try obtain⟨s0,s1,s2,s3,s4,s5⟩:=hSw);(first|(go_simp;done)|(go_simp;with_reducible rfl))
    try simp only [Act.put,List.setIfInBounds_toArray,List.set_cons_zero,List.set_cons_succ]
    refine oneZ (i:=19) (o:={ dst:=some 3,op:=Go.Op.alloc 131,type:=0,pos:=_,after:=_,guard:=none }) (by kernel_rfl) rfl (by decide) (fun K hK=>?_)
    go_simp
    refine hK.out _ _ (HR2.out.call ((Chg.refl NoS w2).alloc _)).held (fun hHeld=>?_)
    clear hK K
    try simp only [Act.put,List.setIfInBounds_toArray,List.set_cons_zero,List.set_cons_succ]
    refine oneZ (i:=20) (o:={ dst:=none,op:=Go.Op.store 131 (Go.Operand.tmp 3) (Go.Operand.tmp 28),type:=0,pos:=_,after:=_,guard:=none }) (by kernel_rfl) rfl (by decide) (fun K hK=>?_)
    (first|(have hb9:=HB9.out)|(have hb9:=Blk.new w2 131 #[.int .i64 0,.int .i64 0,.int .i64 0,.int .i64 0,.int .i64 0,.string ⟨#[]⟩,.slice none 0 0,.string ⟨#[]⟩]));obtain⟨b0,b1,b2,b3,b4,b5,b6,b7,d0,d1,d2,d3,d4,d5,d6,d7⟩:=hb9.cl8;clear hb9;go_simp
    refine hK.out _ _ (HR2.out.call ((Chg.refl NoS w2).alloc _)).held (fun hHeld=>?_)
    clear hK K
    try simp only [Act.put,List.setIfInBounds_toArray,List.set_cons_zero,List.set_cons_succ]
    refine lastZ (o:={ dst:=some 4,op:=Go.Op.assign (Go.Operand.tmp 29),type:=33,pos:=_,after:=_,guard:=none }) (by kernel_rfl) rfl (by kernel_rfl) (fun K hK=>?_)
    go_simp
    refine hK.out _ _ ?_
    clear hK K
    try simp only [Act.put,List.setIfInBounds_toArray,List.set_cons_zero,List.set_cons_succ]
    go_wp2_with fail
    go_meet
    first
     |(have hbx:=HB9.out;exact⟨w.heap.size,rfl,rfl,kf ⟨Blk.set8 hbx _ _ _ _ _ _ _ _,HC2.out.trans (set8_chg w2 w.heap.size _ _ _ _ _ _ _ _) (fun i hi e=>by rw [e] at hi;exact absurd hi (Nat.lt_irrefl _)),HR2.out.far (set8_chg w2 w.heap.size _ _ _ _ _ _ _ _) n1 (fun i hi e=>by have:=HW0.out;rw [e] at hi;exact absurd hi (Nat.not_lt.2 this)),n1,Nat.le_refl _⟩⟩)
     |exact⟨w2.heap.size,rfl,rfl,kf ⟨Blk.new w2 _ _,HC2.out.alloc _,HR2.out.call ((Chg.refl NoS w2).alloc _),m1,HC2.out.size⟩⟩
   ·go_simp
    refine hK.out _ _ HDA.out.held (fun hHeld=>?_)
    clear hK K
    try simp only [Act.put,List.setIfInBounds_toArray,List.set_cons_zero,List.set_cons_succ]
    refine oneZ (i:=15) (o:={ dst:=some 27,op:=Go.Op.call { callee:=Go.Callee.value (Go.Operand.func 109),args:=#[Go.Operand.tmp 16,Go.Operand.tmp 21,Go.Operand.tmp 26],argTypes:=#[32,3,4] },type:=164,pos:=_,after:=_,guard:=none }) (by kernel_rfl) rfl (by decide) (fun K hK=>?_)
    go_simp
    (go_at_call 109;refine(HK.out _ HDA.out.chg).mono ?_;rintro e w2 ⟨rfl,hc2⟩;have HC2:=kf (((Chg.refl NoS w).drew.alloc _).trans hc2 (fun _ _ e=>e));have HR2:=kf (HDA.out.call hc2);have HB9:=kf (HBA.out.chg hc2 (fun e=>e));clear hc2)
    refine hK.out _ _ HR2.out.held (fun hHeld=>?_)
    clear hK K
    try simp only [Act.put,List.setIfInBounds_toArray,List.set_cons_zero,List.set_cons_succ]
    refine takeZ (i:=16) (oi:={ dst:=some 11,op:=Go.Op.move (Go.Operand.tmp 27),type:=164,pos:=_,after:=_,guard:=none }) (v:=?_) rfl (by kernel_rfl) (by kernel_rfl) (by kernel_rfl) (by kernel_rfl) (fun _ _ _ h=>h) (Or.inl ⟨by rfl,?_⟩) (by assumption) ?_
    rotate_left
    ·intro w hSw;(try dsimp only at hSw);(try obtain⟨s0,s1,s2,s3,s4,s5⟩:=hSw);(first|(go_simp;done)|(go_simp;with_reducible rfl))
    try simp only [Act.put,List.setIfInBounds_toArray,List.set_cons_zero,List.set_cons_succ]
    refine takeZ (i:=17) (oi:={ dst:=some 28,op:=Go.Op.extract (Go.Operand.tmp 11) 0,type:=131,pos:=_,after:=_,guard:=none }) (v:=?_) rfl (by kernel_rfl) (by kernel_rfl) (by kernel_rfl) (by kernel_rfl) (fun _ _ _ h=>h) (Or.inl ⟨by rfl,?_⟩) (by assumption) ?_
    rotate_left
    ·intro w hSw;(try dsimp only at hSw);(try obtain⟨s0,s1,s2,s3,s4,s5⟩:=hSw);(first|(go_simp;done)|(go_simp;with_reducible rfl))
    try simp only [Act.put,List.setIfInBounds_toArray,List.set_cons_zero,List.set_cons_succ]
    refine takeZ (i:=18) (oi:={ dst:=some 29,op:=Go.Op.extract (Go.Operand.tmp 11) 1,type:=33,pos:=_,after:=_,guard:=none }) (v:=?_) rfl (by kernel_rfl) (by kernel_rfl) (by kernel_rfl) (by kernel_rfl) (fun _ _ _ h=>h) (Or.inl ⟨by rfl,?_⟩) (by assumption) ?_
    rotate_left
    ·intro w hSw;(try dsimp only at hSw);(try obtain⟨s0,s1,s2,s3,s4,s5⟩:=hSw);(first|(go_simp;done)|(go_simp;with_reducible rfl))
    try simp only [Act.put,List.setIfInBounds_toArray,List.set_cons_zero,List.set_cons_succ]
    refine oneZ (i:=20) (o:={ dst:=none,op:=Go.Op.store 131 (Go.Operand.tmp 3) (Go.Operand.tmp 28),type:=0,pos:=_,after:=_,guard:=none }) (by kernel_rfl) rfl (by decide) (fun K hK=>?_)
    (first|(have hb9:=HB9.out)|(have hb9:=Blk.new w2 131 #[.int .i64 0,.int .i64 0,.int .i64 0,.int .i64 0,.int .i64 0,.string ⟨#[]⟩,.slice none 0 0,.string ⟨#[]⟩]));obtain⟨b0,b1,b2,b3,b4,b5,b6,b7,d0,d1,d2,d3,d4,d5,d6,d7⟩:=hb9.cl8;clear hb9;go_simp
    refine hK.out _ _ (HR2.out.far (set8_chg w2 w.heap.size _ _ _ _ _ _ _ _) n1 (fun i hi e=>by have:=HW0.out;rw [e] at hi;exact absurd hi (Nat.not_lt.2 this))).held (fun hHeld=>?_)
    clear hK K
    try simp only [Act.put,List.setIfInBounds_toArray,List.set_cons_zero,List.set_cons_succ]
    refine lastZ (o:={ dst:=some 4,op:=Go.Op.assign (Go.Operand.tmp 29),type:=33,pos:=_,after:=_,guard:=none }) (by kernel_rfl) rfl (by kernel_rfl) (fun K hK=>?_)
    go_simp
    refine hK.out _ _ ?_
    clear hK K
    try simp only [Act.put,List.setIfInBounds_toArray,List.set_cons_zero,List.set_cons_succ]
    go_wp2_with fail
    go_meet
    first
     |(have hbx:=HB9.out;exact⟨w.heap.size,rfl,rfl,kf ⟨Blk.set8 hbx _ _ _ _ _ _ _ _,HC2.out.trans (set8_chg w2 w.heap.size _ _ _ _ _ _ _ _) (fun i hi e=>by rw [e] at hi;exact absurd hi (Nat.lt_irrefl _)),HR2.out.far (set8_chg w2 w.heap.size _ _ _ _ _ _ _ _) n1 (fun i hi e=>by have:=HW0.out;rw [e] at hi;exact absurd hi (Nat.not_lt.2 this)),n1,Nat.le_refl _⟩⟩)
     |exact⟨w2.heap.size,rfl,rfl,kf ⟨Blk.new w2 _ _,HC2.out.alloc _,HR2.out.call ((Chg.refl NoS w2).alloc _),m1,HC2.out.size⟩⟩
  case rest =>
   obtain⟨g3,rfl,rfl,hx⟩:=hcut
   obtain⟨hx1,hx2,hx3,hx4,hx5⟩:=hx.out
   have HB3:=kf hx1
   have HC3:=kf hx2
   have HR3:=kf hx3
   have HNE:=kf hx4
   have HB4:=kf (HB2.out.chg hx2 (fun e=>e))
   have HN23:Hid (g3≠g2):=by show g3≠g2;have:=HG2.out.1;omega
   clear hx hx1 hx2 hx3 hx4 hx5 q0 q1 q2 q3 z1 z3 HB2
   obtain⟨W3,hW3⟩:∃ W3,W3=wc:=⟨_,rfl⟩
   subst hW3
   obtain⟨p0,p1,p2,p3,p4,p5,p6,p7,_,_,_,_,_,_,_,_⟩:=HB3.out.cl8
   obtain⟨x0,x1,x2,x3,y1,y3⟩:=HR3.out.cells
   simp only [] at x1 x3
   by_cases her:er=0
   ·subst her
    by_cases hk0:tk=0
    ·subst hk0
     have HZ:=kf (show(if (0:Int)=0/\(0:Nat)=0 then(10:Int) else(0:Int))=10 from rfl)
     go_upto_region 7 with fail
     have HR5:Hid (XB w0 bs A c R last (((tt_:Nat):Int),10) ((W3.setCell ⟨R,1,none⟩ (.int .i64 (tt_:Nat))).setCell ⟨R,3,none⟩ (.int .i64 10))):=(HR3.out.setA (tt_:Nat)).setE 10
     have HO5:Hid (Chg (Only R) wi ((W3.setCell ⟨R,1,none⟩ (.int .i64 (tt_:Nat))).setCell ⟨R,3,none⟩ (.int .i64 10))):=only_tr (only_tr (only_of (HCI.out.trans HC3.out (fun _ _ e=>e))) (only_set _ _ _ _)) (only_set _ _ _ _)
     have HB5:=kf ((HB3.out.far (p:=⟨R,1,none⟩) (fun e=>HNE.out e.symm) (.int .i64 (tt_:Nat))).far (p:=⟨R,3,none⟩) (fun e=>HNE.out e.symm) (.int .i64 10))
     have HB6:=kf ((HB4.out.far (p:=⟨R,1,none⟩) (fun e=>HG2.out.2.1 e.symm) (.int .i64 (tt_:Nat))).far (p:=⟨R,3,none⟩) (fun e=>HG2.out.2.1 e.symm) (.int .i64 10))
     obtain⟨W5,hW5⟩:∃ W5,W5=(W3.setCell ⟨R,1,none⟩ (.int .i64 (tt_:Nat))).setCell ⟨R,3,none⟩ (.int .i64 10):=⟨_,rfl⟩
     rw [<- hW5] at HR5 HO5 HB5 HB6 ⊢
     clear hW5 p0 p1 p2 p3 p4 p5 p6 p7 x0 x1 x2 x3 y1 y3
     obtain⟨p0,p1,p2,p3,p4,p5,p6,p7,_,_,_,_,_,_,_,_⟩:=HB5.out.cl8
     obtain⟨r0,r1,r2,r3,r4,r5,r6,r7,u0,u1,u2,u3,u4,u5,u6,u7⟩:=HB6.out.cl8
     go_wp2_with fail
     refine bodyPost_ret (v:=.agg #[.int .i64 0,.int .i64 (tf:Nat),.int .i64 (tt_:Nat),.int .i64 (tvk:Nat),.int .i64 tvn,.string S6,.slice none 0 0,.string S7]) (by simp [results,Tryz.results75,go_sem,r0,r1,r2,r3,r4,r5,r6,r7]) rfl ?_
     rw [HN2.out,HZ.out]
     refine⟨by rw [HS6.out,HS7.out];rfl,HR5.out.far (set8_chg W5 g2 _ _ _ _ _ _ _ _) HG2.out.2.1 (fun i hi e=>by have:=HG2.out.2.2.2;omega),HO5.out.trans (set8_chg W5 g2 _ _ _ _ _ _ _ _) (fun i hi e=>by have:=HG2.out.2.2.1;omega)⟩
    ·skip
     have HZ:=kf (show(if (0:Int)=0/\tk=0 then(10:Int) else(0:Int))=0 from if_neg (fun h=>hk0 h.2))
     have k0:((tk:Int)==0)=false:=by simp;omega
     clear hk0
     go_upto_region 7 with fail
     have HR5:Hid (XB w0 bs A c R last (((tt_:Nat):Int),0) ((W3.setCell ⟨R,1,none⟩ (.int .i64 (tt_:Nat))).setCell ⟨R,3,none⟩ (.int .i64 0))):=(HR3.out.setA (tt_:Nat)).setE 0
     have HO5:Hid (Chg (Only R) wi ((W3.setCell ⟨R,1,none⟩ (.int .i64 (tt_:Nat))).setCell ⟨R,3,none⟩ (.int .i64 0))):=only_tr (only_tr (only_of (HCI.out.trans HC3.out (fun _ _ e=>e))) (only_set _ _ _ _)) (only_set _ _ _ _)
     have HB5:=kf ((HB3.out.far (p:=⟨R,1,none⟩) (fun e=>HNE.out e.symm) (.int .i64 (tt_:Nat))).far (p:=⟨R,3,none⟩) (fun e=>HNE.out e.symm) (.int .i64 0))
     have HB6:=kf ((HB4.out.far (p:=⟨R,1,none⟩) (fun e=>HG2.out.2.1 e.symm) (.int .i64 (tt_:Nat))).far (p:=⟨R,3,none⟩) (fun e=>HG2.out.2.1 e.symm) (.int .i64 0))
     obtain⟨W5,hW5⟩:∃ W5,W5=(W3.setCell ⟨R,1,none⟩ (.int .i64 (tt_:Nat))).setCell ⟨R,3,none⟩ (.int .i64 0):=⟨_,rfl⟩
     rw [<- hW5] at HR5 HO5 HB5 HB6 ⊢
     clear hW5 p0 p1 p2 p3 p4 p5 p6 p7 x0 x1 x2 x3 y1 y3
     obtain⟨p0,p1,p2,p3,p4,p5,p6,p7,_,_,_,_,_,_,_,_⟩:=HB5.out.cl8
     obtain⟨r0,r1,r2,r3,r4,r5,r6,r7,u0,u1,u2,u3,u4,u5,u6,u7⟩:=HB6.out.cl8
     go_wp2_with fail
     refine bodyPost_ret (v:=.agg #[.int .i64 (tk:Nat),.int .i64 (tf:Nat),.int .i64 (tt_:Nat),.int .i64 (tvk:Nat),.int .i64 tvn,.string S6,.slice none 0 0,.string S7]) (by simp [results,Tryz.results75,go_sem,r0,r1,r2,r3,r4,r5,r6,r7]) rfl ?_
     rw [HN2.out,HZ.out]
     refine⟨by rw [HS6.out,HS7.out];rfl,HR5.out.far (set8_chg W5 g2 _ _ _ _ _ _ _ _) HG2.out.2.1 (fun i hi e=>by have:=HG2.out.2.2.2;omega),HO5.out.trans (set8_chg W5 g2 _ _ _ _ _ _ _ _) (fun i hi e=>by have:=HG2.out.2.2.1;omega)⟩
   ·skip
    have HZ:=kf (show(if er=0/\tk=0 then(10:Int) else er)=er from if_neg (fun h=>her h.1))
    have r9:(er==0)=false:=by simpa using her
    have r8:(er != 0)=true:=by simpa using her
    clear her
    go_upto_region 7 with fail
    have HR5:Hid (XB w0 bs A c R last (((tt_:Nat):Int),er) ((W3.setCell ⟨R,1,none⟩ (.int .i64 (tt_:Nat))).setCell ⟨R,3,none⟩ (.int .i64 er))):=(HR3.out.setA (tt_:Nat)).setE er
    have HO5:Hid (Chg (Only R) wi ((W3.setCell ⟨R,1,none⟩ (.int .i64 (tt_:Nat))).setCell ⟨R,3,none⟩ (.int .i64 er))):=only_tr (only_tr (only_of (HCI.out.trans HC3.out (fun _ _ e=>e))) (only_set _ _ _ _)) (only_set _ _ _ _)
    have HB5:=kf ((HB3.out.far (p:=⟨R,1,none⟩) (fun e=>HNE.out e.symm) (.int .i64 (tt_:Nat))).far (p:=⟨R,3,none⟩) (fun e=>HNE.out e.symm) (.int .i64 er))
    have HB6:=kf ((HB4.out.far (p:=⟨R,1,none⟩) (fun e=>HG2.out.2.1 e.symm) (.int .i64 (tt_:Nat))).far (p:=⟨R,3,none⟩) (fun e=>HG2.out.2.1 e.symm) (.int .i64 er))
    obtain⟨W5,hW5⟩:∃ W5,W5=(W3.setCell ⟨R,1,none⟩ (.int .i64 (tt_:Nat))).setCell ⟨R,3,none⟩ (.int .i64 er):=⟨_,rfl⟩
    rw [<- hW5] at HR5 HO5 HB5 HB6 ⊢
    clear hW5 p0 p1 p2 p3 p4 p5 p6 p7 x0 x1 x2 x3 y1 y3
    obtain⟨p0,p1,p2,p3,p4,p5,p6,p7,_,_,_,_,_,_,_,_⟩:=HB5.out.cl8
    obtain⟨r0,r1,r2,r3,r4,r5,r6,r7,u0,u1,u2,u3,u4,u5,u6,u7⟩:=HB6.out.cl8
    go_wp2_with fail
    refine bodyPost_ret (v:=.agg #[.int .i64 (tk:Nat),.int .i64 (tf:Nat),.int .i64 (tt_:Nat),.int .i64 (tvk:Nat),.int .i64 tvn,.string S6,.slice none 0 0,.string S7]) (by simp [results,Tryz.results75,go_sem,r0,r1,r2,r3,r4,r5,r6,r7]) rfl ?_
    rw [HN2.out,HZ.out]
    refine⟨by rw [HS6.out,HS7.out];rfl,HR5.out.far (set8_chg W5 g2 _ _ _ _ _ _ _ _) HG2.out.2.1 (fun i hi e=>by have:=HG2.out.2.2.2;omega),HO5.out.trans (set8_chg W5 g2 _ _ _ _ _ _ _ _) (fun i hi e=>by have:=HG2.out.2.2.1;omega)⟩
 ·have e1:(e==0)=false:=by simpa using he
  have e2:(e != 0)=true:=by simpa using he
  have HZ:=kf (show tokX bs last (a,e)=(noT 0,(a,e)) from if_pos he)
  rw [HZ.out]
  clear he
  go_enter Tryz.func75,Tryz.ntmps75
  go_upto_region 1 with fail
  obtain⟨w,hw⟩:∃ w,w=wi.alloc (.cells #[.int .i64 0,.int .i64 0,.int .i64 0,.int .i64 0,.int .i64 0,.string ⟨#[]⟩,.slice none 0 0,.string ⟨#[]⟩] 131):=⟨_,rfl⟩
  obtain⟨g2,hg2⟩:∃ g2,g2=wi.heap.size:=⟨_,rfl⟩
  have HG2:Hid (R≠g2/\g2=wi.heap.size/\w0.heap.size<=g2):=by
   show _/\_/\_
   have:=HLTi.out
   omega
  rw [<- hw] at h hb2 hci ⊢
  rw [<- hg2] at hb2 ⊢
  have HR:=kf h
  have HCI:=kf hci
  obtain⟨q0,q1,q2,q3,z1,z3⟩:=h.cells
  obtain⟨p0,p1,p2,p3,p4,p5,p6,p7,u0,u1,u2,u3,u4,u5,u6,u7⟩:=hb2.cl8
  simp only [] at q1 q3
  clear hw hg2 hi HLTi hge2 h hci hb2 hB
  go_wp2_with fail
  refine bodyPost_ret (v:=.agg #[.int .i64 0,.int .i64 0,.int .i64 0,.int .i64 0,.int .i64 0,.string ⟨#[]⟩,.slice none 0 0,.string ⟨#[]⟩]) (by simp [results,Tryz.results75,go_sem,p0,p1,p2,p3,p4,p5,p6,p7]) rfl ?_
  refine⟨rfl,HR.out.far (set8_chg w g2 _ _ _ _ _ _ _ _) HG2.out.1 (fun i hi e=>by have:=HG2.out.2.2;omega),only_of (HCI.out.trans (set8_chg w g2 _ _ _ _ _ _ _ _) (fun i hi e=>by have:=HG2.out.2.1;omega))⟩
end Go.Proofs.YthejpkflcgjdoaaGreatDoor
