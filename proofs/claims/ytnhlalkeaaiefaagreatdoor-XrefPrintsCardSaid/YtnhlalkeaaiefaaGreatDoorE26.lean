import Derived.Test.YtnhlalkeaaiefaaGreatDoorE25
set_option linter.unusedVariables false
set_option maxHeartbeats 64000000
set_option maxRecDepth 100000
set_option linter.unusedSimpArgs false
namespace Go.Proofs.YtnhlalkeaaiefaaGreatDoor
open Go.RowKit
theorem v3w {bs:List Nat} {last:Bool} {a:Int} {er:Int} {t:Tkn} (h:z07 bs a last=(er,t)):z1j bs last (a,0)=(t,((t.to:Nat):Int),if er=0/\t.kind=0 then 10 else er):=by
 unfold z1j;rw [if_neg (by simp)];simp only [h]
theorem XB.held {w0 W:World} {bs:List Nat} {A:Option Addr} {c R:Nat} {last:Bool} {s:FS} (h:XB w0 bs A c R last s W):W.cell? ⟨R,0,none⟩=some (.slice A bs.length c)/\W.cell? ⟨R,1,none⟩=some (.int .i64 s.1)/\W.cell? ⟨R,2,none⟩=some (.bool last):=⟨h.cells.1,h.cells.2.1,h.cells.2.2.1⟩
theorem y9t {w0 wi:World} {bs:List Nat} {A:Option Addr} {c R:Nat} {last:Bool} {s:FS} (hB:RSrc w0 bs A c) (hi:XB w0 bs A c R last s wi) :
  Calls Tryz.prog 75 #[.pointer (some ⟨R,0,none⟩)] wi (XTo w0 bs A c R last wi (z78 (z1j bs last s).1) (z1j bs last s).2):=by
 obtain⟨a,e⟩:=s;have HLTi:Hid (R<wi.heap.size):=hi.lt;have h:=hi.call ((Chg.refl NoS wi).alloc (.cells #[.int .i64 0,.int .i64 0,.int .i64 0,.int .i64 0,.int .i64 0,.string ⟨#[]⟩,.slice none 0 0,.string ⟨#[]⟩] 131));have hb2:=Blk.new wi 131 #[.int .i64 0,.int .i64 0,.int .i64 0,.int .i64 0,.int .i64 0,.string ⟨#[]⟩,.slice none 0 0,.string ⟨#[]⟩];have hci:=(Chg.refl NoS wi).alloc (.cells #[.int .i64 0,.int .i64 0,.int .i64 0,.int .i64 0,.int .i64 0,.string ⟨#[]⟩,.slice none 0 0,.string ⟨#[]⟩] 131);have hge2:w0.heap.size<=wi.heap.size:=hi.chg.size;by_cases he:e=0
 ·subst he;go_enter Tryz.func75,Tryz.ntmps75;go_upto_region 1 with fail;obtain⟨w,hw⟩:∃ w,w=wi.alloc (.cells #[.int .i64 0,.int .i64 0,.int .i64 0,.int .i64 0,.int .i64 0,.string ⟨#[]⟩,.slice none 0 0,.string ⟨#[]⟩] 131):=⟨_,rfl⟩
  obtain⟨g2,hg2⟩:∃ g2,g2=wi.heap.size:=⟨_,rfl⟩
  have HG2:Hid (g2<w.heap.size/\R≠g2/\g2=wi.heap.size/\w0.heap.size<=g2):=by
   show _/\_/\_/\_;have:=HLTi.out;rw [hw,World.size_alloc];omega
  rw [<- hw] at h hb2 hci ⊢;rw [<- hg2] at hb2 ⊢;clear hw hg2 hi HLTi hge2;have HB2:=kf hb2;have HCI:=kf hci;clear hb2 hci;have HR:=kf h;have HD:=kf (h.call ((Chg.refl NoS w).drew));have HDA:=kf (h.call (((Chg.refl NoS w).drew).alloc (.cells #[.int .i64 0,.int .i64 0,.int .i64 0,.int .i64 0,.int .i64 0,.string ⟨#[]⟩,.slice none 0 0,.string ⟨#[]⟩] 131)));have HBA:=kf (show Blk (w.drew.alloc (.cells #[.int .i64 0,.int .i64 0,.int .i64 0,.int .i64 0,.int .i64 0,.string ⟨#[]⟩,.slice none 0 0,.string ⟨#[]⟩] 131)) w.heap.size 131 #[.int .i64 0,.int .i64 0,.int .i64 0,.int .i64 0,.int .i64 0,.string ⟨#[]⟩,.slice none 0 0,.string ⟨#[]⟩] from Blk.new w.drew _ _);have HK:=kf (fun W (hW:Chg NoS w0 W)=>y03 bs A c a last W (Src.below (w0:=w0) hB.src hW) hB.len hB.cap hB.byt);obtain⟨P,hP⟩:∃ P,P=z07 bs a last:=⟨_,rfl⟩
  rw [<- hP] at HK;obtain⟨er,tk,tf,tt_,tvk,tvn,tvs,ts⟩:=P;have HN2:=kf (v3w hP.symm);unfold y9q z78 at HK;simp only [] at HK HN2;obtain⟨S6,hS6⟩:∃ S6,S6=sb tvs:=⟨_,rfl⟩
  obtain⟨S7,hS7⟩:∃ S7,S7=sb ts:=⟨_,rfl⟩
  rw [<- hS6,<- hS7] at HK;have HS6:=kf hS6;have HS7:=kf hS7;obtain⟨q0,q1,q2,q3,z1,z3⟩:=h.cells;have HLT:Hid (R<w.heap.size):=h.lt;have HW0:Hid (w0.heap.size<=w.heap.size):=h.chg.size;have n1:R≠w.heap.size:=by have:=HLT.out;omega
  have n2:w.heap.size≠R:=Ne.symm n1;simp only [] at q1 q3;clear h hP hB hS6 hS7;go_upto_region 3 with fail;go_cut [3,4] from 11 to 29 (fun s3 s4 wx=>∃ g3,s3=.pointer (some ⟨g3,0,none⟩)/\s4=.int .i64 er/\Hid (Blk wx g3 131 #[.int .i64 (tk:Nat),.int .i64 (tf:Nat),.int .i64 (tt_:Nat),.int .i64 (tvk:Nat),.int .i64 tvn,.string S6,.slice none 0 0,.string S7]/\Chg NoS w wx/\XB w0 bs A c R last (a,0) wx/\R≠g3/\w.heap.size<=g3))
  case first =>
   refine y2d (fun w'=>w'.cell? ⟨R,0,none⟩=some (.slice A bs.length c)/\w'.cell? ⟨R,1,none⟩=some (.int .i64 a)/\w'.cell? ⟨R,2,none⟩=some (.bool last)) 21 (by kernel_rfl) HD.out.held (fun hHeld=>?_);refine z0b (i:=0) (oi:={ dst:=some 12,op:=Go.Op.move (Go.Operand.tmp 0),type:=78,pos:=_,after:=_,guard:=none }) (v:=?_) rfl (by kernel_rfl) (by kernel_rfl) (by kernel_rfl) (by kernel_rfl) (fun _ _ _ h=>h) (Or.inl ⟨by rfl,?_⟩) (by assumption) ?_;rotate_left
   ·intro w hSw;(try dsimp only at hSw);(try obtain⟨s0,s1,s2,s3,s4,s5⟩:=hSw);(first|(go_simp;done)|(go_simp;with_reducible rfl))
   try simp only [pkA]
   refine z0b (i:=1) (oi:={ dst:=some 13,op:=Go.Op.nilCheck (Go.Operand.tmp 12),type:=0,pos:=_,after:=_,guard:=none }) (v:=?_) rfl (by kernel_rfl) (by kernel_rfl) (by kernel_rfl) (by kernel_rfl) (fun _ _ _ h=>h) (Or.inl ⟨by rfl,?_⟩) (by assumption) ?_;rotate_left
   ·intro w hSw;(try dsimp only at hSw);(try obtain⟨s0,s1,s2,s3,s4,s5⟩:=hSw);(first|(go_simp;done)|(go_simp;with_reducible rfl))
   try simp only [pkA]
   refine z0b (i:=2) (oi:={ dst:=some 14,op:=Go.Op.fieldAddr 82 (Go.Operand.tmp 13) 0,type:=0,pos:=_,after:=_,guard:=none }) (v:=?_) rfl (by kernel_rfl) (by kernel_rfl) (by kernel_rfl) (by kernel_rfl) (fun _ _ _ h=>h) (Or.inl ⟨by rfl,?_⟩) (by assumption) ?_;rotate_left
   ·intro w hSw;(try dsimp only at hSw);(try obtain⟨s0,s1,s2,s3,s4,s5⟩:=hSw);(first|(go_simp;done)|(go_simp;with_reducible rfl))
   try simp only [pkA]
   refine z0b (i:=3) (oi:={ dst:=some 15,op:=Go.Op.fieldAddr 80 (Go.Operand.tmp 14) 0,type:=0,pos:=_,after:=_,guard:=none }) (v:=?_) rfl (by kernel_rfl) (by kernel_rfl) (by kernel_rfl) (by kernel_rfl) (fun _ _ _ h=>h) (Or.inl ⟨by rfl,?_⟩) (by assumption) ?_;rotate_left
   ·intro w hSw;(try dsimp only at hSw);(try obtain⟨s0,s1,s2,s3,s4,s5⟩:=hSw);(first|(go_simp;done)|(go_simp;with_reducible rfl))
   try simp only [pkA]
   refine z0b (i:=4) (oi:={ dst:=some 16,op:=Go.Op.load 32 (Go.Operand.tmp 15),type:=32,pos:=_,after:=_,guard:=none }) (v:=?_) rfl (by kernel_rfl) (by kernel_rfl) (by kernel_rfl) (by kernel_rfl) (fun _ _ _ h=>h) (Or.inl ⟨by rfl,?_⟩) (by assumption) ?_;rotate_left
   ·intro w hSw;(try dsimp only at hSw);(try obtain⟨s0,s1,s2,s3,s4,s5⟩:=hSw);(first|(go_simp;done)|(go_simp;with_reducible rfl))
   try simp only [pkA]
   refine z0b (i:=5) (oi:={ dst:=some 17,op:=Go.Op.move (Go.Operand.tmp 0),type:=78,pos:=_,after:=_,guard:=none }) (v:=?_) rfl (by kernel_rfl) (by kernel_rfl) (by kernel_rfl) (by kernel_rfl) (fun _ _ _ h=>h) (Or.inl ⟨by rfl,?_⟩) (by assumption) ?_;rotate_left
   ·intro w hSw;(try dsimp only at hSw);(try obtain⟨s0,s1,s2,s3,s4,s5⟩:=hSw);(first|(go_simp;done)|(go_simp;with_reducible rfl))
   try simp only [pkA]
   refine z0b (i:=6) (oi:={ dst:=some 18,op:=Go.Op.nilCheck (Go.Operand.tmp 17),type:=0,pos:=_,after:=_,guard:=none }) (v:=?_) rfl (by kernel_rfl) (by kernel_rfl) (by kernel_rfl) (by kernel_rfl) (fun _ _ _ h=>h) (Or.inl ⟨by rfl,?_⟩) (by assumption) ?_;rotate_left
   ·intro w hSw;(try dsimp only at hSw);(try obtain⟨s0,s1,s2,s3,s4,s5⟩:=hSw);(first|(go_simp;done)|(go_simp;with_reducible rfl))
   try simp only [pkA]
   refine z0b (i:=7) (oi:={ dst:=some 19,op:=Go.Op.fieldAddr 82 (Go.Operand.tmp 18) 0,type:=0,pos:=_,after:=_,guard:=none }) (v:=?_) rfl (by kernel_rfl) (by kernel_rfl) (by kernel_rfl) (by kernel_rfl) (fun _ _ _ h=>h) (Or.inl ⟨by rfl,?_⟩) (by assumption) ?_;rotate_left
   ·intro w hSw;(try dsimp only at hSw);(try obtain⟨s0,s1,s2,s3,s4,s5⟩:=hSw);(first|(go_simp;done)|(go_simp;with_reducible rfl))
   try simp only [pkA]
   refine z0b (i:=8) (oi:={ dst:=some 20,op:=Go.Op.fieldAddr 80 (Go.Operand.tmp 19) 1,type:=0,pos:=_,after:=_,guard:=none }) (v:=?_) rfl (by kernel_rfl) (by kernel_rfl) (by kernel_rfl) (by kernel_rfl) (fun _ _ _ h=>h) (Or.inl ⟨by rfl,?_⟩) (by assumption) ?_;rotate_left
   ·intro w hSw;(try dsimp only at hSw);(try obtain⟨s0,s1,s2,s3,s4,s5⟩:=hSw);(first|(go_simp;done)|(go_simp;with_reducible rfl))
   try simp only [pkA]
   refine z0b (i:=9) (oi:={ dst:=some 21,op:=Go.Op.load 3 (Go.Operand.tmp 20),type:=3,pos:=_,after:=_,guard:=none }) (v:=?_) rfl (by kernel_rfl) (by kernel_rfl) (by kernel_rfl) (by kernel_rfl) (fun _ _ _ h=>h) (Or.inl ⟨by rfl,?_⟩) (by assumption) ?_;rotate_left
   ·intro w hSw;(try dsimp only at hSw);(try obtain⟨s0,s1,s2,s3,s4,s5⟩:=hSw);(first|(go_simp;done)|(go_simp;with_reducible rfl))
   try simp only [pkA]
   refine z0b (i:=10) (oi:={ dst:=some 22,op:=Go.Op.move (Go.Operand.tmp 0),type:=78,pos:=_,after:=_,guard:=none }) (v:=?_) rfl (by kernel_rfl) (by kernel_rfl) (by kernel_rfl) (by kernel_rfl) (fun _ _ _ h=>h) (Or.inl ⟨by rfl,?_⟩) (by assumption) ?_;rotate_left
   ·intro w hSw;(try dsimp only at hSw);(try obtain⟨s0,s1,s2,s3,s4,s5⟩:=hSw);(first|(go_simp;done)|(go_simp;with_reducible rfl))
   try simp only [pkA]
   refine z0b (i:=11) (oi:={ dst:=some 23,op:=Go.Op.nilCheck (Go.Operand.tmp 22),type:=0,pos:=_,after:=_,guard:=none }) (v:=?_) rfl (by kernel_rfl) (by kernel_rfl) (by kernel_rfl) (by kernel_rfl) (fun _ _ _ h=>h) (Or.inl ⟨by rfl,?_⟩) (by assumption) ?_;rotate_left
   ·intro w hSw;(try dsimp only at hSw);(try obtain⟨s0,s1,s2,s3,s4,s5⟩:=hSw);(first|(go_simp;done)|(go_simp;with_reducible rfl))
   try simp only [pkA]
   refine z0b (i:=12) (oi:={ dst:=some 24,op:=Go.Op.fieldAddr 82 (Go.Operand.tmp 23) 0,type:=0,pos:=_,after:=_,guard:=none }) (v:=?_) rfl (by kernel_rfl) (by kernel_rfl) (by kernel_rfl) (by kernel_rfl) (fun _ _ _ h=>h) (Or.inl ⟨by rfl,?_⟩) (by assumption) ?_;rotate_left
   ·intro w hSw;(try dsimp only at hSw);(try obtain⟨s0,s1,s2,s3,s4,s5⟩:=hSw);(first|(go_simp;done)|(go_simp;with_reducible rfl))
   try simp only [pkA]
   refine z0b (i:=13) (oi:={ dst:=some 25,op:=Go.Op.fieldAddr 80 (Go.Operand.tmp 24) 2,type:=0,pos:=_,after:=_,guard:=none }) (v:=?_) rfl (by kernel_rfl) (by kernel_rfl) (by kernel_rfl) (by kernel_rfl) (fun _ _ _ h=>h) (Or.inl ⟨by rfl,?_⟩) (by assumption) ?_;rotate_left
   ·intro w hSw;(try dsimp only at hSw);(try obtain⟨s0,s1,s2,s3,s4,s5⟩:=hSw);(first|(go_simp;done)|(go_simp;with_reducible rfl))
   try simp only [pkA]
   refine z0b (i:=14) (oi:={ dst:=some 26,op:=Go.Op.load 4 (Go.Operand.tmp 25),type:=4,pos:=_,after:=_,guard:=none }) (v:=?_) rfl (by kernel_rfl) (by kernel_rfl) (by kernel_rfl) (by kernel_rfl) (fun _ _ _ h=>h) (Or.inl ⟨by rfl,?_⟩) (by assumption) ?_;rotate_left
   ·intro w hSw;(try dsimp only at hSw);(try obtain⟨s0,s1,s2,s3,s4,s5⟩:=hSw);(first|(go_simp;done)|(go_simp;with_reducible rfl))
   try simp only [pkA]
   refine v9j (i:=15) (j:=19) (o:={ dst:=some 27,op:=Go.Op.call { callee:=Go.Callee.value (Go.Operand.func 109),args:=#[Go.Operand.tmp 16,Go.Operand.tmp 21,Go.Operand.tmp 26],argTypes:=#[32,3,4] },type:=164,pos:=_,after:=_,guard:=none }) (o':={ dst:=some 3,op:=Go.Op.alloc 131,type:=0,pos:=_,after:=_,guard:=none }) (by kernel_rfl) rfl rfl (by decide) (by decide) (fun K hK=>?_) (fun K hK=>?_)
   ·go_simp;(go_at_call 109;refine(HK.out _ HD.out.chg).mono ?_;rintro e w2 ⟨rfl,hc2⟩;have HC2:=kf ((Chg.refl NoS w).drew.trans hc2 (fun _ _ e=>e));have HR2:=kf (HD.out.call hc2);have m1:R≠w2.heap.size:=(by have:=HR2.out.lt;omega);have m2:w2.heap.size≠R:=Ne.symm m1;clear hc2)
    refine hK.out _ _ HR2.out.held (fun hHeld=>?_);clear hK K;try simp only [pkA]
    refine z0b (i:=16) (oi:={ dst:=some 11,op:=Go.Op.move (Go.Operand.tmp 27),type:=164,pos:=_,after:=_,guard:=none }) (v:=?_) rfl (by kernel_rfl) (by kernel_rfl) (by kernel_rfl) (by kernel_rfl) (fun _ _ _ h=>h) (Or.inl ⟨by rfl,?_⟩) (by assumption) ?_;rotate_left
    ·intro w hSw;(try dsimp only at hSw);(try obtain⟨s0,s1,s2,s3,s4,s5⟩:=hSw);(first|(go_simp;done)|(go_simp;with_reducible rfl))
    try simp only [pkA]
    refine z0b (i:=17) (oi:={ dst:=some 28,op:=Go.Op.extract (Go.Operand.tmp 11) 0,type:=131,pos:=_,after:=_,guard:=none }) (v:=?_) rfl (by kernel_rfl) (by kernel_rfl) (by kernel_rfl) (by kernel_rfl) (fun _ _ _ h=>h) (Or.inl ⟨by rfl,?_⟩) (by assumption) ?_;rotate_left
    ·intro w hSw;(try dsimp only at hSw);(try obtain⟨s0,s1,s2,s3,s4,s5⟩:=hSw);(first|(go_simp;done)|(go_simp;with_reducible rfl))
    try simp only [pkA]
    refine z0b (i:=18) (oi:={ dst:=some 29,op:=Go.Op.extract (Go.Operand.tmp 11) 1,type:=33,pos:=_,after:=_,guard:=none }) (v:=?_) rfl (by kernel_rfl) (by kernel_rfl) (by kernel_rfl) (by kernel_rfl) (fun _ _ _ h=>h) (Or.inl ⟨by rfl,?_⟩) (by assumption) ?_;rotate_left
    ·intro w hSw;(try dsimp only at hSw);(try obtain⟨s0,s1,s2,s3,s4,s5⟩:=hSw);(first|(go_simp;done)|(go_simp;with_reducible rfl))
    try simp only [pkA]
    refine y59 (i:=19) (o:={ dst:=some 3,op:=Go.Op.alloc 131,type:=0,pos:=_,after:=_,guard:=none }) (by kernel_rfl) rfl (by decide) (fun K hK=>?_);go_simp;refine hK.out _ _ (HR2.out.call ((Chg.refl NoS w2).alloc _)).held (fun hHeld=>?_);clear hK K;try simp only [pkA]
    refine y59 (i:=20) (o:={ dst:=none,op:=Go.Op.store 131 (Go.Operand.tmp 3) (Go.Operand.tmp 28),type:=0,pos:=_,after:=_,guard:=none }) (by kernel_rfl) rfl (by decide) (fun K hK=>?_);(first|(have hb9:=HB9.out)|(have hb9:=Blk.new w2 131 #[.int .i64 0,.int .i64 0,.int .i64 0,.int .i64 0,.int .i64 0,.string ⟨#[]⟩,.slice none 0 0,.string ⟨#[]⟩]));obtain⟨b0,b1,b2,b3,b4,b5,b6,b7,d0,d1,d2,d3,d4,d5,d6,d7⟩:=hb9.cl8;clear hb9;go_simp
    refine hK.out _ _ (HR2.out.call ((Chg.refl NoS w2).alloc _)).held (fun hHeld=>?_);clear hK K;try simp only [pkA]
    refine y7o (o:={ dst:=some 4,op:=Go.Op.assign (Go.Operand.tmp 29),type:=33,pos:=_,after:=_,guard:=none }) (by kernel_rfl) rfl (by kernel_rfl) (fun K hK=>?_);go_simp;refine hK.out _ _ ?_;clear hK K;try simp only [pkA]
    go_wp2_with fail;go_meet
    first
     |(have hbx:=HB9.out;exact⟨w.heap.size,rfl,rfl,kf ⟨Blk.set8 hbx _ _ _ _ _ _ _ _,HC2.out.trans (z0k w2 w.heap.size _ _ _ _ _ _ _ _) (fun i hi e=>by rw [e] at hi;exact absurd hi (Nat.lt_irrefl _)),HR2.out.far (z0k w2 w.heap.size _ _ _ _ _ _ _ _) n1 (fun i hi e=>by have:=HW0.out;rw [e] at hi;exact absurd hi (Nat.not_lt.2 this)),n1,Nat.le_refl _⟩⟩)
     |exact⟨w2.heap.size,rfl,rfl,kf ⟨Blk.new w2 _ _,HC2.out.alloc _,HR2.out.call ((Chg.refl NoS w2).alloc _),m1,HC2.out.size⟩⟩
   ·go_simp;refine hK.out _ _ HDA.out.held (fun hHeld=>?_);clear hK K;try simp only [pkA]
    refine y59 (i:=15) (o:={ dst:=some 27,op:=Go.Op.call { callee:=Go.Callee.value (Go.Operand.func 109),args:=#[Go.Operand.tmp 16,Go.Operand.tmp 21,Go.Operand.tmp 26],argTypes:=#[32,3,4] },type:=164,pos:=_,after:=_,guard:=none }) (by kernel_rfl) rfl (by decide) (fun K hK=>?_);go_simp;(go_at_call 109;refine(HK.out _ HDA.out.chg).mono ?_;rintro e w2 ⟨rfl,hc2⟩;have HC2:=kf (((Chg.refl NoS w).drew.alloc _).trans hc2 (fun _ _ e=>e));have HR2:=kf (HDA.out.call hc2);have HB9:=kf (HBA.out.chg hc2 (fun e=>e));clear hc2)
    refine hK.out _ _ HR2.out.held (fun hHeld=>?_);clear hK K;try simp only [pkA]
    refine z0b (i:=16) (oi:={ dst:=some 11,op:=Go.Op.move (Go.Operand.tmp 27),type:=164,pos:=_,after:=_,guard:=none }) (v:=?_) rfl (by kernel_rfl) (by kernel_rfl) (by kernel_rfl) (by kernel_rfl) (fun _ _ _ h=>h) (Or.inl ⟨by rfl,?_⟩) (by assumption) ?_;rotate_left
    ·intro w hSw;(try dsimp only at hSw);(try obtain⟨s0,s1,s2,s3,s4,s5⟩:=hSw);(first|(go_simp;done)|(go_simp;with_reducible rfl))
    try simp only [pkA]
    refine z0b (i:=17) (oi:={ dst:=some 28,op:=Go.Op.extract (Go.Operand.tmp 11) 0,type:=131,pos:=_,after:=_,guard:=none }) (v:=?_) rfl (by kernel_rfl) (by kernel_rfl) (by kernel_rfl) (by kernel_rfl) (fun _ _ _ h=>h) (Or.inl ⟨by rfl,?_⟩) (by assumption) ?_;rotate_left
    ·intro w hSw;(try dsimp only at hSw);(try obtain⟨s0,s1,s2,s3,s4,s5⟩:=hSw);(first|(go_simp;done)|(go_simp;with_reducible rfl))
    try simp only [pkA]
    refine z0b (i:=18) (oi:={ dst:=some 29,op:=Go.Op.extract (Go.Operand.tmp 11) 1,type:=33,pos:=_,after:=_,guard:=none }) (v:=?_) rfl (by kernel_rfl) (by kernel_rfl) (by kernel_rfl) (by kernel_rfl) (fun _ _ _ h=>h) (Or.inl ⟨by rfl,?_⟩) (by assumption) ?_;rotate_left
    ·intro w hSw;(try dsimp only at hSw);(try obtain⟨s0,s1,s2,s3,s4,s5⟩:=hSw);(first|(go_simp;done)|(go_simp;with_reducible rfl))
    try simp only [pkA]
    refine y59 (i:=20) (o:={ dst:=none,op:=Go.Op.store 131 (Go.Operand.tmp 3) (Go.Operand.tmp 28),type:=0,pos:=_,after:=_,guard:=none }) (by kernel_rfl) rfl (by decide) (fun K hK=>?_);(first|(have hb9:=HB9.out)|(have hb9:=Blk.new w2 131 #[.int .i64 0,.int .i64 0,.int .i64 0,.int .i64 0,.int .i64 0,.string ⟨#[]⟩,.slice none 0 0,.string ⟨#[]⟩]));obtain⟨b0,b1,b2,b3,b4,b5,b6,b7,d0,d1,d2,d3,d4,d5,d6,d7⟩:=hb9.cl8;clear hb9;go_simp
    refine hK.out _ _ (HR2.out.far (z0k w2 w.heap.size _ _ _ _ _ _ _ _) n1 (fun i hi e=>by have:=HW0.out;rw [e] at hi;exact absurd hi (Nat.not_lt.2 this))).held (fun hHeld=>?_);clear hK K;try simp only [pkA]
    refine y7o (o:={ dst:=some 4,op:=Go.Op.assign (Go.Operand.tmp 29),type:=33,pos:=_,after:=_,guard:=none }) (by kernel_rfl) rfl (by kernel_rfl) (fun K hK=>?_);go_simp;refine hK.out _ _ ?_;clear hK K;try simp only [pkA]
    go_wp2_with fail;go_meet
    first
     |(have hbx:=HB9.out;exact⟨w.heap.size,rfl,rfl,kf ⟨Blk.set8 hbx _ _ _ _ _ _ _ _,HC2.out.trans (z0k w2 w.heap.size _ _ _ _ _ _ _ _) (fun i hi e=>by rw [e] at hi;exact absurd hi (Nat.lt_irrefl _)),HR2.out.far (z0k w2 w.heap.size _ _ _ _ _ _ _ _) n1 (fun i hi e=>by have:=HW0.out;rw [e] at hi;exact absurd hi (Nat.not_lt.2 this)),n1,Nat.le_refl _⟩⟩)
     |exact⟨w2.heap.size,rfl,rfl,kf ⟨Blk.new w2 _ _,HC2.out.alloc _,HR2.out.call ((Chg.refl NoS w2).alloc _),m1,HC2.out.size⟩⟩
  case rest =>
   obtain⟨g3,rfl,rfl,hx⟩:=hcut;obtain⟨hx1,hx2,hx3,hx4,hx5⟩:=hx.out;have HB3:=kf hx1;have HC3:=kf hx2;have HR3:=kf hx3;have HNE:=kf hx4;have HB4:=kf (HB2.out.chg hx2 (fun e=>e));have HN23:Hid (g3≠g2):=by show g3≠g2;have:=HG2.out.1;omega
   clear hx hx1 hx2 hx3 hx4 hx5 q0 q1 q2 q3 z1 z3 HB2;obtain⟨W3,hW3⟩:∃ W3,W3=wc:=⟨_,rfl⟩
   subst hW3;obtain⟨p0,p1,p2,p3,p4,p5,p6,p7,_,_,_,_,_,_,_,_⟩:=HB3.out.cl8;obtain⟨x0,x1,x2,x3,y1,y3⟩:=HR3.out.cells;simp only [] at x1 x3;by_cases her:er=0
   ·subst her;by_cases hk0:tk=0
    ·subst hk0;have HZ:=kf (show(if (0:Int)=0/\(0:Nat)=0 then(10:Int) else(0:Int))=10 from rfl);go_upto_region 7 with fail;have HR5:Hid (XB w0 bs A c R last (((tt_:Nat):Int),10) ((W3.setCell ⟨R,1,none⟩ (.int .i64 (tt_:Nat))).setCell ⟨R,3,none⟩ (.int .i64 10))):=(HR3.out.setA (tt_:Nat)).setE 10;have HO5:Hid (Chg (z88 R) wi ((W3.setCell ⟨R,1,none⟩ (.int .i64 (tt_:Nat))).setCell ⟨R,3,none⟩ (.int .i64 10))):=z09 (z09 (z13 (HCI.out.trans HC3.out (fun _ _ e=>e))) (z10 _ _ _ _)) (z10 _ _ _ _);have HB5:=kf ((HB3.out.far (p:=⟨R,1,none⟩) (fun e=>HNE.out e.symm) (.int .i64 (tt_:Nat))).far (p:=⟨R,3,none⟩) (fun e=>HNE.out e.symm) (.int .i64 10));have HB6:=kf ((HB4.out.far (p:=⟨R,1,none⟩) (fun e=>HG2.out.2.1 e.symm) (.int .i64 (tt_:Nat))).far (p:=⟨R,3,none⟩) (fun e=>HG2.out.2.1 e.symm) (.int .i64 10));obtain⟨W5,hW5⟩:∃ W5,W5=(W3.setCell ⟨R,1,none⟩ (.int .i64 (tt_:Nat))).setCell ⟨R,3,none⟩ (.int .i64 10):=⟨_,rfl⟩
     rw [<- hW5] at HR5 HO5 HB5 HB6 ⊢;clear hW5 p0 p1 p2 p3 p4 p5 p6 p7 x0 x1 x2 x3 y1 y3;obtain⟨p0,p1,p2,p3,p4,p5,p6,p7,_,_,_,_,_,_,_,_⟩:=HB5.out.cl8;obtain⟨r0,r1,r2,r3,r4,r5,r6,r7,u0,u1,u2,u3,u4,u5,u6,u7⟩:=HB6.out.cl8;go_wp2_with fail;refine bodyPost_ret (v:=.agg #[.int .i64 0,.int .i64 (tf:Nat),.int .i64 (tt_:Nat),.int .i64 (tvk:Nat),.int .i64 tvn,.string S6,.slice none 0 0,.string S7]) (by simp [results,Tryz.results75,go_sem,r0,r1,r2,r3,r4,r5,r6,r7]) rfl ?_;rw [HN2.out,HZ.out];refine⟨by rw [HS6.out,HS7.out];rfl,HR5.out.far (z0k W5 g2 _ _ _ _ _ _ _ _) HG2.out.2.1 (fun i hi e=>by have:=HG2.out.2.2.2;omega),HO5.out.trans (z0k W5 g2 _ _ _ _ _ _ _ _) (fun i hi e=>by have:=HG2.out.2.2.1;omega)⟩
    ·skip
     have HZ:=kf (show(if (0:Int)=0/\tk=0 then(10:Int) else(0:Int))=0 from if_neg (fun h=>hk0 h.2));have k0:((tk:Int)==0)=false:=by simp;omega
     clear hk0;go_upto_region 7 with fail;have HR5:Hid (XB w0 bs A c R last (((tt_:Nat):Int),0) ((W3.setCell ⟨R,1,none⟩ (.int .i64 (tt_:Nat))).setCell ⟨R,3,none⟩ (.int .i64 0))):=(HR3.out.setA (tt_:Nat)).setE 0;have HO5:Hid (Chg (z88 R) wi ((W3.setCell ⟨R,1,none⟩ (.int .i64 (tt_:Nat))).setCell ⟨R,3,none⟩ (.int .i64 0))):=z09 (z09 (z13 (HCI.out.trans HC3.out (fun _ _ e=>e))) (z10 _ _ _ _)) (z10 _ _ _ _);have HB5:=kf ((HB3.out.far (p:=⟨R,1,none⟩) (fun e=>HNE.out e.symm) (.int .i64 (tt_:Nat))).far (p:=⟨R,3,none⟩) (fun e=>HNE.out e.symm) (.int .i64 0));have HB6:=kf ((HB4.out.far (p:=⟨R,1,none⟩) (fun e=>HG2.out.2.1 e.symm) (.int .i64 (tt_:Nat))).far (p:=⟨R,3,none⟩) (fun e=>HG2.out.2.1 e.symm) (.int .i64 0));obtain⟨W5,hW5⟩:∃ W5,W5=(W3.setCell ⟨R,1,none⟩ (.int .i64 (tt_:Nat))).setCell ⟨R,3,none⟩ (.int .i64 0):=⟨_,rfl⟩
     rw [<- hW5] at HR5 HO5 HB5 HB6 ⊢;clear hW5 p0 p1 p2 p3 p4 p5 p6 p7 x0 x1 x2 x3 y1 y3;obtain⟨p0,p1,p2,p3,p4,p5,p6,p7,_,_,_,_,_,_,_,_⟩:=HB5.out.cl8;obtain⟨r0,r1,r2,r3,r4,r5,r6,r7,u0,u1,u2,u3,u4,u5,u6,u7⟩:=HB6.out.cl8;go_wp2_with fail;refine bodyPost_ret (v:=.agg #[.int .i64 (tk:Nat),.int .i64 (tf:Nat),.int .i64 (tt_:Nat),.int .i64 (tvk:Nat),.int .i64 tvn,.string S6,.slice none 0 0,.string S7]) (by simp [results,Tryz.results75,go_sem,r0,r1,r2,r3,r4,r5,r6,r7]) rfl ?_;rw [HN2.out,HZ.out];refine⟨by rw [HS6.out,HS7.out];rfl,HR5.out.far (z0k W5 g2 _ _ _ _ _ _ _ _) HG2.out.2.1 (fun i hi e=>by have:=HG2.out.2.2.2;omega),HO5.out.trans (z0k W5 g2 _ _ _ _ _ _ _ _) (fun i hi e=>by have:=HG2.out.2.2.1;omega)⟩
   ·skip
    have HZ:=kf (show(if er=0/\tk=0 then(10:Int) else er)=er from if_neg (fun h=>her h.1));have r9:(er==0)=false:=by simpa using her
    have r8:(er != 0)=true:=by simpa using her
    clear her;go_upto_region 7 with fail;have HR5:Hid (XB w0 bs A c R last (((tt_:Nat):Int),er) ((W3.setCell ⟨R,1,none⟩ (.int .i64 (tt_:Nat))).setCell ⟨R,3,none⟩ (.int .i64 er))):=(HR3.out.setA (tt_:Nat)).setE er;have HO5:Hid (Chg (z88 R) wi ((W3.setCell ⟨R,1,none⟩ (.int .i64 (tt_:Nat))).setCell ⟨R,3,none⟩ (.int .i64 er))):=z09 (z09 (z13 (HCI.out.trans HC3.out (fun _ _ e=>e))) (z10 _ _ _ _)) (z10 _ _ _ _);have HB5:=kf ((HB3.out.far (p:=⟨R,1,none⟩) (fun e=>HNE.out e.symm) (.int .i64 (tt_:Nat))).far (p:=⟨R,3,none⟩) (fun e=>HNE.out e.symm) (.int .i64 er));have HB6:=kf ((HB4.out.far (p:=⟨R,1,none⟩) (fun e=>HG2.out.2.1 e.symm) (.int .i64 (tt_:Nat))).far (p:=⟨R,3,none⟩) (fun e=>HG2.out.2.1 e.symm) (.int .i64 er));obtain⟨W5,hW5⟩:∃ W5,W5=(W3.setCell ⟨R,1,none⟩ (.int .i64 (tt_:Nat))).setCell ⟨R,3,none⟩ (.int .i64 er):=⟨_,rfl⟩
    rw [<- hW5] at HR5 HO5 HB5 HB6 ⊢;clear hW5 p0 p1 p2 p3 p4 p5 p6 p7 x0 x1 x2 x3 y1 y3;obtain⟨p0,p1,p2,p3,p4,p5,p6,p7,_,_,_,_,_,_,_,_⟩:=HB5.out.cl8;obtain⟨r0,r1,r2,r3,r4,r5,r6,r7,u0,u1,u2,u3,u4,u5,u6,u7⟩:=HB6.out.cl8;go_wp2_with fail;refine bodyPost_ret (v:=.agg #[.int .i64 (tk:Nat),.int .i64 (tf:Nat),.int .i64 (tt_:Nat),.int .i64 (tvk:Nat),.int .i64 tvn,.string S6,.slice none 0 0,.string S7]) (by simp [results,Tryz.results75,go_sem,r0,r1,r2,r3,r4,r5,r6,r7]) rfl ?_;rw [HN2.out,HZ.out];refine⟨by rw [HS6.out,HS7.out];rfl,HR5.out.far (z0k W5 g2 _ _ _ _ _ _ _ _) HG2.out.2.1 (fun i hi e=>by have:=HG2.out.2.2.2;omega),HO5.out.trans (z0k W5 g2 _ _ _ _ _ _ _ _) (fun i hi e=>by have:=HG2.out.2.2.1;omega)⟩
 ·have e1:(e==0)=false:=by simpa using he
  have e2:(e != 0)=true:=by simpa using he
  have HZ:=kf (show z1j bs last (a,e)=(noT 0,(a,e)) from if_pos he);rw [HZ.out];clear he;go_enter Tryz.func75,Tryz.ntmps75;go_upto_region 1 with fail;obtain⟨w,hw⟩:∃ w,w=wi.alloc (.cells #[.int .i64 0,.int .i64 0,.int .i64 0,.int .i64 0,.int .i64 0,.string ⟨#[]⟩,.slice none 0 0,.string ⟨#[]⟩] 131):=⟨_,rfl⟩
  obtain⟨g2,hg2⟩:∃ g2,g2=wi.heap.size:=⟨_,rfl⟩
  have HG2:Hid (R≠g2/\g2=wi.heap.size/\w0.heap.size<=g2):=by
   show _/\_/\_;have:=HLTi.out;omega
  rw [<- hw] at h hb2 hci ⊢;rw [<- hg2] at hb2 ⊢;have HR:=kf h;have HCI:=kf hci;obtain⟨q0,q1,q2,q3,z1,z3⟩:=h.cells;obtain⟨p0,p1,p2,p3,p4,p5,p6,p7,u0,u1,u2,u3,u4,u5,u6,u7⟩:=hb2.cl8;simp only [] at q1 q3;clear hw hg2 hi HLTi hge2 h hci hb2 hB;go_wp2_with fail;refine bodyPost_ret (v:=.agg #[.int .i64 0,.int .i64 0,.int .i64 0,.int .i64 0,.int .i64 0,.string ⟨#[]⟩,.slice none 0 0,.string ⟨#[]⟩]) (by simp [results,Tryz.results75,go_sem,p0,p1,p2,p3,p4,p5,p6,p7]) rfl ?_;refine⟨rfl,HR.out.far (z0k w g2 _ _ _ _ _ _ _ _) HG2.out.1 (fun i hi e=>by have:=HG2.out.2.2;omega),z13 (HCI.out.trans (z0k w g2 _ _ _ _ _ _ _ _) (fun i hi e=>by have:=HG2.out.2.1;omega))⟩
theorem v0e {bs:List Nat} {q x:Nat} {l:List Nat} (hd:bs.drop q=x::bs.drop (q+1)):z9q bs q=if z3s x=true then z9q bs (q+1)+1 else 0:=by
 unfold z9q;rw [hd,List.takeWhile_cons];by_cases h:z3s x=true
 ·rw [if_pos h,if_pos h];rfl
 ·rw [if_neg h,if_neg h];rfl
theorem v41 {bs:List Nat} {q:Nat} (h:bs.length<=q):z9q bs q=0:=by
 unfold z9q;rw [List.drop_of_length_le h];rfl
theorem y9v {w0 w:World} {bs:List Nat} {A:Option Addr} {c R:Nat} {last:Bool} {p:Nat} {e:Int} (hB:RSrc w0 bs A c) (h:XB w0 bs A c R last ((p:Nat),e) w) (hp:p<=bs.length) :
  Calls Tryz.prog 110 #[.pointer (some ⟨R,0,none⟩)] w (XTo w0 bs A c R last w (.tuple #[]) (((p+z9q bs p:Nat):Int),e)):=by
 have HR:=kf h;have HCELL:=kf (fun(W:World) (hW:Chg NoS w0 W) (hn:0<bs.length)=>z5x hB.src hW hn);have hlen:=hB.len;have hcap:=hB.cap;have HDR:=kf (fun q (hq:q<bs.length)=>z19 (bs:=bs) (k:=q) hq);have HST:=kf (fun q x (hd:bs.drop q=x::bs.drop (q+1))=>v0e (l:=[]) hd);have HEN:=kf (fun q (hq:bs.length<=q)=>v41 (bs:=bs) hq);obtain⟨T,hT⟩:∃ T,T=p+z9q bs p:=⟨_,rfl⟩
 have HT:=kf hT;rw [<- hT];obtain⟨n,hn⟩:∃ n,n=bs.length:=⟨_,rfl⟩
 rw [<- hn] at hp hlen hcap HCELL HDR HEN;have HNL:=kf hn;clear h hB hT hn;go_enter Tryz.func110,Tryz.ntmps110;go_wp2_with fail;go_loopg [] (n-p) (fun g wr=>∃ q:Nat,q<=n/\g=n-q/\Hid (XB w0 bs A c R last ((q:Nat),e) wr)/\Hid (Chg (z88 R) w wr)/\Hid (T=q+z9q bs q))
 case atStart=>exact⟨p,hp,rfl,HR,kf (Chg.refl _ _),HT⟩
 case round =>
  obtain⟨q,hq,rfl,HRq,HCq,HTq⟩:=hrel;obtain⟨q0,q1,q2,q3,z1,z3⟩:=HRq.out.cells;simp only [] at q1 q3;rw [<- HNL.out] at q0;by_cases hlt:q<n
  ·obtain⟨x,hx,hd⟩:=HDR.out q hlt;obtain⟨b,off,hA,hcell⟩:=HCELL.out _ HRq.out.chg (by omega);subst hA;have c0:=hcell q x hx;have HSX:=kf (HST.out q x hd);have HSP:=kf (fun W=>z3i x W);have d1:decide ((q:Int)<(n:Int))=true:=by simp;omega
   have b1:(q:Int)<n:=by omega
   clear hcell hx hd;by_cases hs:z3s x=true
   ·rw [hs] at HSP;have HSS:=kf hs;clear hs;go_upto_region 0 with fail;go_quiet ((go_at_call 151;exact z57 (HSP.out _)));go_wp2_with fail;go_roundg (n-(q+1))
    case rel =>
     refine⟨q+1,by omega,rfl,(congrArg (fun z:Int=>XB w0 bs (some ⟨b,off,none⟩) c R last (z,e) ((wr.drewN nq).setCell ⟨R,1,none⟩ (.int .i64 ((q:Int)+1)))) (show(q:Int)+1=((q+1:Nat):Int) by omega)).mp (((HRq.out.call ((Chg.refl NoS _).drewN nq)).setA ((q:Int)+1))),kf (z09 (z09 HCq.out (z13 ((Chg.refl NoS _).drewN nq))) (z10 _ _ _ _)),kf ?_⟩;rw [HTq.out,HSX.out,if_pos HSS.out];omega
    case measure=>omega
   ·have hs':z3s x=false:=by simpa using hs
    rw [hs'] at HSP;have HF:=kf (show z9q bs q=0 from by rw [HSX.out,if_neg hs]);clear hs hs';go_upto_region 0 with fail;go_quiet ((go_at_call 151;exact z57 (HSP.out _)));go_wp2_with fail;first|go_end0|go_ret|go_ret2
    refine⟨rfl,?_,z09 HCq.out (z13 ((Chg.refl NoS _).drewN nq))⟩;rw [HTq.out,HF.out];exact HRq.out.call ((Chg.refl NoS _).drewN nq)
  ·have d1:decide ((q:Int)<(n:Int))=false:=by simp;omega
   have HF:=kf (HEN.out q (by omega));go_upto_region 0 with fail;go_quiet (fail);go_wp2_with fail;first|go_end0|go_ret|go_ret2
   refine⟨rfl,?_,z09 HCq.out (z13 ((Chg.refl NoS _).drewN nq))⟩;rw [HTq.out,HF.out];exact HRq.out.call ((Chg.refl NoS _).drewN nq)
theorem y8v {bs:List Nat} {last:Bool} {n:Nat} {s:FS} {l:List XEn} (h:n=0\/s.2≠0):z2j bs last n s l=(l,s):=by
 rcases h with h|h
 ·subst h;rfl
 ·exact y0m h
theorem v1z {bs:List Nat} {last:Bool} {n q:Nat} {l:List XEn}:z2j bs last (n+1) ((q:Nat),0) l=z2j bs last n (y1r bs last (q+z9q bs q)).2 (l++[(y1r bs last (q+z9q bs q)).1]):=by
 rw [z2j,if_neg (by simp)];rfl
theorem v6s {W:World} {B:Nat} {e:XEn} {T:TypeId} (h:Blk W B T #[.int .i64 e.pl,.int .i64 e.gen,.bool e.us]):Src W 3 (some ⟨B,0,none⟩) 1 1 (z2k [e]):=by
 refine⟨rfl,fun e=>(by cases e),fun ad ha j u hj=>?_⟩;cases ha
 have hj3:j<3:=(List.getElem?_eq_some_iff.1 hj).1;have hadd:(⟨B,0,none⟩:Addr).add j=⟨B,j,none⟩:=by unfold Addr.add;split<;>simp_all
 rw [hadd,h.cell j];rcases j with _|_|_|j
 ·exact hj
 ·exact hj
 ·exact hj
 ·omega
def q0e (w0:World) (bs:List Nat) (A:Option Addr) (c R:Nat) (last:Bool) (w:World) (l:List XEn) (s:FS) (e:Ending) (w':World):Prop :=
 ∃ (B:Option Addr) (d:Nat),e=.returned (.slice B l.length d)/\Ev (fun i=>i<w.heap.size) w' (EnS l B d)/\XB w0 bs A c R last s w'/\Chg (z88 R) w w'
theorem y5f {w0 w:World} {bs:List Nat} {A:Option Addr} {c R:Nat} {last:Bool} {s:FS} (hB:RSrc w0 bs A c) (h:XB w0 bs A c R last s w) (hf:z3d bs.length s) (m:Int) (hm:s.2=0->0<=m/\m<=4097) :
  Calls Tryz.prog 78 #[.pointer (some ⟨R,0,none⟩),.int .i64 m] w (q0e w0 bs A c R last w (z2j bs last m.toNat s []).1 (z2j bs last m.toNat s []).2):=by
 have HR:=kf h;have HW0:Hid (w0.heap.size<=w.heap.size/\R<w.heap.size):=⟨h.chg.size,h.lt⟩
 have HSP:=kf (fun(W:World) (q:Nat) (hW:XB w0 bs A c R last ((q:Nat),0) W) (hq:q<=bs.length)=>y9v hB hW hq);have HEN:=kf (fun(W:World) (q:Nat) (hW:XB w0 bs A c R last ((q:Nat),0) W) (hq:q<=bs.length)=>y9y hB hW hq);have HFN:=kf (fun q=>y8w (last:=last) (bs:=bs) (p:=q));have HGO:=kf (fun(n q:Nat) (l:List XEn)=>v1z (bs:=bs) (last:=last) (n:=n) (q:=q) (l:=l));have HND:=kf (fun(n:Nat) (s:FS) (l:List XEn) (hn:n=0\/s.2≠0)=>y8v (bs:=bs) (last:=last) (l:=l) hn);have HLE:=kf (fun p (hp:p<=bs.length)=>v6t bs p hp);have hf':=hf;obtain⟨T,hT⟩:∃ T,T=z2j bs last m.toNat s []:=⟨_,rfl⟩
 rw [<- hT];have HT:=kf hT;have HM:=kf hm;have HF:=kf hf;clear h hB hT hm hf hf';go_enter Tryz.func78,Tryz.ntmps78;go_wp2_with fail;go_loopg [5] m.toNat (fun g v5 wr=>∃ (k:Nat) (l:List XEn) (sk:FS) (B:Option Addr) (d:Nat),v5=.slice B k d/\g=m.toNat-k/\Hid (s.2=0->k<=m.toNat)/\Hid (s.2≠0->sk=s)/\Hid (RwE w wr l k B d)/\Hid (XB w0 bs A c R last sk wr)/\Hid (Chg (z88 R) w wr)/\Hid (z3d bs.length sk)/\Hid (T=z2j bs last (m.toNat-k) sk l))
 case atStart=>exact⟨0,[],s,none,0,rfl,rfl,fun _=>Nat.zero_le _,fun _=>rfl,RwE.start (Nat.le_refl _),HR.out,Chg.refl _ _,HF.out,HT.out⟩
 case round =>
  obtain⟨k,l,sk,B,d,rfl,rfl,HKM,HSK,HRE,HRk,HCk,HFk,HTk⟩:=hrel;obtain⟨a,e⟩:=sk;obtain⟨q0,q1,q2,q3,z1,z3⟩:=HRk.out.cells;simp only [] at q1 q3;by_cases he:e=0
  ·subst he;have hs0:s.2=0:=Classical.byContradiction fun hne=>by have h1:=HSK.out hne;rw [<- h1] at hne;exact hne rfl
   obtain⟨m0,m1⟩:=HM.out hs0;have hkm:=HKM.out hs0;obtain⟨M,rfl⟩:∃ M:Nat,m=(M:Nat):=⟨m.toNat,by omega⟩
   rw [Int.toNat_natCast] at hkm;have HS0:=kf hs0;clear m0 hs0;by_cases hlt:k<M
   ·obtain⟨a0,a1⟩:=HFk.out.resolve_left (fun h=>h rfl);simp only [] at a0 a1;obtain⟨q,rfl⟩:∃ q:Nat,a=(q:Nat):=⟨a.toNat,by omega⟩
    have d1:decide ((k:Int)<(M:Int))=true:=by simp;omega
    have HX1:=kf (HSP.out wr q HRk.out (by omega));have hle2:=HLE.out q (by omega);have HGk:=kf (HGO.out (M-(k+1)) q l);obtain⟨qq,hqq⟩:∃ qq,qq=q+z9q bs q:=⟨_,rfl⟩
    rw [<- hqq] at hle2;rw [<- hqq] at HX1 HGk;have HX2:=kf (fun W hW=>HEN.out W qq hW hle2);have HF2:=kf (HFN.out qq);obtain⟨E,hE⟩:∃ E,E=y1r bs last qq:=⟨_,rfl⟩
    rw [<- hE] at HGk HX2 HF2;obtain⟨⟨e1,e2,e3⟩,s3⟩:=E;unfold XEn.cells at HX2;simp only [] at HGk HX2 HF2;have b1:k<=4097:=by omega
    clear a0 a1 hle2 hqq hE;go_upto_region 3 with fail;clear q0 q1 q2 q3 z1 z3;go_upto_region 4 with(go_at_call 110;refine HX1.out.mono ?_;rintro e w5 ⟨rfl,hr5,hc5⟩;have HR5:=kf hr5;have HC5:=kf (z09 HCk.out hc5);have HE5:=kf (HRE.out.turn hc5 (fun i hi=>by rw [hi];exact HW0.out.2));clear hr5 hc5)
    go_wp2_with (first
     |(go_at_call 111;refine(HX2.out _ HR5.out).mono ?_;rintro e w6 ⟨rfl,hr6,hc6⟩;have HR6:=kf hr6;have HC6:=kf (z09 HC5.out hc6);have HE6:=kf (HE5.out.turn hc6 (fun i hi=>by rw [hi];exact HW0.out.2));clear hr6 hc6)
     |(at_builtin;refine q0c rfl (.tmp 19) (.tmp 22) rfl rfl rfl (HE6.out.turn (S:=NoS) ((Chg.refl NoS w6).alloc _) (fun _ h=>h.elim)) (by omega) (v6s (e:=⟨e1,e2,e3⟩) (Blk.new w6 _ _)) ?_;intro A3 c3 w8 hre8 hcg8;have HE8:=kf hre8;have HG8:=kf hcg8;clear hre8 hcg8))
    have HA6:=kf ((Chg.refl NoS w6).alloc (.cells #[.int .i64 e1,.int .i64 e2,.bool e3] 29));have hch:Chg (fun i=>w.heap.size<=i) w6 w8:=(HA6.out.mono (T:=fun i=>w.heap.size<=i) (fun _ _ e=>e.elim)).trans (HG8.out (fun i=>w.heap.size<=i) (fun _ h=>h)) (fun _ _ h=>h);have HR8:=kf (HR6.out.far hch (by have:=HW0.out;omega) (fun i hi=>by have:=HW0.out;omega));have HC8:=kf (HC6.out.trans hch (fun i hi h=>by omega));clear hch HA6;go_roundg (M-(k+1))
    case rel =>
     refine⟨k+1,l++[⟨e1,e2,e3⟩],s3,A3,c3,rfl,rfl,kf (fun _=>by rw [Int.toNat_natCast];omega),kf (fun h=>absurd HS0.out h),HE8,HR8,HC8,HF2,kf ?_⟩;rw [HTk.out,Int.toNat_natCast,show M-k=M-(k+1)+1 by omega];exact HGk.out
    case measure=>rw [Int.toNat_natCast];omega
   ·have d1:decide ((k:Int)<(M:Int))=false:=by simp;omega
    have HZ:=kf (HTk.out.trans (HND.out _ _ _ (.inl (by rw [Int.toNat_natCast];omega))));have d2:decide (k<M)=false:=by simpa using hlt
    clear hkm;go_wp2_with fail;go_ret;rw [HZ.out];have h9:=HRE.out.len;exact⟨B,d,by rw [h9];rfl,HRE.out.ev,HRk.out,HCk.out⟩
  ·have r1:(e==0)=false:=by simpa using he
   have HZ:=kf (HTk.out.trans (HND.out _ _ _ (.inr he)));clear he;go_wp2_with fail;go_ret;rw [HZ.out];have h9:=HRE.out.len;exact⟨B,d,by rw [h9];rfl,HRE.out.ev,HRk.out,HCk.out⟩
theorem v6j {last:Bool} {p c:Nat} {l:List Nat}:(z1y last p c l).1=0/\(z1y last p c l).2.kind=1\/(z1y last p c l).2.vn=0:=by
 have key:∀ r,z1y last p c l=r->(r.1=0/\r.2.kind=1)\/r.2.vn=0:=by
  intro r h;unfold z1y at h;by_cases h1:c=91
  ·rw [if_pos h1] at h;subst h;exact .inr rfl
  rw [if_neg h1] at h;by_cases h1:c=93
  ·rw [if_pos h1] at h;subst h;exact .inr rfl
  rw [if_neg h1] at h;by_cases h1:c=60/\l.head?=some 60
  ·rw [if_pos h1] at h;subst h;exact .inr rfl
  rw [if_neg h1] at h;by_cases h1:c=62/\l.head?=some 62
  ·rw [if_pos h1] at h;subst h;exact .inr rfl
  rw [if_neg h1] at h;by_cases h1:c=62/\l=[]/\last=false
  ·rw [if_pos h1] at h;subst h;exact .inr rfl
  rw [if_neg h1] at h;by_cases h1:c=60
  ·rw [if_pos h1] at h;split at h<;>(subst h;exact .inr rfl)
  rw [if_neg h1] at h;by_cases h1:c=40
  ·rw [if_pos h1] at h;split at h<;>(subst h;exact .inr rfl)
  rw [if_neg h1] at h;by_cases h1:c=47
  ·rw [if_pos h1] at h;by_cases h2:rgs l=l.length/\last=false
   ·rw [if_pos h2] at h;subst h;exact .inr rfl
   ·rw [if_neg h2] at h;split at h<;>(subst h;exact .inr rfl)
  rw [if_neg h1] at h;by_cases h1:z4p c=true
  ·rw [if_pos h1] at h;subst h;exact .inr rfl
  rw [if_neg h1] at h;by_cases h1:rgs l=l.length/\last=false
  ·rw [if_pos h1] at h;subst h;exact .inr rfl
  rw [if_neg h1] at h;by_cases h1:y5a c=true
  ·rw [if_pos h1] at h;split at h
   ·subst h;exact .inr rfl
   ·subst h;exact .inl ⟨rfl,rfl⟩
  ·rw [if_neg h1] at h;subst h;exact .inr rfl
 exact key _ rfl
theorem v02 {bs:List Nat} {last:Bool} {s:FS} (hb:∀ x∈bs,x<256):(z1j bs last s).1.vn.natAbs<=2147483647*1000000:=by
 unfold z1j;split
 ·show(0:Int).natAbs<=_;decide
 unfold z07;split
 ·show(0:Int).natAbs<=_;decide
 have hv:=y36 bs s.1.toNat last hb;show(z0f bs s.1.toNat last).2.vn.natAbs<=_;unfold z0f at hv ⊢;split at hv
 ·show(0:Int).natAbs<=_;decide
 ·next c l hc =>
  rcases v6j (last:=last) (p:=s.1.toNat+skp false (bs.drop s.1.toNat)) (c:=c) (l:=l) with h|h
  ·have h2:=(hv h.1 h.2).2;omega
  ·rw [h];decide
theorem v1l {bs:List Nat} {last:Bool} {n:Nat} {s:FS} {l:List XGr} (h:s.2≠0):z5h bs last n s l=(l,s):=by
 cases n with
 |zero=>rfl
 |succ n=>rw [z5h,if_pos h]
theorem y82 {bs:List Nat} {last:Bool} {n:Nat} {a:Int} {l:List XGr} (h:(z1j bs last (a,0)).1.kind=6/\sb (z1j bs last (a,0)).1.s=z2o):z5h bs last (n+1) (a,0) l=(l,(z1j bs last (a,0)).2):=by
 rw [z5h,if_neg (by simp),if_pos h]
theorem y83 {bs:List Nat} {last:Bool} {n:Nat} {a:Int} {l:List XGr} (h:¬((z1j bs last (a,0)).1.kind=6/\sb (z1j bs last (a,0)).1.s=z2o)):z5h bs last (n+1) (a,0) l =
  z5h bs last n (z2j bs last (y10 bs last l.length (z1j bs last (a,0)).1 (z1j bs last (a,0)).2).1.toNat (y10 bs last l.length (z1j bs last (a,0)).1 (z1j bs last (a,0)).2).2 []).2
   (l++[⟨(z1j bs last (a,0)).1.vn,(z2j bs last (y10 bs last l.length (z1j bs last (a,0)).1 (z1j bs last (a,0)).2).1.toNat (y10 bs last l.length (z1j bs last (a,0)).1 (z1j bs last (a,0)).2).2 []).1⟩]):=by
 rw [z5h,if_neg (by simp),if_neg h]
theorem v6i {bs:List Nat} {last:Bool} {k:Nat} {t:Tkn} {s:FS} (h:(y10 bs last k t s).2.2=0):k<64/\0<=(y10 bs last k t s).1/\(y10 bs last k t s).1<=4097:=by
 have h1:=(v5t (show z3q (z5y (z1j bs last (z5y t s)).1 (z1j bs last (z5y t s)).2).2 _=0 from h)).2;unfold z29 at h1;simp only [Bool.and_eq_true,decide_eq_true_eq] at h1;show k<64/\0<=(z1j bs last (z5y t s)).1.vn/\(z1j bs last (z5y t s)).1.vn<=4097;omega
theorem v6r {W:World} {B:Nat} {x:GC} {T:TypeId} (h:Blk W B T #[.int .i64 x.g.first,.slice x.A x.g.es.length x.c]):Src W 2 (some ⟨B,0,none⟩) 1 1 (z2f [x]):=by
 refine⟨rfl,fun e=>(by cases e),fun ad ha j u hj=>?_⟩;cases ha
 have hj3:j<2:=(List.getElem?_eq_some_iff.1 hj).1;have hadd:(⟨B,0,none⟩:Addr).add j=⟨B,j,none⟩:=by unfold Addr.add;split<;>simp_all
 rw [hadd,h.cell j];rcases j with _|_|j
 ·exact hj
 ·exact hj
 ·omega
def q0f (w0:World) (bs:List Nat) (A:Option Addr) (c R:Nat) (last:Bool) (w:World) (gs:List XGr) (s:FS) (e:Ending) (w':World):Prop :=
 ∃ (xs:List GC) (B:Option Addr) (d:Nat),e=.returned (.slice B xs.length d)/\xs.map GC.g=gs/\Ev (fun i=>i<w.heap.size) w' (z4v xs B d)/\XB w0 bs A c R last s w'/\Chg (z88 R) w w'
structure GrS (w0:World) (bs:List Nat) (A:Option Addr) (c R:Nat) (last:Bool) (w:World) (xs:List GC) (k:Nat) (B:Option Addr) (d:Nat) (s:FS) (W:World):Prop where
 r:XB w0 bs A c R last s W
 o:Chg (z88 R) w W
 g:RwG w W xs k B d
 l:R<w.heap.size
theorem GrS.only {w0 w W W':World} {bs:List Nat} {A B:Option Addr} {c R k d:Nat} {last:Bool} {xs:List GC} {s s':FS} (h:GrS w0 bs A c R last w xs k B d s W) (hr:XB w0 bs A c R last s' W') (hc:Chg (z88 R) W W'):GrS w0 bs A c R last w xs k B d s' W' :=
 ⟨hr,z09 h.o hc,h.g.turn hc (fun i hi=>by rw [hi];exact h.l),h.l⟩
theorem GrS.call {w0 w W W':World} {bs:List Nat} {A B:Option Addr} {c R k d:Nat} {last:Bool} {xs:List GC} {s:FS} (h:GrS w0 bs A c R last w xs k B d s W) (hc:Chg NoS W W'):GrS w0 bs A c R last w xs k B d s W' :=
 ⟨h.r.call hc,z09 h.o (z13 hc),h.g.turn hc (fun i hi=>hi.elim),h.l⟩
theorem y9x {w0 w:World} {bs:List Nat} {A:Option Addr} {c R:Nat} {last:Bool} {s:FS} (hB:RSrc w0 bs A c) (h:XB w0 bs A c R last s w) (hf:z3d bs.length s) :
  Calls Tryz.prog 41 #[.pointer (some ⟨R,0,none⟩)] w (q0f w0 bs A c R last w (z5h bs last 66 s []).1 (z5h bs last 66 s []).2):=by
 have HR:=kf h;have HLT:Hid (R<w.heap.size):=h.lt;have HTK:=kf (fun(W:World) (s:FS) (hW:XB w0 bs A c R last s W)=>y9t hB hW);have HWH:=kf (fun(W:World) (s:FS) (t:Tkn) (hW:XB w0 bs A c R last s W)=>y9s hW t);have HEN:=kf (fun(W:World) (s:FS) (m:Int) (hW:XB w0 bs A c R last s W) (hF:z3d bs.length s) (hm:s.2=0->0<=m/\m<=4097)=>y5f hB hW hF m hm);have HVN:=kf (fun s=>v02 (bs:=bs) (last:=last) (s:=s) hB.byt);have HEND:=kf (fun n (s:FS) l (h:s.2≠0)=>v1l (bs:=bs) (last:=last) (n:=n) (l:=l) h);have HTR:=kf (fun n a l=>y82 (bs:=bs) (last:=last) (n:=n) (a:=a) (l:=l));have HGO:=kf (fun n a l=>y83 (bs:=bs) (last:=last) (n:=n) (a:=a) (l:=l));have HF:=kf hf;obtain⟨T,hT⟩:∃ T,T=z5h bs last 66 s []:=⟨_,rfl⟩
 rw [<- hT];have HT:=kf hT;clear h hB hT hf;go_enter Tryz.func41,Tryz.ntmps41;go_wp2_with fail;go_loopg [3] 66 (fun g v3 wr=>∃ (k:Nat) (xs:List GC) (sk:FS) (B:Option Addr) (d:Nat),v3=.slice B k d/\g=66-k/\k<=65/\Hid (sk.2=0->k<=64)/\Hid (GrS w0 bs A c R last w xs k B d sk wr)/\Hid (z3d bs.length sk)/\Hid (T=z5h bs last (66-k) sk (xs.map GC.g)))
 case atStart=>exact⟨0,[],s,none,0,rfl,rfl,Nat.zero_le _,fun _=>Nat.zero_le _,⟨HR.out,Chg.refl _ _,RwG.start (Nat.le_refl _),HLT.out⟩,HF.out,HT.out⟩
 case round =>
  obtain⟨k,xs,sk,B,d,rfl,rfl,hk65,HK64,HS,HFk,HTk⟩:=hrel;obtain⟨a,e⟩:=sk;obtain⟨q0,q1,q2,q3,z1,z3⟩:=HS.out.r.cells;simp only [] at q1 q3;by_cases he:e=0
  ·subst he;have hk64:=HK64.out rfl;have HX1:=kf (HTK.out wr (a,0) HS.out.r);have HF1:=kf (y5z (last:=last) HFk.out);have HTRk:=kf (HTR.out (65-k) a (xs.map GC.g));have HGOk:=kf (HGO.out (65-k) a (xs.map GC.g));have hxl:=HS.out.g.len;rw [List.length_map,hxl] at HGOk;have HXL:=kf hxl;have hv1:=HVN.out (a,0);obtain⟨P,hP⟩:∃ P,P=z1j bs last (a,0):=⟨_,rfl⟩
   rw [<- hP] at HX1 HF1 HTRk HGOk hv1;obtain⟨⟨tk,tf,tt_,tvk,tvn,tvs,ts⟩,st⟩:=P;simp only [] at hv1;have HV1:=kf hv1;unfold z78 at HX1;simp only [] at HX1 HF1 HTRk HGOk;have HW1:=kf (fun W (hW:XB w0 bs A c R last st W)=>HWH.out W st ⟨tk,tf,tt_,tvk,tvn,tvs,ts⟩ hW);unfold z78 at HW1;simp only [] at HW1;obtain⟨S6,hS6⟩:∃ S6,S6=sb tvs:=⟨_,rfl⟩
   obtain⟨S7,hS7⟩:∃ S7,S7=sb ts:=⟨_,rfl⟩
   rw [<- hS6,<- hS7] at HX1 HW1;rw [<- hS7] at HTRk HGOk;clear hP hxl hv1 hS6 hS7
   -- the second token,and the wish
   have HX2:=kf (fun W hW=>HTK.out W (z5y ⟨tk,tf,tt_,tvk,tvn,tvs,ts⟩ st) hW);have HF2:=kf (v3p (bs:=bs) (last:=last) (j:=k) (t:=⟨tk,tf,tt_,tvk,tvn,tvs,ts⟩) HF1.out);have HOK:=kf (fun h=>v6i (bs:=bs) (last:=last) (k:=k) (t:=⟨tk,tf,tt_,tvk,tvn,tvs,ts⟩) (s:=st) h);have hv2:=HVN.out (z5y ⟨tk,tf,tt_,tvk,tvn,tvs,ts⟩ st);have HTW:=kf (show y10 bs last k ⟨tk,tf,tt_,tvk,tvn,tvs,ts⟩ st=((z1j bs last (z5y ⟨tk,tf,tt_,tvk,tvn,tvs,ts⟩ st)).1.vn,((z1j bs last (z5y ⟨tk,tf,tt_,tvk,tvn,tvs,ts⟩ st)).2.1,z3q (z5y (z1j bs last (z5y ⟨tk,tf,tt_,tvk,tvn,tvs,ts⟩ st)).1 (z1j bs last (z5y ⟨tk,tf,tt_,tvk,tvn,tvs,ts⟩ st)).2).2 (decide (k<64)&&z29 tvn (z1j bs last (z5y ⟨tk,tf,tt_,tvk,tvn,tvs,ts⟩ st)).1.vn))) from rfl);obtain⟨s2,hs2⟩:∃ s2,s2=z5y ⟨tk,tf,tt_,tvk,tvn,tvs,ts⟩ st:=⟨_,rfl⟩
   rw [<- hs2] at HX2 hv2 HTW HW1;obtain⟨Q,hQ⟩:∃ Q,Q=z1j bs last s2:=⟨_,rfl⟩
   rw [<- hQ] at HX2 hv2 HTW;obtain⟨u,su⟩:=Q;simp only [] at HX2 hv2 HTW;have HW2:=kf (fun W (hW:XB w0 bs A c R last su W)=>HWH.out W su u hW);have HV2:=kf hv2;obtain⟨T2,hT2⟩:∃ T2,T2=y10 bs last k ⟨tk,tf,tt_,tvk,tvn,tvs,ts⟩ st:=⟨_,rfl⟩
   rw [<- hT2] at HF2 HOK HTW HGOk;obtain⟨s3,hs3⟩:∃ s3,s3=z5y u su:=⟨_,rfl⟩
   rw [<- hs3] at HW2 HTW;have HS3:=kf (show s3.1=su.1 from by rw [hs3];rfl);obtain⟨un,hun⟩:∃ un,un=u.vn:=⟨_,rfl⟩
   rw [<- hun] at HTW HV2 HW2;obtain⟨m,s4⟩:=T2;have HM:Hid (m=un):=congrArg Prod.fst HTW.out;have HS4:Hid (s4=(s3.1,z3q s3.2 (decide (k<64)&&z29 tvn un))):=(congrArg Prod.snd HTW.out).trans (by rw [HS3.out]);simp only [] at HF2 HOK HGOk;rw [HM.out] at HOK HGOk;clear hs2 hQ hv2 hT2 hs3 hun HTW HM m;obtain⟨EE,hEE⟩:∃ EE,EE=z2j bs last un.toNat s4 []:=⟨_,rfl⟩
   have HE4:=kf (fun W hW=>HEN.out W s4 un hW HF2.out (fun h=>(HOK.out h).2));have HFE:=kf (v22 (last:=last) un.toNat s4 [] HF2.out)
   have HEK:Hid (EE.2.2=0->k<64):=fun h=>by
    by_cases h4:s4.2=0
    ·exact(HOK.out h4).1
    ·rw [hEE,y0m h4] at h;exact absurd h h4
   rw [<- hEE] at HE4 HFE HGOk;obtain⟨el,s5⟩:=EE;simp only [] at HFE HEK HGOk;clear hEE;go_upto_region 4 with(go_at_call 75;refine HX1.out.mono ?_;rintro e w2 ⟨rfl,hr2,hc2⟩;have HS2:=kf (HS.out.only hr2 hc2);clear hr2 hc2);have HB4:=kf (Blk.new w2 131 #[.int .i64 (tk:Nat),.int .i64 (tf:Nat),.int .i64 (tt_:Nat),.int .i64 (tvk:Nat),.int .i64 tvn,.string S6,.slice none 0 0,.string S7]);have HC4:=kf ((Chg.refl NoS w2).alloc (.cells #[.int .i64 (tk:Nat),.int .i64 (tf:Nat),.int .i64 (tt_:Nat),.int .i64 (tvk:Nat),.int .i64 tvn,.string S6,.slice none 0 0,.string S7] 131));have HS4a:=kf (HS2.out.call HC4.out);obtain⟨W3,hW3⟩:∃ W3,W3=w2.alloc (.cells #[.int .i64 (tk:Nat),.int .i64 (tf:Nat),.int .i64 (tt_:Nat),.int .i64 (tvk:Nat),.int .i64 tvn,.string S6,.slice none 0 0,.string S7] 131):=⟨_,rfl⟩
   obtain⟨g4,hg4⟩:∃ g4,g4=w2.heap.size:=⟨_,rfl⟩
   have HN4:Hid (g4≠R):=by show g4≠R;have:=HS2.out.r.lt;omega
   rw [<- hW3] at HB4 HS4a ⊢;rw [<- hg4] at HB4 ⊢;clear hW3 hg4 HC4 HS2 q0 q1 q2 q3 z1 z3;obtain⟨p0,p1,p2,p3,p4,p5,p6,p7,_,_,_,_,_,_,_,_⟩:=HB4.out.cl8;obtain⟨bt,hbt⟩:∃ bt,bt=(decide (tk=6)&&decide (S7=z2o)):=⟨_,rfl⟩
   have HBT:=kf hbt;clear hbt;go_cut [21] from 7 to 46 (fun s21 wx=>s21=.bool bt/\wx=W3)
   case first =>
    by_cases h6:tk=6
    ·subst h6;by_cases h7:S7=z2o
     ·have HZ:Hid (bt=true):=by show _=_;rw [HBT.out,decide_eq_true h7];rfl
      have s1:(S7.toList==[116,114,97,105,108,101,114])=true:=by rw [h7];kernel_rfl
      have s2:S7.toList=[116,114,97,105,108,101,114]:=by rw [h7];kernel_rfl
      clear h7;go_wp2_with fail;go_meet;exact⟨by rw [HZ.out],rfl⟩
     ·have HZ:Hid (bt=false):=by show _=_;rw [HBT.out,decide_eq_false h7];rfl
      have s1:(S7.toList==[116,114,97,105,108,101,114])=false:=by
       have h:=z1f h7;rw [show(z2o:ByteArray).toList=[116,114,97,105,108,101,114] from by kernel_rfl] at h;simpa using h
      have s2:¬S7.toList=[116,114,97,105,108,101,114]:=by simpa using s1
      clear h7;go_wp2_with fail;go_meet;exact⟨by rw [HZ.out],rfl⟩
    ·have HZ:Hid (bt=false):=by show _=_;rw [HBT.out,decide_eq_false h6];rfl
     have k6:((tk:Int)==6)=false:=by simp;omega
     clear h6;go_wp2_with fail;go_meet;exact⟨by rw [HZ.out],rfl⟩
   case rest =>
    obtain⟨rfl,rfl⟩:=hcut;cases bt with
    |true =>
     have hb2:=HBT.out.symm;simp only [Bool.and_eq_true,decide_eq_true_eq] at hb2;have HZ:=kf (HTk.out.trans (show z5h bs last (66-k) (a,0) (xs.map GC.g)=(xs.map GC.g,st) from by rw [show 66-k=65-k+1 by omega];exact HTRk.out hb2));clear hb2;go_wp2_with fail;go_ret;rw [HZ.out];have h9:=HXL.out;exact⟨xs,B,d,by rw [h9];rfl,rfl,HS4a.out.g.ev,HS4a.out.r,HS4a.out.o⟩
    |false =>
     have hb2:¬(tk=6/\S7=z2o):=fun h=>by
      have h1:=HBT.out;rw [decide_eq_true h.1,decide_eq_true h.2] at h1;cases h1
     have HZ:=kf (HTk.out.trans (show z5h bs last (66-k) (a,0) (xs.map GC.g)=z5h bs last (65-k) s5 (xs.map GC.g++[⟨tvn,el⟩]) from by rw [show 66-k=65-k+1 by omega];exact HGOk.out hb2));clear hb2;obtain⟨Wx,hWx⟩:∃ Wx,Wx=wc:=⟨_,rfl⟩
     subst hWx;go_upto_region 6 with(go_at_call 76;refine(HW1.out _ HS4a.out.r).mono ?_;rintro e w5 ⟨rfl,hr5,hc5⟩;have HS5:=kf (HS4a.out.only hr5 hc5);clear hr5 hc5);clear p0 p1 p2 p3 p4 p5 p6 p7
     go_upto_region 7 with(first
      |(go_at_call 75;refine(HX2.out _ HS5.out.r).mono ?_;rintro e w6 ⟨rfl,hr6,hc6⟩;have HS6:=kf (HS5.out.only hr6 hc6);clear hr6 hc6)
      |(go_at_call 76;refine(HW2.out _ HS6.out.r).mono ?_;rintro e w7 ⟨rfl,hr7,hc7⟩;have HS7:=kf (HS6.out.only hr7 hc7);clear hr7 hc7))
     have HFT:=kf (fun W=>z9d tvn un W (by have:=HV1.out;omega) (by have:=HV2.out;omega));obtain⟨fb,hfb⟩:∃ fb,fb=z29 tvn un:=⟨_,rfl⟩
     rw [<- hfb] at HFT HS4;clear hfb;go_cut [] from 7 to 46 (fun wx=>Hid (GrS w0 bs A c R last w xs k B d s4 wx))
     case first =>
      by_cases h64:k<64
      ·have d1:decide ((k:Int)<64)=true:=by simp;omega
       have HA:=kf (z0u HS7.out.r fb);have HZ4:=kf (show s4=(s3.1,z3q s3.2 fb) from by rw [HS4.out,decide_eq_true h64];rfl)
       go_wp2_with (first
        |(go_at_call 65;refine(HFT.out _).mono ?_;rintro e w8 ⟨rfl,rfl⟩)
        |(go_at_call 77;refine HA.out.mono ?_;rintro e w9 ⟨rfl,hr9,hc9⟩;have HS9:=kf (HS7.out.only hr9 hc9);clear hr9 hc9))
       go_meet;exact kf (by rw [HZ4.out];exact HS9.out)
      ·have d1:decide ((k:Int)<64)=false:=by simp;omega
       have d2:decide (k<64)=false:=by simpa using h64
       have HA:=kf (z0u HS7.out.r false);have HZ4:=kf (show s4=(s3.1,z3q s3.2 false) from by rw [HS4.out,decide_eq_false h64];rfl);go_wp2_with (go_at_call 77;refine HA.out.mono ?_;rintro e w9 ⟨rfl,hr9,hc9⟩;have HS9:=kf (HS7.out.only hr9 hc9);clear hr9 hc9);go_meet;exact kf (by rw [HZ4.out];exact HS9.out)
     case rest =>
      have HS8:=kf hcut.out;obtain⟨Wy,hWy⟩:∃ Wy,Wy=wc:=⟨_,rfl⟩
      subst hWy;clear hcut HS7 HS6 HS5 HS4a HS HB4;have HEX:=kf (HE4.out _ HS8.out.r)
      go_wp2_with (first
       |(go_at_call 78;refine HEX.out.mono ?_;rintro e w6 ⟨B5,d5,rfl,hev5,hr6,hc6⟩;have HS9:=kf (HS8.out.only hr6 hc6);have HEV:=kf hev5;clear hr6 hc6 hev5)
       |(at_builtin;refine q09 (e:=⟨⟨tvn,el⟩,B5,d5⟩) rfl (.tmp 39) (.tmp 45) rfl rfl rfl (HS9.out.g.turn (S:=NoS) ((Chg.refl NoS w6).alloc _) (fun _ h=>h.elim)) (by omega) (v6r (x:=⟨⟨tvn,el⟩,B5,d5⟩) (Blk.new w6 _ _)) ((HEV.out.chg ((Chg.refl NoS w6).alloc _)).turn (Chg.refl _ _) (fun i _ h=>h.elim (fun h=>Nat.lt_of_lt_of_le h HS8.out.g.siz) (fun h=>HS8.out.g.lt h))) ?_;intro A3 c3 w8 hre8 hcg8;have HG8:=kf hre8;have HH8:=kf hcg8;clear hre8 hcg8))
      have HA6:=kf ((Chg.refl NoS w6).alloc (.cells #[.int .i64 tvn,.slice B5 el.length d5] 56));have hch:Chg (fun i=>w.heap.size<=i) w6 w8:=(HA6.out.mono (T:=fun i=>w.heap.size<=i) (fun _ _ e=>e.elim)).trans (HH8.out (fun i=>w.heap.size<=i) (fun _ h=>h)) (fun _ _ h=>h);have HR9:=kf (HS9.out.r.far hch (by have:=HLT.out;omega) (fun i hi=>by have:=HR.out.chg.size;omega));have HC9:=kf (HS9.out.o.trans hch (fun i hi h=>by omega));clear hch HA6;go_roundg (65-k)
      case rel =>
       refine⟨k+1,xs++[⟨⟨tvn,el⟩,B5,d5⟩],s5,A3,c3,rfl,by omega,by omega,kf (fun h=>by have:=HEK.out h;omega),kf ⟨HR9.out,HC9.out,HG8.out,HLT.out⟩,HFE,kf ?_⟩;rw [HZ.out,List.map_append,show 66-(k+1)=65-k by omega];rfl
      case measure=>omega
  ·have r1:(e==0)=false:=by simpa using he
   have HZ:=kf (HTk.out.trans (HEND.out _ _ _ he));have HXL:=kf HS.out.g.len;clear he;go_wp2_with fail;go_ret;rw [HZ.out];have h9:=HXL.out;exact⟨xs,B,d,by rw [h9];rfl,rfl,HS.out.g.ev,HS.out.r,HS.out.o⟩
end Go.Proofs.YtnhlalkeaaiefaaGreatDoor
