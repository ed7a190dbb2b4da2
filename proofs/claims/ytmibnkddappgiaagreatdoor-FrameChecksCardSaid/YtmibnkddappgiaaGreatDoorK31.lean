import Derived.Test.YtmibnkddappgiaaGreatDoorK30
set_option linter.unusedVariables false
set_option maxHeartbeats 64000000
set_option maxRecDepth 100000
set_option linter.unusedSimpArgs false
namespace Go.Proofs.YtmibnkddappgiaaGreatDoor
open Go.RowKit
theorem y1a (t t':VT) (k m:Int) (s:ByteArray) (A:Option Addr) (l c:Nat) (k' m':Int) (s':ByteArray) (A':Option Addr) (l' c':Nat) (st st':Bool) (d d':ByteArray) (w:World) (hv:ValIs w t ⟨k,m,s,A,l,c⟩) (hv':ValIs w t' ⟨k',m',s',A',l',c'⟩) :
  Calls Tryz.prog 9 #[z1u ⟨k,m,s,A,l,c⟩ st d,z1u ⟨k',m',s',A',l',c'⟩ st' d'] w fun e w'=>e=.returned (.bool (decide (z36 t t'=0)&&((st==st')&&(d.toList==d'.toList))))/\Chg NoS w w':=by
 obtain⟨v,hvv⟩:∃ v,v=decide (z36 t t'=0):=⟨_,rfl⟩
 have HS:=kf (fun W (h:Chg NoS w W)=>(show Calls Tryz.prog 23 #[.agg #[.int .i64 k,.int .i64 m,.string s,.slice A l c],.agg #[.int .i64 k',.int .i64 m',.string s',.slice A' l' c']] W fun e w'=>e=.returned (.bool v)/\Chg NoS W w' from by
  rw [hvv];exact z6k t t' ⟨k,m,s,A,l,c⟩ ⟨k',m',s',A',l',c'⟩ W (hv.chg h) (hv'.chg h)))
 have HB:=kf ((Blk.new w 26 (obA ⟨k,m,s,A,l,c⟩ st d)).alloc (.cells (obA ⟨k',m',s',A',l',c'⟩ st' d') 26));have hb2:=Blk.new (w.alloc (.cells (obA ⟨k,m,s,A,l,c⟩ st d) 26)) 26 (obA ⟨k',m',s',A',l',c'⟩ st' d');rw [World.size_alloc] at hb2;have HB2:=kf hb2;have HC:=kf (((Chg.refl NoS w).alloc (.cells (obA ⟨k,m,s,A,l,c⟩ st d) 26)).alloc (.cells (obA ⟨k',m',s',A',l',c'⟩ st' d') 26));obtain⟨W1,hW1⟩:∃ W1,W1=(w.alloc (.cells (obA ⟨k,m,s,A,l,c⟩ st d) 26)).alloc (.cells (obA ⟨k',m',s',A',l',c'⟩ st' d') 26):=⟨_,rfl⟩
 obtain⟨g3,hg3⟩:∃ g,g=w.heap.size+1:=⟨_,rfl⟩
 obtain⟨g2,hg2⟩:∃ g,g=w.heap.size:=⟨_,rfl⟩
 rw [<- hW1] at HB HB2 HC;rw [<- hg2] at HB;rw [<- hg3] at HB2;rw [<- hvv];unfold z1u;unfold obA at HB HB2 hW1 ⊢;simp only [] at HB HB2 hW1 ⊢;clear hv hv' hb2 hvv;obtain⟨x,s1⟩:∃ x,(d.toList==d'.toList)=x:=⟨_,rfl⟩
 rw [s1];cases v<;>cases st<;>cases st'<;>cases x
 all_goals
  go_enter Tryz.func9,Tryz.ntmps9;go_upto_region 1 with fail;rw [<- hg2];rw [show g2+1=g3 from by omega];rw [<- hW1];clear hg2 hg3 hW1;obtain⟨q0,q1,q2,q3,q4,q5,_,_,_,_,_,_⟩:=HB.out.cl6;obtain⟨p0,p1,p2,p3,p4,p5,_,_,_,_,_,_⟩:=HB2.out.cl6;go_wp2_with (go_at_call 23;refine(HS.out _ HC.out).mono ?_;rintro e w3 ⟨rfl,h3⟩;have HC3:=kf (HC.out.trans h3 (fun _ _ e=>e));have hb3:=HB.out.chg h3 (fun e=>e);have hb4:=HB2.out.chg h3 (fun e=>e);clear q0 q1 q2 q3 q4 q5 p0 p1 p2 p3 p4 p5;obtain⟨q0,q1,q2,q3,q4,q5,_,_,_,_,_,_⟩:=hb3.cl6;obtain⟨p0,p1,p2,p3,p4,p5,_,_,_,_,_,_⟩:=hb4.cl6;clear h3 hb3 hb4);go_ret;exact⟨by simp,HC3.out⟩
theorem y7g (t t':VT) (k m:Int) (s:ByteArray) (A:Option Addr) (l c:Nat) (k' m':Int) (s':ByteArray) (A':Option Addr) (l' c':Nat) (st st':Bool) (d d':ByteArray) (w:World) (hv:ValIs w t ⟨k,m,s,A,l,c⟩) (hv':ValIs w t' ⟨k',m',s',A',l',c'⟩) :
  Calls Tryz.prog 8 #[z1u ⟨k,m,s,A,l,c⟩ st d,z1u ⟨k',m',s',A',l',c'⟩ st' d'] w fun e w'=>e=.returned (.bool (decide (z36 t t'=0)&&((st==st')&&(d.toList==d'.toList))))/\Chg NoS w w':=by
 obtain⟨v,hvv⟩:∃ v,v=decide (z36 t t'=0):=⟨_,rfl⟩
 have HS:=kf (fun W (h:Chg NoS w W)=>(show Calls Tryz.prog 22 #[.agg #[.int .i64 k,.int .i64 m,.string s,.slice A l c],.agg #[.int .i64 k',.int .i64 m',.string s',.slice A' l' c']] W fun e w'=>e=.returned (.bool v)/\Chg NoS W w' from by
  rw [hvv];exact y2k t t' ⟨k,m,s,A,l,c⟩ ⟨k',m',s',A',l',c'⟩ W (hv.chg h) (hv'.chg h)))
 have HB:=kf ((Blk.new w 26 (obA ⟨k,m,s,A,l,c⟩ st d)).alloc (.cells (obA ⟨k',m',s',A',l',c'⟩ st' d') 26));have hb2:=Blk.new (w.alloc (.cells (obA ⟨k,m,s,A,l,c⟩ st d) 26)) 26 (obA ⟨k',m',s',A',l',c'⟩ st' d');rw [World.size_alloc] at hb2;have HB2:=kf hb2;have HC:=kf (((Chg.refl NoS w).alloc (.cells (obA ⟨k,m,s,A,l,c⟩ st d) 26)).alloc (.cells (obA ⟨k',m',s',A',l',c'⟩ st' d') 26));obtain⟨W1,hW1⟩:∃ W1,W1=(w.alloc (.cells (obA ⟨k,m,s,A,l,c⟩ st d) 26)).alloc (.cells (obA ⟨k',m',s',A',l',c'⟩ st' d') 26):=⟨_,rfl⟩
 obtain⟨g3,hg3⟩:∃ g,g=w.heap.size+1:=⟨_,rfl⟩
 obtain⟨g2,hg2⟩:∃ g,g=w.heap.size:=⟨_,rfl⟩
 rw [<- hW1] at HB HB2 HC;rw [<- hg2] at HB;rw [<- hg3] at HB2;rw [<- hvv];unfold z1u;unfold obA at HB HB2 hW1 ⊢;simp only [] at HB HB2 hW1 ⊢;clear hv hv' hb2 hvv;obtain⟨x,s1⟩:∃ x,(d.toList==d'.toList)=x:=⟨_,rfl⟩
 rw [s1];cases v<;>cases st<;>cases st'<;>cases x
 all_goals
  go_enter Tryz.func8,Tryz.ntmps8;go_upto_region 1 with fail;rw [<- hg2];rw [show g2+1=g3 from by omega];rw [<- hW1];clear hg2 hg3 hW1;obtain⟨q0,q1,q2,q3,q4,q5,_,_,_,_,_,_⟩:=HB.out.cl6;obtain⟨p0,p1,p2,p3,p4,p5,_,_,_,_,_,_⟩:=HB2.out.cl6;go_wp2_with (go_at_call 22;refine(HS.out _ HC.out).mono ?_;rintro e w3 ⟨rfl,h3⟩;have HC3:=kf (HC.out.trans h3 (fun _ _ e=>e));have hb3:=HB.out.chg h3 (fun e=>e);have hb4:=HB2.out.chg h3 (fun e=>e);clear q0 q1 q2 q3 q4 q5 p0 p1 p2 p3 p4 p5;obtain⟨q0,q1,q2,q3,q4,q5,_,_,_,_,_,_⟩:=hb3.cl6;obtain⟨p0,p1,p2,p3,p4,p5,_,_,_,_,_,_⟩:=hb4.cl6;clear h3 hb3 hb4);go_ret;exact⟨by simp,HC3.out⟩
end Go.Proofs.YtmibnkddappgiaaGreatDoor
