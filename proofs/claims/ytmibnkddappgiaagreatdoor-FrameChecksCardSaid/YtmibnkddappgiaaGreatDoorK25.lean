import Derived.Test.YtmibnkddappgiaaGreatDoorK24
set_option linter.unusedVariables false
set_option maxHeartbeats 64000000
set_option maxRecDepth 100000
set_option linter.unusedSimpArgs false
namespace Go.Proofs.YtmibnkddappgiaaGreatDoor
open Go.RowKit
structure RB (w0:World) (bs:List Nat) (A:Option Addr) (c R:Nat) (last:Bool) (s:FS) (W:World):Prop where
 blk:Blk W R 60 #[.slice A bs.length c,.int .i64 s.1,.bool last,.int .i64 s.2]
 chg:Chg NoS w0 W
 new:w0.heap.size<=R
section
variable {w0 W W':World} {bs:List Nat} {A:Option Addr} {c R:Nat} {last:Bool} {s:FS}
theorem RB.call (h:RB w0 bs A c R last s W) (hc:Chg NoS W W'):RB w0 bs A c R last s W':=⟨h.blk.chg hc (fun e=>e),h.chg.trans hc (fun _ _ e=>e),h.new⟩
theorem RB.far {S:Nat->Prop} (h:RB w0 bs A c R last s W) (hc:Chg S W W') (hR:¬S R) (hS:∀ i,i<w0.heap.size->¬S i):RB w0 bs A c R last s W':=⟨h.blk.chg hc hR,h.chg.trans hc (fun i hi e=>absurd e (hS i hi)),h.new⟩
theorem RB.setA (h:RB w0 bs A c R last s W) (a:Int):RB w0 bs A c R last (a,s.2) (W.setCell ⟨R,1,none⟩ (.int .i64 a)) :=
 ⟨h.blk.set_ 1 _,h.chg.setCell (p:=⟨R,1,none⟩) (fun e=>absurd e (Nat.not_lt.2 h.new)) _,h.new⟩
theorem RB.setE (h:RB w0 bs A c R last s W) (e:Int):RB w0 bs A c R last (s.1,e) (W.setCell ⟨R,3,none⟩ (.int .i64 e)) :=
 ⟨h.blk.set_ 3 _,h.chg.setCell (p:=⟨R,3,none⟩) (fun e=>absurd e (Nat.not_lt.2 h.new)) _,h.new⟩
theorem RB.cells (h:RB w0 bs A c R last s W):W.cell? ⟨R,0,none⟩=some (.slice A bs.length c)/\W.cell? ⟨R,1,none⟩=some (.int .i64 s.1)/\W.cell? ⟨R,2,none⟩=some (.bool last)/\W.cell? ⟨R,3,none⟩=some (.int .i64 s.2)/\W.frozen? ⟨R,1,none⟩=false/\W.frozen? ⟨R,3,none⟩=false :=
 ⟨h.blk.cl4.c0,h.blk.cl4.c1,h.blk.cl4.c2,h.blk.cl4.c3,h.blk.frozen 1,h.blk.frozen 3⟩
theorem RB.lt (h:RB w0 bs A c R last s W):R<W.heap.size:=h.blk.lt
end
def RTo (w0:World) (bs:List Nat) (A:Option Addr) (c R:Nat) (last:Bool) (w:World) (v:Value) (s:FS) (e:Ending) (w':World):Prop:=e=.returned v/\RB w0 bs A c R last s w'/\Chg (z9g R) w w'
theorem z1z {w0 w:World} {bs:List Nat} {A:Option Addr} {c R:Nat} {last:Bool} {s:FS} (h:RB w0 bs A c R last s w) (x:Bool) :
  Calls Tryz.prog 48 #[.pointer (some ⟨R,0,none⟩),.bool x] w (RTo w0 bs A c R last w (.tuple #[]) (s.1,z3i s.2 x)):=by
 obtain⟨a,e⟩:=s;obtain⟨q0,q1,q2,q3,z1,z3⟩:=h.cells;have HR:=kf h;have HX:∀ y,z3i e x=y->Hid (z3i e x=y):=fun _ h=>h;simp only [] at q1 q3;clear h;by_cases he:e=0
 ·subst he;cases x with
  |true =>
   have HY:=HX 0 rfl;clear HX;go_enter Tryz.func48,Tryz.ntmps48;go_wp2_with fail;first|go_end0|go_ret|go_ret2
   exact⟨rfl,by rw [HY.out];exact HR.out,Chg.refl _ _⟩
  |false =>
   have HY:=HX 18 rfl;clear HX;go_enter Tryz.func48,Tryz.ntmps48;go_wp2_with fail;first|go_end0|go_ret|go_ret2
   exact⟨rfl,by rw [HY.out];exact HR.out.setE 18,z0m _ _ _ _⟩
 ·have e1:(e==0)=false:=by simpa using he
  have e2:(e != 0)=true:=by simpa using he
  have HY:=HX e (z7a he);clear HX he;go_enter Tryz.func48,Tryz.ntmps48;go_wp2_with fail;first|go_end0|go_ret|go_ret2
  exact⟨rfl,by rw [HY.out];exact HR.out,Chg.refl _ _⟩
theorem y0m {w0 w:World} {bs:List Nat} {A:Option Addr} {c R:Nat} {last:Bool} {s:FS} (hB:RSrc w0 bs A c) (h:RB w0 bs A c R last s w) (lo hi:Int) :
  Calls Tryz.prog 26 #[.pointer (some ⟨R,0,none⟩),.int .i64 lo,.int .i64 hi] w (RTo w0 bs A c R last w (.int .i64 (y1k bs last lo hi s).1) (y1k bs last lo hi s).2):=by
 obtain⟨a,e⟩:=s;have HR:=kf h;have HD:=kf (h.call ((Chg.refl NoS w).drew));have HK:=kf (fun W (hW:Chg NoS w0 W)=>y9s bs A c a last W (Src.below (w0:=w0) hB.src hW) hB.len hB.cap hB.byt);have HN:=kf (show y1k bs last lo hi (a,e)=if e≠0 then(0,(a,e)) else((z2w bs a last).1,(z2w bs a last).2.1,z3i (z2w bs a last).2.2 (decide (lo<=(z2w bs a last).1)&&decide ((z2w bs a last).1<=hi))) from rfl);obtain⟨P,hP⟩:∃ P,P=z2w bs a last:=⟨_,rfl⟩
 rw [<- hP] at HK HN;obtain⟨n,a',e'⟩:=P;simp only [] at HK HN;clear hP hB;obtain⟨q0,q1,q2,q3,z1,z3⟩:=h.cells;simp only [] at q1 q3;clear h;by_cases he:e=0
 ·subst he;have HZ:=kf (HN.out.trans (if_neg (by simp)));clear HN;rw [HZ.out];simp only [];go_enter Tryz.func26,Tryz.ntmps26;go_upto_region 4 with fail;go_region_with (go_at_call 47;refine(HK.out _ HD.out.chg).mono ?_;rintro e w2 ⟨rfl,hc2⟩;have HC2:=kf hc2;have HR2:=kf (HD.out.call hc2);obtain⟨x0,x1,x2,x3,y1,y3⟩:=HR2.out.cells;simp only [] at x1 x3;clear hc2)
  all_goals
   have HR3:Hid (RB w0 bs A c R last (a',e') ((w2.setCell ⟨R,1,none⟩ (.int .i64 a')).setCell ⟨R,3,none⟩ (.int .i64 e'))):=(HR2.out.setA a').setE e';have HO3:Hid (Chg (z9g R) w ((w2.setCell ⟨R,1,none⟩ (.int .i64 a')).setCell ⟨R,3,none⟩ (.int .i64 e'))):=z01 (z01 (z0c ((Chg.refl NoS w).drew.trans HC2.out (fun _ _ e=>e))) (z0m _ _ _ _)) (z0m _ _ _ _);obtain⟨W3,hW3⟩:∃ W3,W3=(w2.setCell ⟨R,1,none⟩ (.int .i64 a')).setCell ⟨R,3,none⟩ (.int .i64 e'):=⟨_,rfl⟩
   rw [<- hW3] at HR3 HO3 ⊢;clear hW3 q0 q1 q2 q3 z1 z3 x0 x1 x2 x3 y1 y3;have HA:=kf (fun x=>z1z HR3.out x);by_cases h1:lo<=n
   ·have d1:decide (lo<=n)=true:=by simpa using h1
    by_cases h2:n<=hi
    ·have d2:decide (n<=hi)=true:=by simpa using h2
     have HB:=kf (HA.out true);go_wp2_with (go_at_call 48;refine HB.out.mono ?_;rintro e w4 ⟨rfl,hr4,hc4⟩;have HR4:=kf hr4;have HC4:=kf (z01 HO3.out hc4);clear hr4 hc4);go_ret;exact⟨rfl,by rw [d1,d2];exact HR4.out,HC4.out⟩
    ·have d2:decide (n<=hi)=false:=by simpa using h2
     have HB:=kf (HA.out false);go_wp2_with (go_at_call 48;refine HB.out.mono ?_;rintro e w4 ⟨rfl,hr4,hc4⟩;have HR4:=kf hr4;have HC4:=kf (z01 HO3.out hc4);clear hr4 hc4);go_ret;exact⟨rfl,by rw [d1,d2];exact HR4.out,HC4.out⟩
   ·have d1:decide (lo<=n)=false:=by simpa using h1
    have HB:=kf (HA.out false);go_wp2_with (go_at_call 48;refine HB.out.mono ?_;rintro e w4 ⟨rfl,hr4,hc4⟩;have HR4:=kf hr4;have HC4:=kf (z01 HO3.out hc4);clear hr4 hc4);go_ret;exact⟨rfl,by rw [d1];exact HR4.out,HC4.out⟩
 ·have e1:(e==0)=false:=by simpa using he
  have e2:(e != 0)=true:=by simpa using he
  have HZ:=kf (HN.out.trans (if_pos he));clear HN he;rw [HZ.out];simp only [];go_enter Tryz.func26,Tryz.ntmps26;go_wp2_with fail;go_ret;exact⟨rfl,HR.out,Chg.refl _ _⟩
end Go.Proofs.YtmibnkddappgiaaGreatDoor
