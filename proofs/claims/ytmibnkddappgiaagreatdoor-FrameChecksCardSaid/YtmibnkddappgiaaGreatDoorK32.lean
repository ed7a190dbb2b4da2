import Derived.Test.YtmibnkddappgiaaGreatDoorK25
set_option linter.unusedVariables false
set_option maxHeartbeats 64000000
set_option maxRecDepth 100000
set_option linter.unusedSimpArgs false
namespace Go.Proofs.YtmibnkddappgiaaGreatDoor
open Go.RowKit
theorem y3c {w0 w:World} {bs:List Nat} {A:Option Addr} {c R:Nat} {last:Bool} {s:FS} (hB:RSrc w0 bs A c) (h:RB w0 bs A c R last s w) (S:ByteArray) :
  Calls Tryz.prog 27 #[.pointer (some ⟨R,0,none⟩),.string S] w (RTo w0 bs A c R last w (.tuple #[]) (v2b bs last S s)):=by
 obtain⟨a,e⟩:=s;have HR:=kf h;have HD:=kf (h.call ((Chg.refl NoS w).drew));have HK:=kf (fun W (hW:Chg NoS w0 W)=>y9q bs A c a last S W (Src.below (w0:=w0) hB.src hW) hB.len hB.cap hB.byt);have HN:=kf (show v2b bs last S (a,e)=if e≠0 then(a,e) else z6n bs a last S from rfl);obtain⟨P,hP⟩:∃ P,P=z6n bs a last S:=⟨_,rfl⟩
 rw [<- hP] at HK HN;obtain⟨a',e'⟩:=P;simp only [] at HK HN;clear hP hB;obtain⟨q0,q1,q2,q3,z1,z3⟩:=h.cells;simp only [] at q1 q3;clear h;by_cases he:e=0
 ·subst he;have HZ:=kf (HN.out.trans (if_neg (by simp)));clear HN;rw [HZ.out];go_enter Tryz.func27,Tryz.ntmps27;go_upto_region 1 with fail;go_region_with (go_at_call 49;refine(HK.out _ HD.out.chg).mono ?_;rintro e w2 ⟨rfl,hc2⟩;have HC2:=kf hc2;have HR2:=kf (HD.out.call hc2);obtain⟨x0,x1,x2,x3,y1,y3⟩:=HR2.out.cells;simp only [] at x1 x3;clear hc2)
  all_goals
   try go_wp2_with fail
   first|go_end0|go_ret|go_ret2
   exact⟨rfl,(HR2.out.setA a').setE e',z01 (z01 (z0c ((Chg.refl NoS w).drew.trans HC2.out (fun _ _ e=>e))) (z0m _ _ _ _)) (z0m _ _ _ _)⟩
 ·have e1:(e==0)=false:=by simpa using he
  have e2:(e != 0)=true:=by simpa using he
  have HZ:=kf (HN.out.trans (if_pos he));clear HN he;rw [HZ.out];go_enter Tryz.func27,Tryz.ntmps27;go_wp2_with fail;first|go_end0|go_ret|go_ret2
  exact⟨rfl,HR.out,Chg.refl _ _⟩
end Go.Proofs.YtmibnkddappgiaaGreatDoor
