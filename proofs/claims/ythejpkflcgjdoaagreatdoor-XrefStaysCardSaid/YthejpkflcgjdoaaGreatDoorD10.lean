/- Merged by program. -/
import Derived.Test.YthejpkflcgjdoaaGreatDoorD05
import Derived.Test.YthejpkflcgjdoaaGreatDoorD08
import Derived.Shelf.Abstract
set_option linter.unusedVariables false
set_option linter.unusedSimpArgs false
namespace Go.Proofs.YthejpkflcgjdoaaGreatDoor
open Go.RowKit
theorem cmpBytes_eq (a b:ByteArray):Lib.compareBytes a.data.toList b.data.toList=cmpS a b:=by
 have h:∀ x y:List UInt8,Lib.compareBytes x y=if Op.bytesLess x y then -1 else if x≠y then 1 else 0:=by
  intro x
  induction x with
  |nil =>
   intro y
   cases y with
   |nil=>simp [Lib.compareBytes,Op.bytesLess]
   |cons b y=>simp [Lib.compareBytes,Op.bytesLess]
  |cons a x ih =>
   intro y
   cases y with
   |nil=>simp [Lib.compareBytes,Op.bytesLess]
   |cons b y =>
    rw [Lib.compareBytes,Go.Proofs.bytesLess_eq]
    by_cases h1:a<b
    ·have h2:a::x<b::y:=List.cons_lt_cons_iff.2 (.inl h1)
     simp [h1,h2]
    ·by_cases h2:b<a
     ·have h3:¬a::x<b::y:=fun h=>by
       rcases List.cons_lt_cons_iff.1 h with h|h
       ·exact h1 h
       ·rw [h.1] at h2;exact absurd h2 (UInt8.lt_irrefl _)
      have h4:a≠b:=fun h=>by rw [h] at h2;exact absurd h2 (UInt8.lt_irrefl _)
      simp [h1,h2,h3,h4]
     ·have h3:a=b:=UInt8.le_antisymm (UInt8.not_lt.1 h2) (UInt8.not_lt.1 h1)
      subst h3
      rw [if_neg h1,if_neg h1,ih,Go.Proofs.bytesLess_eq]
      have h5:(a::x<a::y)↔x<y:=by
       rw [List.cons_lt_cons_iff]
       constructor
       ·rintro(h|h)
        ·exact absurd h h1
        ·exact h.2
       ·exact fun h=>.inr ⟨rfl,h⟩
      simp [h5]
 rw [h,cmpS,ByteArray.toList_eq,ByteArray.toList_eq]
 have h6:(a.data.toList≠b.data.toList)↔a≠b:=by
  constructor
  ·exact fun h e=>h (by rw [e])
  ·exact fun h e=>h (toList_inj (by rw [ByteArray.toList_eq,ByteArray.toList_eq];exact e))
 simp only [h6]
theorem cmpInt_eq (x y:Int):Lib.compareInt x y=cmpI x y:=by
 unfold Lib.compareInt cmpI
 repeat' split
 all_goals first|rfl|omega
def or3 (x y z:Int):Int:=if x≠0 then x else if y≠0 then y else z
theorem cmpH_or (k n:Int) (s:ByteArray) (k' n':Int) (s':ByteArray):or3 (cmpI k k') (cmpI n n') (cmpS s s')=cmpH k n s k' n' s':=by rw [cmpH_eq];rfl
set_option maxHeartbeats 1000000 in
theorem or3_any (g:Nat) (x y z:Int) (w:World) (hb:Blk w g 3 #[.int .i64 x,.int .i64 y,.int .i64 z]) :
  Calls Tryz.prog 88 #[.slice (some ⟨g,0,none⟩) 3 3] w fun e w'=>e=.returned (.int .i64 (or3 x y z))/\w'=w:=by
 have c0:=hb.cell 0
 have c1:=hb.cell 1
 have c2:=hb.cell 2
 simp at c0 c1 c2
 clear hb
 have HE:Hid (∀ v,v=or3 x y z->Ending.returned (.int .i64 v)=.returned (.int .i64 (or3 x y z))):=fun v h=>by rw [h]
 go_enter Tryz.func88,Tryz.ntmps88
 go_wp2_with fail
 go_loop [8] (fun v=>(v=.int .i64 0)\/(v=.int .i64 1/\x=0)\/(v=.int .i64 2/\x=0/\y=0)\/(v=.int .i64 3/\x=0/\y=0/\z=0)) (fun v=>3-(intOf v).toNat)
 case atStart=>exact .inl rfl
 case round =>
  rcases hrel with rfl|⟨rfl,rfl⟩|⟨rfl,rfl,rfl⟩|⟨rfl,rfl,rfl,rfl⟩
  ·by_cases h:x=0
   ·subst h
    go_wp2_with fail
    go_round
    case rel=>exact .inr (.inl ⟨by go_num,by first|rfl|trivial⟩)
    case measure=>simp [intOf]
   ·have e1:(x==0)=false:=by simpa using h
    have e2:(x != 0)=true:=by simpa using h
    have HX:=kf h
    clear h
    go_wp2_with fail
    go_ret
    exact⟨HE.out _ (by rw [or3,if_pos HX.out]),rfl⟩
  ·by_cases h:y=0
   ·subst h
    go_wp2_with fail
    go_round
    case rel=>exact .inr (.inr (.inl ⟨by go_num,by first|rfl|trivial,by first|rfl|trivial⟩))
    case measure=>simp [intOf]
   ·have e1:(y==0)=false:=by simpa using h
    have e2:(y != 0)=true:=by simpa using h
    have HX:=kf h
    clear h
    go_wp2_with fail
    go_ret
    exact⟨HE.out _ (by rw [or3,if_neg (by simp),if_pos HX.out]),rfl⟩
  ·by_cases h:z=0
   ·subst h
    go_wp2_with fail
    go_round
    case rel=>exact .inr (.inr (.inr ⟨by go_num,by first|rfl|trivial,by first|rfl|trivial,by first|rfl|trivial⟩))
    case measure=>simp [intOf]
   ·have e1:(z==0)=false:=by simpa using h
    have e2:(z != 0)=true:=by simpa using h
    clear h
    go_wp2_with fail
    go_ret
    exact⟨HE.out _ (by rw [or3,if_neg (by simp),if_neg (by simp)]),rfl⟩
  ·go_wp2_with fail
   go_ret
   exact⟨HE.out _ (by rw [or3,if_neg (by simp),if_neg (by simp)]),rfl⟩
set_option maxHeartbeats 4000000 in
set_option maxRecDepth 100000 in
theorem cmpf_any (l l':List VT) (A A':Option Addr) (len cap len' cap':Nat) (w0 w:World) (hl:l.length=len) (hl':l'.length=len') (hm:len<=maxLen) (hm':len'<=maxLen) (hr:RowIs w0 A 0 l) (hr':RowIs w0 A' 0 l') (hc:Chg NoS w0 w)
  (hcmp:∀ t:VT,sizT t<=sizL l->∀ (t':VT) (c c':VC) (W:World),ValIs W t c->ValIs W t' c'->Calls Tryz.prog 51 #[c.val,c'.val] W fun e w'=>e=.returned (.int .i64 (cmpT t t'))/\Chg NoS W w') :
  Calls Tryz.prog 90 #[.slice A len cap,.slice A' len' cap',.func (.func 51) #[] #[]] w fun e w'=>e=.returned (.int .i64 (cmpL l l'))/\Chg NoS w w':=by
 unfold maxLen at hm hm'
 have HL:=kf hl
 have HL':=kf hl'
 have HR:=kf hr
 have HR':=kf hr'
 have HC:=kf hc
 have HIH:=kf hcmp
 clear hl hl' hr hr' hc hcmp
 have eg:∀ args w,(callFunc 51 args).run Tryz.prog w=.ok (.enter 51 args) w:=fun args w=>rfl
 go_enter Tryz.func90,Tryz.ntmps90
 go_upto_region 2 with fail
 go_loopw [13] (fun vj wr=>∃ j:Nat,j<=len/\j<=len'/\vj=.int .i64 (j:Nat)/\Hid (Chg NoS w wr)/\Hid (RowIs w0 A j (l.drop j))/\Hid (RowIs w0 A' j (l'.drop j))/\Hid (cmpL l l'=cmpL (l.drop j) (l'.drop j))) (fun vj _=>len-(intOf vj).toNat)
 case atStart=>exact⟨0,by omega,by omega,rfl,Chg.refl _ _,by rw [List.drop_zero];exact HR.out,by rw [List.drop_zero];exact HR'.out,kf (by rw [List.drop_zero,List.drop_zero])⟩
 case round =>
  obtain⟨j,hj,hj',rfl,HCW,HRW,HRW',HFW⟩:=hrel
  have HCR:=kf (HC.out.trans HCW.out (fun _ _ e=>e))
  by_cases h1:j<len
  ·obtain⟨u,hu,hd⟩:=drop_vt (l:=l) (k:=j) (by rw [HL.out];exact h1)
   obtain⟨b,off,rfl⟩:∃ b off,A=some ⟨b,off,none⟩:=by
    have h:=HR.out
    cases hll:l with
    |nil=>rw [hll] at hu;simp at hu
    |cons t0 l0=>rw [hll] at h;exact h.start
   have hrw:=HRW.out
   rw [hd] at hrw
   obtain⟨ek,en,es,eA,el,ec,c0,c1,c2,c3,hve,hre⟩:=hrw.at_ HCR.out
   have i1:(j:Int)<len:=by omega
   by_cases h2:j<len'
   ·obtain⟨u',hu',hd'⟩:=drop_vt (l:=l') (k:=j) (by rw [HL'.out];exact h2)
    obtain⟨b',off',rfl⟩:∃ b off,A'=some ⟨b,off,none⟩:=by
     have h:=HR'.out
     cases hll:l' with
     |nil=>rw [hll] at hu';simp at hu'
     |cons t0 l0=>rw [hll] at h;exact h.start
    have hrw':=HRW'.out
    rw [hd'] at hrw'
    obtain⟨fk,fn,fs,fA,fl,fc,x0,x1,x2,x3,hvf,hrf⟩:=hrw'.at_ (HCR.out.alloc (.cells #[.int .i64 ek,.int .i64 en,.string es,.slice eA el ec] 25))
    have HX:=kf (fun(W:World) (h:Chg NoS (wr.alloc (.cells #[.int .i64 ek,.int .i64 en,.string es,.slice eA el ec] 25)) W)=>HIH.out u (sizL_at hu) u' ⟨ek,en,es,eA,el,ec⟩ ⟨fk,fn,fs,fA,fl,fc⟩ W (hve.chg (((Chg.refl NoS wr).alloc (.cells #[.int .i64 ek,.int .i64 en,.string es,.slice eA el ec] 25)).trans h (fun _ _ e=>e))) (hvf.chg h))
    unfold VC.val at HX
    simp only [] at HX
    have HRN:=kf hre
    have HRN':=kf hrf
    have HFN:=kf (show cmpL l l'=if cmpT u u'≠0 then cmpT u u' else cmpL (l.drop (j+1)) (l'.drop (j+1)) from by rw [HFW.out,hd,hd',cmpL_cons])
    obtain⟨r,hr9⟩:∃ r,r=cmpT u u':=⟨_,rfl⟩
    rw [<- hr9] at HX HFN
    have i2:(j:Int)<len':=by omega
    have d1:decide ((len':Int)<=(j:Int))=false:=by simp;omega
    have d1':decide (len'<=j)=false:=by simp;omega
    clear hrw hrw' hve hvf hre hrf hd hd' hu hu' hr9
    by_cases hr0:r=0
    ·subst hr0
     have HFM:=kf (show cmpL l l'=cmpL (l.drop (j+1)) (l'.drop (j+1)) from by rw [HFN.out,if_neg (by simp)])
     go_wp2_with (go_at_fn 51;refine(HX.out _ ((Chg.refl NoS _).alloc _)).mono ?_;rintro e w3 ⟨rfl,hc3⟩;have HC3:=kf (((HCW.out.alloc _).alloc _).trans hc3 (fun _ _ e=>e));clear hc3)
     go_roundw
     case rel=>exact⟨j+1,by omega,by omega,by go_num,HC3,HRN,HRN',HFM⟩
     case measure=>simp [intOf];omega
    ·have HFM:=kf (show cmpL l l'=r from by rw [HFN.out,if_pos hr0])
     have v2:(r != 0)=true:=by simpa using hr0
     have v3:(r==0)=false:=by simpa using hr0
     clear hr0
     go_wp2_with (go_at_fn 51;refine(HX.out _ ((Chg.refl NoS _).alloc _)).mono ?_;rintro e w3 ⟨rfl,hc3⟩;have HC3:=kf (((HCW.out.alloc _).alloc _).trans hc3 (fun _ _ e=>e));clear hc3)
     go_ret
     exact⟨ret_v64 HFM.out.symm,HC3.out⟩
   ·have hz1:l'.drop j=[]:=List.drop_of_length_le (by rw [HL'.out];omega)
    have HE:=kf (show cmpL l l'=1 from by rw [HFW.out,hd,hz1,cmpL])
    clear hz1
    obtain rfl:j=len':=by omega
    clear hrw hd hu h2
    go_wp2_with fail
    go_ret
    exact⟨ret_v64 HE.out.symm,HCW.out.alloc _⟩
  ·obtain rfl:j=len:=by omega
   by_cases h2:j<len'
   ·obtain⟨u',hu',hd'⟩:=drop_vt (l:=l') (k:=j) (by rw [HL'.out];exact h2)
    have hz1:l.drop j=[]:=List.drop_of_length_le (Nat.le_of_eq HL.out)
    have HE:=kf (show cmpL l l'=-1 from by rw [HFW.out,hd',hz1,cmpL])
    clear hz1
    have d5:decide ((j:Int)<(len':Int))=true:=by simp;omega
    have d6:decide (j<len')=true:=by simp;omega
    clear hd' hu'
    go_wp2_with fail
    go_ret
    exact⟨ret_v64 HE.out.symm,HCW.out⟩
   ·obtain rfl:j=len':=by omega
    have hz1:l.drop j=[]:=List.drop_of_length_le (Nat.le_of_eq HL.out)
    have hz2:l'.drop j=[]:=List.drop_of_length_le (Nat.le_of_eq HL'.out)
    have HE:=kf (show cmpL l l'=0 from by rw [HFW.out,hz1,hz2,cmpL])
    clear hz1 hz2
    go_wp2_with fail
    go_ret
    exact⟨ret_v64 HE.out.symm,HCW.out⟩
end Go.Proofs.YthejpkflcgjdoaaGreatDoor
