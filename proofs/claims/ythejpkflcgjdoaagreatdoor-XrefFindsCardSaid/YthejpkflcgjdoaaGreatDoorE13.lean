/- Merged by program. -/
import Derived.Test.YthejpkflcgjdoaaGreatDoorE03
import Derived.Test.YthejpkflcgjdoaaGreatDoorE10
import Derived.Shelf.Abstract
set_option linter.unusedVariables false
set_option linter.unusedSimpArgs false
namespace Go.Proofs.YthejpkflcgjdoaaGreatDoor
open Go.RowKit
theorem RowIs.at0 {w w':World} {b off j:Nat} {t:VT} {l:List VT} (h:RowIs w (some ⟨b,off,none⟩) j (t::l)) (hc:Chg NoS w w'):∃ (ek en:Int) (es:ByteArray) (eA:Option Addr) (el ec:Nat),
  w'.cell? ⟨b,off+j*4,none⟩=some (.int .i64 ek)/\w'.cell? ⟨b,off+j*4+1,none⟩=some (.int .i64 en)/\w'.cell? ⟨b,off+j*4+2,none⟩=some (.string es)/\w'.cell? ⟨b,off+j*4+3,none⟩=some (.slice eA el ec)/\ValIs w t ⟨ek,en,es,eA,el,ec⟩/\RowIs w (some ⟨b,off,none⟩) (j+1) l:=by
 obtain⟨⟨ek,en,es,eA,el,ec⟩,h0,h1,h2,h3,hv,hr⟩:=h.plain
 refine⟨ek,en,es,eA,el,ec,?_,?_,?_,?_,hv,hr⟩
 ·exact(hc.cell (p:=⟨b,_,none⟩) (by exact cell_lt h0) (fun e=>e)).trans h0
 ·exact(hc.cell (p:=⟨b,_,none⟩) (by exact cell_lt h1) (fun e=>e)).trans h1
 ·exact(hc.cell (p:=⟨b,_,none⟩) (by exact cell_lt h2) (fun e=>e)).trans h2
 ·exact(hc.cell (p:=⟨b,_,none⟩) (by exact cell_lt h3) (fun e=>e)).trans h3
theorem cmpBytes_eq (a b:ByteArray):Lib.compareBytes a.data.toList b.data.toList=cmpS a b:=by
 have h:∀ x y:List UInt8,Lib.compareBytes x y=if Op.bytesLess x y then -1 else if x≠y then 1 else 0:=by
  intro x
  induction x with
  |nil =>
   intro y
   cases y with
   |nil=>simp [Lib.compareBytes,Op.bytesLess]
   |cons b y=>simp [Lib.compareBytes,Op.bytesLess]
  |cons a x ih =>
   intro y
   cases y with
   |nil=>simp [Lib.compareBytes,Op.bytesLess]
   |cons b y =>
    rw [Lib.compareBytes,Go.Proofs.bytesLess_eq]
    by_cases h1:a<b
    ·have h2:a::x<b::y:=List.cons_lt_cons_iff.2 (.inl h1)
     simp [h1,h2]
    ·by_cases h2:b<a
     ·have h3:¬a::x<b::y:=fun h=>by
       rcases List.cons_lt_cons_iff.1 h with h|h
       ·exact h1 h
       ·rw [h.1] at h2;exact absurd h2 (UInt8.lt_irrefl _)
      have h4:a≠b:=fun h=>by rw [h] at h2;exact absurd h2 (UInt8.lt_irrefl _)
      simp [h1,h2,h3,h4]
     ·have h3:a=b:=UInt8.le_antisymm (UInt8.not_lt.1 h2) (UInt8.not_lt.1 h1)
      subst h3
      rw [if_neg h1,if_neg h1,ih,Go.Proofs.bytesLess_eq]
      have h5:(a::x<a::y)↔x<y:=by
       rw [List.cons_lt_cons_iff]
       constructor
       ·rintro(h|h)
        ·exact absurd h h1
        ·exact h.2
       ·exact fun h=>.inr ⟨rfl,h⟩
      simp [h5]
 rw [h,cmpS,ByteArray.toList_eq,ByteArray.toList_eq]
 have h6:(a.data.toList≠b.data.toList)↔a≠b:=by
  constructor
  ·exact fun h e=>h (by rw [e])
  ·exact fun h e=>h (toList_inj (by rw [ByteArray.toList_eq,ByteArray.toList_eq];exact e))
 simp only [h6]
theorem cmpInt_eq (x y:Int):Lib.compareInt x y=cmpI x y:=by
 unfold Lib.compareInt cmpI
 repeat' split
 all_goals first|rfl|omega
def or3 (x y z:Int):Int:=if x≠0 then x else if y≠0 then y else z
theorem cmpH_or (k n:Int) (s:ByteArray) (k' n':Int) (s':ByteArray):or3 (cmpI k k') (cmpI n n') (cmpS s s')=cmpH k n s k' n' s':=by rw [cmpH_eq];rfl
set_option maxHeartbeats 1000000 in
theorem or3_any (g:Nat) (x y z:Int) (w:World) (hb:Blk w g 3 #[.int .i64 x,.int .i64 y,.int .i64 z]) :
  Calls Tryz.prog 88 #[.slice (some ⟨g,0,none⟩) 3 3] w fun e w'=>e=.returned (.int .i64 (or3 x y z))/\w'=w:=by
 have c0:=hb.cell 0
 have c1:=hb.cell 1
 have c2:=hb.cell 2
 simp at c0 c1 c2
 clear hb
 have HE:Hid (∀ v,v=or3 x y z->Ending.returned (.int .i64 v)=.returned (.int .i64 (or3 x y z))):=fun v h=>by rw [h]
 go_enter Tryz.func88,Tryz.ntmps88
 go_wp2_with fail
 go_loop [8] (fun v=>(v=.int .i64 0)\/(v=.int .i64 1/\x=0)\/(v=.int .i64 2/\x=0/\y=0)\/(v=.int .i64 3/\x=0/\y=0/\z=0)) (fun v=>3-(intOf v).toNat)
 case atStart=>exact .inl rfl
 case round =>
  rcases hrel with rfl|⟨rfl,rfl⟩|⟨rfl,rfl,rfl⟩|⟨rfl,rfl,rfl,rfl⟩
  ·by_cases h:x=0
   ·subst h
    go_wp2_with fail
    go_round
    case rel=>exact .inr (.inl ⟨by go_num,by first|rfl|trivial⟩)
    case measure=>simp [intOf]
   ·have e1:(x==0)=false:=by simpa using h
    have e2:(x != 0)=true:=by simpa using h
    have HX:=kf h
    clear h
    go_wp2_with fail
    go_ret
    exact⟨HE.out _ (by rw [or3,if_pos HX.out]),rfl⟩
  ·by_cases h:y=0
   ·subst h
    go_wp2_with fail
    go_round
    case rel=>exact .inr (.inr (.inl ⟨by go_num,by first|rfl|trivial,by first|rfl|trivial⟩))
    case measure=>simp [intOf]
   ·have e1:(y==0)=false:=by simpa using h
    have e2:(y != 0)=true:=by simpa using h
    have HX:=kf h
    clear h
    go_wp2_with fail
    go_ret
    exact⟨HE.out _ (by rw [or3,if_neg (by simp),if_pos HX.out]),rfl⟩
  ·by_cases h:z=0
   ·subst h
    go_wp2_with fail
    go_round
    case rel=>exact .inr (.inr (.inr ⟨by go_num,by first|rfl|trivial,by first|rfl|trivial,by first|rfl|trivial⟩))
    case measure=>simp [intOf]
   ·have e1:(z==0)=false:=by simpa using h
    have e2:(z != 0)=true:=by simpa using h
    clear h
    go_wp2_with fail
    go_ret
    exact⟨HE.out _ (by rw [or3,if_neg (by simp),if_neg (by simp)]),rfl⟩
  ·go_wp2_with fail
   go_ret
   exact⟨HE.out _ (by rw [or3,if_neg (by simp),if_neg (by simp)]),rfl⟩
set_option maxHeartbeats 4000000 in
set_option maxRecDepth 100000 in
theorem cmpf_any (l l':List VT) (A A':Option Addr) (len cap len' cap':Nat) (w0 w:World) (hl:l.length=len) (hl':l'.length=len') (hm:len<=maxLen) (hm':len'<=maxLen) (hr:RowIs w0 A 0 l) (hr':RowIs w0 A' 0 l') (hc:Chg NoS w0 w)
  (hcmp:∀ t:VT,sizT t<=sizL l->∀ (t':VT) (c c':VC) (W:World),ValIs W t c->ValIs W t' c'->Calls Tryz.prog 51 #[c.val,c'.val] W fun e w'=>e=.returned (.int .i64 (cmpT t t'))/\Chg NoS W w') :
  Calls Tryz.prog 90 #[.slice A len cap,.slice A' len' cap',.func (.func 51) #[] #[]] w fun e w'=>e=.returned (.int .i64 (cmpL l l'))/\Chg NoS w w':=by
 unfold maxLen at hm hm'
 have HL:=kf hl
 have HL':=kf hl'
 have HR:=kf hr
 have HR':=kf hr'
 have HC:=kf hc
 have HIH:=kf hcmp
 clear hl hl' hr hr' hc hcmp
 have eg:∀ args w,(callFunc 51 args).run Tryz.prog w=.ok (.enter 51 args) w:=fun args w=>rfl
 go_enter Tryz.func90,Tryz.ntmps90
 go_upto_region 2 with fail
 go_loopw [13] (fun vj wr=>∃ j:Nat,j<=len/\j<=len'/\vj=.int .i64 (j:Nat)/\Hid (Chg NoS w wr)/\Hid (RowIs w0 A j (l.drop j))/\Hid (RowIs w0 A' j (l'.drop j))/\Hid (cmpL l l'=cmpL (l.drop j) (l'.drop j))) (fun vj _=>len-(intOf vj).toNat)
 case atStart=>exact⟨0,by omega,by omega,rfl,Chg.refl _ _,by rw [List.drop_zero];exact HR.out,by rw [List.drop_zero];exact HR'.out,kf (by rw [List.drop_zero,List.drop_zero])⟩
 case round =>
  obtain⟨j,hj,hj',rfl,HCW,HRW,HRW',HFW⟩:=hrel
  have HCR:=kf (HC.out.trans HCW.out (fun _ _ e=>e))
  by_cases h1:j<len
  ·obtain⟨u,hu,hd⟩:=drop_vt (l:=l) (k:=j) (by rw [HL.out];exact h1)
   obtain⟨b,off,rfl⟩:∃ b off,A=some ⟨b,off,none⟩:=by
    have h:=HR.out
    cases hll:l with
    |nil=>rw [hll] at hu;simp at hu
    |cons t0 l0=>rw [hll] at h;exact h.start
   have hrw:=HRW.out
   rw [hd] at hrw
   obtain⟨ek,en,es,eA,el,ec,c0,c1,c2,c3,hve,hre⟩:=hrw.at_ HCR.out
   have i1:(j:Int)<len:=by omega
   by_cases h2:j<len'
   ·obtain⟨u',hu',hd'⟩:=drop_vt (l:=l') (k:=j) (by rw [HL'.out];exact h2)
    obtain⟨b',off',rfl⟩:∃ b off,A'=some ⟨b,off,none⟩:=by
     have h:=HR'.out
     cases hll:l' with
     |nil=>rw [hll] at hu';simp at hu'
     |cons t0 l0=>rw [hll] at h;exact h.start
    have hrw':=HRW'.out
    rw [hd'] at hrw'
    obtain⟨fk,fn,fs,fA,fl,fc,x0,x1,x2,x3,hvf,hrf⟩:=hrw'.at_ (HCR.out.alloc (.cells #[.int .i64 ek,.int .i64 en,.string es,.slice eA el ec] 25))
    have HX:=kf (fun(W:World) (h:Chg NoS (wr.alloc (.cells #[.int .i64 ek,.int .i64 en,.string es,.slice eA el ec] 25)) W)=>HIH.out u (sizL_at hu) u' ⟨ek,en,es,eA,el,ec⟩ ⟨fk,fn,fs,fA,fl,fc⟩ W (hve.chg (((Chg.refl NoS wr).alloc (.cells #[.int .i64 ek,.int .i64 en,.string es,.slice eA el ec] 25)).trans h (fun _ _ e=>e))) (hvf.chg h))
    unfold VC.val at HX
    simp only [] at HX
    have HRN:=kf hre
    have HRN':=kf hrf
    have HFN:=kf (show cmpL l l'=if cmpT u u'≠0 then cmpT u u' else cmpL (l.drop (j+1)) (l'.drop (j+1)) from by rw [HFW.out,hd,hd',cmpL_cons])
    obtain⟨r,hr9⟩:∃ r,r=cmpT u u':=⟨_,rfl⟩
    rw [<- hr9] at HX HFN
    have i2:(j:Int)<len':=by omega
    have d1:decide ((len':Int)<=(j:Int))=false:=by simp;omega
    have d1':decide (len'<=j)=false:=by simp;omega
    clear hrw hrw' hve hvf hre hrf hd hd' hu hu' hr9
    by_cases hr0:r=0
    ·subst hr0
     have HFM:=kf (show cmpL l l'=cmpL (l.drop (j+1)) (l'.drop (j+1)) from by rw [HFN.out,if_neg (by simp)])
     go_wp2_with (go_at_fn 51;refine(HX.out _ ((Chg.refl NoS _).alloc _)).mono ?_;rintro e w3 ⟨rfl,hc3⟩;have HC3:=kf (((HCW.out.alloc _).alloc _).trans hc3 (fun _ _ e=>e));clear hc3)
     go_roundw
     case rel=>exact⟨j+1,by omega,by omega,by go_num,HC3,HRN,HRN',HFM⟩
     case measure=>simp [intOf];omega
    ·have HFM:=kf (show cmpL l l'=r from by rw [HFN.out,if_pos hr0])
     have v2:(r != 0)=true:=by simpa using hr0
     have v3:(r==0)=false:=by simpa using hr0
     clear hr0
     go_wp2_with (go_at_fn 51;refine(HX.out _ ((Chg.refl NoS _).alloc _)).mono ?_;rintro e w3 ⟨rfl,hc3⟩;have HC3:=kf (((HCW.out.alloc _).alloc _).trans hc3 (fun _ _ e=>e));clear hc3)
     go_ret
     exact⟨ret_v64 HFM.out.symm,HC3.out⟩
   ·have hz1:l'.drop j=[]:=List.drop_of_length_le (by rw [HL'.out];omega)
    have HE:=kf (show cmpL l l'=1 from by rw [HFW.out,hd,hz1,cmpL])
    clear hz1
    obtain rfl:j=len':=by omega
    clear hrw hd hu h2
    go_wp2_with fail
    go_ret
    exact⟨ret_v64 HE.out.symm,HCW.out.alloc _⟩
  ·obtain rfl:j=len:=by omega
   by_cases h2:j<len'
   ·obtain⟨u',hu',hd'⟩:=drop_vt (l:=l') (k:=j) (by rw [HL'.out];exact h2)
    have hz1:l.drop j=[]:=List.drop_of_length_le (Nat.le_of_eq HL.out)
    have HE:=kf (show cmpL l l'=-1 from by rw [HFW.out,hd',hz1,cmpL])
    clear hz1
    have d5:decide ((j:Int)<(len':Int))=true:=by simp;omega
    have d6:decide (j<len')=true:=by simp;omega
    clear hd' hu'
    go_wp2_with fail
    go_ret
    exact⟨ret_v64 HE.out.symm,HCW.out⟩
   ·obtain rfl:j=len':=by omega
    have hz1:l.drop j=[]:=List.drop_of_length_le (Nat.le_of_eq HL.out)
    have hz2:l'.drop j=[]:=List.drop_of_length_le (Nat.le_of_eq HL'.out)
    have HE:=kf (show cmpL l l'=0 from by rw [HFW.out,hz1,hz2,cmpL])
    clear hz1 hz2
    go_wp2_with fail
    go_ret
    exact⟨ret_v64 HE.out.symm,HCW.out⟩
theorem ret_vb {a b:Bool} (h:a=b):Ending.returned (.bool a)=.returned (.bool b):=by rw [h]
set_option maxHeartbeats 4000000 in
set_option maxRecDepth 100000 in
theorem cmp_in:∀ (N:Nat) (t:VT),sizT t<=N->∀ (t':VT) (c c':VC) (w:World),ValIs w t c->ValIs w t' c' ->
  Calls Tryz.prog 51 #[c.val,c'.val] w fun e w'=>e=.returned (.int .i64 (cmpT t t'))/\Chg NoS w w':=by
 intro N
 induction N with
 |zero =>
  intro t ht
  obtain⟨k,n,s,l⟩:=t
  rw [sizT_mk] at ht
  omega
 |succ N ih =>
  intro t ht t' c c' w hv hv'
  obtain⟨tk,tn,ts,l⟩:=t
  obtain⟨tk',tn',ts',l'⟩:=t'
  obtain⟨h1,h2,h3,hg,hl,hr⟩:=hv.inv
  obtain⟨h1',h2',h3',hg',hl',hr'⟩:=hv'.inv
  obtain⟨k,n,s,A,len,cap⟩:=c
  obtain⟨k',n',s',A',len',cap'⟩:=c'
  simp only [] at h1 h2 h3 hl hr h1' h2' h3' hl' hr'
  subst h1 h2 h3 h1' h2' h3'
  rw [sizT_mk] at ht
  have hlm:=hg.len
  have hlm':=hg'.len
  simp only [] at hlm hlm'
  unfold VC.val
  simp only []
  have HF:=kf (fun(W:World) (h:Chg NoS w W)=>cmpf_any l l' A A' len cap len' cap' w W hl hl' hlm hlm' hr hr' h (fun t ht'=>ih t (by omega)))
  have HI:=kf (fun(x y:Int) (W:World)=>(Go.Proofs.Tryz.cmp_Compare_int x y W).mono (fun e w' h=>(⟨h.1.trans (ret_v64 (cmpInt_eq x y)),h.2⟩:e=.returned (.int .i64 (cmpI x y))/\w'=W)))
  have HS:=kf (fun(W:World)=>(Go.Proofs.Tryz.strings_Compare s s' W).mono (fun e w' h=>(⟨h.1.trans (ret_v64 (cmpBytes_eq s s')),h.2⟩:e=.returned (.int .i64 (cmpS s s'))/\w'=W)))
  have hb:=((Blk.new w 25 #[.int .i64 k,.int .i64 n,.string s,.slice A len cap]).alloc (.cells #[.int .i64 k',.int .i64 n',.string s',.slice A' len' cap'] 25))
  have hb2:=Blk.new (w.alloc (.cells #[.int .i64 k,.int .i64 n,.string s,.slice A len cap] 25)) 25 #[.int .i64 k',.int .i64 n',.string s',.slice A' len' cap']
  rw [World.size_alloc] at hb2
  have HC0:=kf (((Chg.refl NoS w).alloc (.cells #[.int .i64 k,.int .i64 n,.string s,.slice A len cap] 25)).alloc (.cells #[.int .i64 k',.int .i64 n',.string s',.slice A' len' cap'] 25))
  obtain⟨W0,hW⟩:∃ W0,W0=(w.alloc (.cells #[.int .i64 k,.int .i64 n,.string s,.slice A len cap] 25)).alloc (.cells #[.int .i64 k',.int .i64 n',.string s',.slice A' len' cap'] 25):=⟨_,rfl⟩
  obtain⟨g,hgg⟩:∃ g,g=w.heap.size:=⟨_,rfl⟩
  rw [<- hW] at hb hb2 HC0
  rw [<- hgg] at hb hb2
  have p0:=hb.cell 0
  have p1:=hb.cell 1
  have p2:=hb.cell 2
  have q0:=hb2.cell 0
  have q1:=hb2.cell 1
  have q2:=hb2.cell 2
  simp at p0 p1 p2 q0 q1 q2
  obtain⟨x,hx⟩:∃ x,x=cmpI k k':=⟨_,rfl⟩
  obtain⟨y,hy⟩:∃ y,y=cmpI n n':=⟨_,rfl⟩
  obtain⟨z,hz⟩:∃ z,z=cmpS s s':=⟨_,rfl⟩
  obtain⟨r,hr9⟩:∃ r,r=or3 x y z:=⟨_,rfl⟩
  have hh:cmpH k n s k' n' s'=r:=by rw [hr9,hx,hy,hz,cmpH_or]
  have HIx:=kf (fun W=>HI.out k k' W)
  have HIy:=kf (fun W=>HI.out n n' W)
  rw [<- hx] at HIx
  rw [<- hy] at HIy
  rw [<- hz] at HS
  have HO:=kf (fun(gg:Nat) (W:World) (h:Blk W gg 3 #[.int .i64 x,.int .i64 y,.int .i64 z])=>or3_any gg x y z W h)
  rw [<- hr9] at HO
  have HBV:=kf hb
  have HBV':=kf hb2
  clear hv hv' hg hg' hl hl' hr hr' ih ht HI hx hy hz hr9 hb hb2
  go_enter Tryz.func51,Tryz.ntmps51
  go_upto_region 1 with fail
  rw [<- hgg,<- hW]
  clear hgg hW
  refine wp_region_still_tail 15 (by kernel_rfl) (by kernel_rfl) ?_
  simp only [List.take_succ_cons,List.take_zero,List.drop_succ_cons,List.drop_zero]
  change wpStill _ _ W0.drew _ _ _
  repeat still_step
  still_call (HIx.out _)
  repeat still_step
  still_call (HIy.out _)
  repeat still_step
  still_call (HS.out _)
  repeat still_step
  refine wpStill_nil ?_
  change wpList _ _ _ _ _ W0.drew
  by_cases hr0:r=0
  ·subst hr0
   have HE:=kf (show cmpT (.mk k n s l) (.mk k' n' s' l')=cmpL l l' from by rw [cmpT_mk,hh,if_neg (by simp)])
   have c3:=(HBV.out.alloc (.cells #[.int .i64 x,.int .i64 y,.int .i64 z] 3)).drew.cell 3
   have d3:=(HBV'.out.alloc (.cells #[.int .i64 x,.int .i64 y,.int .i64 z] 3)).drew.cell 3
   simp at c3 d3
   clear hh
   go_wp2_with (first
    |(go_at_call 88;refine(HO.out _ _ (Blk.new W0.drew 3 #[.int .i64 x,.int .i64 y,.int .i64 z])).mono ?_;rintro e w3 ⟨rfl,rfl⟩)
    |(go_at_call 90;refine(HF.out _ (HC0.out.drew.alloc _)).mono ?_;rintro e w4 ⟨rfl,hc4⟩;have HC4:=kf ((HC0.out.drew.alloc _).trans hc4 (fun _ _ e=>e));clear hc4))
   go_ret
   exact⟨ret_v64 HE.out.symm,HC4.out⟩
  ·have HE:=kf (show cmpT (.mk k n s l) (.mk k' n' s' l')=r from by rw [cmpT_mk,hh,if_pos hr0])
   have e1:(r==0)=false:=by simpa using hr0
   have e2:(r != 0)=true:=by simpa using hr0
   clear hh hr0
   go_wp2_with (go_at_call 88;refine(HO.out _ _ (Blk.new W0.drew 3 #[.int .i64 x,.int .i64 y,.int .i64 z])).mono ?_;rintro e w3 ⟨rfl,rfl⟩)
   go_ret
   exact⟨ret_v64 HE.out.symm,HC0.out.drew.alloc _⟩
theorem cmp_any (t t':VT) (c c':VC) (w:World) (hv:ValIs w t c) (hv':ValIs w t' c') :
  Calls Tryz.prog 51 #[c.val,c'.val] w fun e w'=>e=.returned (.int .i64 (cmpT t t'))/\Chg NoS w w':=cmp_in _ t (Nat.le_refl _) t' c c' w hv hv'
set_option maxHeartbeats 2000000 in
theorem same_any (t t':VT) (c c':VC) (w:World) (hv:ValIs w t c) (hv':ValIs w t' c') :
  Calls Tryz.prog 25 #[c.val,c'.val] w fun e w'=>e=.returned (.bool (decide (cmpT t t'=0)))/\Chg NoS w w':=by
 have HX:=kf (fun W (h:Chg NoS w W)=>cmp_any t t' c c' W (hv.chg h) (hv'.chg h))
 obtain⟨k,n,s,A,len,cap⟩:=c
 obtain⟨k',n',s',A',len',cap'⟩:=c'
 unfold VC.val at HX ⊢
 simp only [] at HX ⊢
 have hb:=((Blk.new w 25 #[.int .i64 k,.int .i64 n,.string s,.slice A len cap]).alloc (.cells #[.int .i64 k',.int .i64 n',.string s',.slice A' len' cap'] 25))
 have p0:=hb.cell 0
 have p1:=hb.cell 1
 have p2:=hb.cell 2
 have p3:=hb.cell 3
 simp at p0 p1 p2 p3
 clear hb hv hv'
 obtain⟨r,hr9⟩:∃ r,r=cmpT t t':=⟨_,rfl⟩
 rw [<- hr9] at HX ⊢
 clear hr9
 have HC0:=kf (((Chg.refl NoS w).alloc (.cells #[.int .i64 k,.int .i64 n,.string s,.slice A len cap] 25)).alloc (.cells #[.int .i64 k',.int .i64 n',.string s',.slice A' len' cap'] 25))
 by_cases h0:r=0
 ·subst h0
  go_enter Tryz.func25,Tryz.ntmps25
  go_wp2_with (go_at_call 51;refine(HX.out _ HC0.out).mono ?_;rintro e w3 ⟨rfl,hc3⟩;have HC3:=kf (HC0.out.trans hc3 (fun _ _ e=>e));clear hc3)
  go_ret
  exact⟨rfl,HC3.out⟩
 ·have e1:(r==0)=false:=by simpa using h0
  have HZ:=kf h0
  clear h0
  go_enter Tryz.func25,Tryz.ntmps25
  go_wp2_with (go_at_call 51;refine(HX.out _ HC0.out).mono ?_;rintro e w3 ⟨rfl,hc3⟩;have HC3:=kf (HC0.out.trans hc3 (fun _ _ e=>e));clear hc3)
  go_ret
  exact⟨ret_vb (by simp [HZ.out]),HC3.out⟩
end Go.Proofs.YthejpkflcgjdoaaGreatDoor
