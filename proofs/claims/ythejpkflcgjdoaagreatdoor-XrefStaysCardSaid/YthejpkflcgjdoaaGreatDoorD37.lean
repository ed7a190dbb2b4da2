/- Merged by program. -/
import Derived.Test.YthejpkflcgjdoaaGreatDoorD32
set_option linter.unusedVariables false
set_option linter.unusedSimpArgs false
namespace Go.Proofs.YthejpkflcgjdoaaGreatDoor
open Go.RowKit
def mayX (e:XEn):Bool:=decide (0<=e.pl)&&(decide (e.pl<=2147483647)&&(decide (0<=e.gen)&&decide (e.gen<=65535)))
def kindX (b:Bool):Nat:=if b then 110 else 102
def lineT (e:XEn):List Nat:=txt e.pl.toNat 10++[32]++txt e.gen.toNat 5++[32]++[kindX e.us]++[32,10]
theorem mayX_ok {e:XEn} (h:mayX e=true):0<=e.pl/\e.pl<=2147483647/\0<=e.gen/\e.gen<=65535:=by
 unfold mayX at h
 simp only [Bool.and_eq_true,decide_eq_true_eq] at h
 omega
set_option maxHeartbeats 2000000 in
theorem xmay_any (e:XEn) (w:World):Calls Tryz.prog 29 #[.agg e.cells.toArray] w fun r w'=>r=.returned (.bool (mayX e))/\Chg NoS w w':=by
 obtain⟨p,g,u⟩:=e
 have HX:∀ y,mayX ⟨p,g,u⟩=y->Hid (mayX ⟨p,g,u⟩=y):=fun _ h=>h
 show Calls _ _ #[.agg #[.int .i64 p,.int .i64 g,.bool u]] _ _
 by_cases h0:0<=p
 rotate_left
 ·have d0:decide (0<=p)=false:=by simpa using h0
  have HY:=HX false (by unfold mayX;simp [h0])
  rw [HY.out]
  clear HX HY h0
  go_enter Tryz.func29,Tryz.ntmps29
  go_wp2_with fail
  go_ret
  exact⟨rfl,(Chg.refl NoS w).alloc _⟩
 by_cases h1:p<=2147483647
 rotate_left
 ·have d1:decide (p<=2147483647)=false:=by simpa using h1
  have HY:=HX false (by unfold mayX;simp [h0,h1])
  rw [HY.out]
  clear HX HY h1
  go_enter Tryz.func29,Tryz.ntmps29
  go_wp2_with fail
  go_ret
  exact⟨rfl,(Chg.refl NoS w).alloc _⟩
 by_cases h2:0<=g
 rotate_left
 ·have d2:decide (0<=g)=false:=by simpa using h2
  have HY:=HX false (by unfold mayX;simp [h0,h1,h2])
  rw [HY.out]
  clear HX HY h2
  go_enter Tryz.func29,Tryz.ntmps29
  go_wp2_with fail
  go_ret
  exact⟨rfl,(Chg.refl NoS w).alloc _⟩
 by_cases h3:g<=65535
 rotate_left
 ·have d3:decide (g<=65535)=false:=by simpa using h3
  have HY:=HX false (by unfold mayX;simp [h0,h1,h2,h3])
  rw [HY.out]
  clear HX HY h3
  go_enter Tryz.func29,Tryz.ntmps29
  go_wp2_with fail
  go_ret
  exact⟨rfl,(Chg.refl NoS w).alloc _⟩
 have HY:=HX true (by unfold mayX;simp [h0,h1,h2,h3])
 rw [HY.out]
 clear HX HY
 go_enter Tryz.func29,Tryz.ntmps29
 go_wp2_with fail
 go_ret
 exact⟨rfl,(Chg.refl NoS w).alloc _⟩
theorem pad_len {n k:Nat} (hk:(dn n).length<=k):(txt n k).length=k:=by
 unfold txt
 rw [List.length_append,List.length_replicate]
 omega
theorem pad_is {n:Int} {k:Nat} (h0:0<=n) (hk:(dn n.toNat).length<=k) (h1:1<=k) (h2:k<=20):padOf n (k:Nat)=(txt n.toNat k,0):=by
 unfold padOf
 rw [if_neg]
 ·rw [Int.toNat_natCast]
 ·rw [Int.toNat_natCast,pad_len hk]
  omega
theorem sb_two (a b:List Nat):sb a++sb b=sb (a++b):=by rw [sb_app]
set_option maxHeartbeats 4000000 in
set_option maxRecDepth 100000 in
theorem xentry_any (e:XEn) (w:World) (hL:LibOk w) (hp:-9223372036854775808<=e.pl/\e.pl<=9223372036854775807) (hg:-9223372036854775808<=e.gen/\e.gen<=9223372036854775807) :
  Calls Tryz.prog 12 #[.agg e.cells.toArray] w fun r w'=>r=.returned (.tuple #[.string (if mayX e then sb (lineT e) else⟨#[]⟩),.int .i64 (if mayX e then 0 else 2)])/\Chg NoS w w':=by
 have HM:=kf (fun W=>xmay_any e W)
 have HOK:=kf (fun h=>mayX_ok (e:=e) h)
 obtain⟨m,hm⟩:∃ m,m=mayX e:=⟨_,rfl⟩
 rw [<- hm] at HM HOK ⊢
 have HLN:=kf (show lineT e=txt e.pl.toNat 10++[32]++txt e.gen.toNat 5++[32]++[kindX e.us]++[32,10] from rfl)
 obtain⟨L,hLn⟩:∃ L,L=lineT e:=⟨_,rfl⟩
 rw [<- hLn] at HLN ⊢
 have HPA:=kf (fun W (hW:Chg NoS w W)=>pad_any e.pl 10 W hp (by decide) (hL.chg hW))
 have HPB:=kf (fun W (hW:Chg NoS w W)=>pad_any e.gen 5 W hg (by decide) (hL.chg hW))
 obtain⟨p,g,u⟩:=e
 simp only [] at HPA HPB HOK HLN hp hg
 unfold XEn.cells at HM ⊢
 simp only [] at HM ⊢
 have HB:=kf (Blk.new w 29 #[.int .i64 p,.int .i64 g,.bool u])
 have HC:=kf ((Chg.refl NoS w).alloc (.cells #[.int .i64 p,.int .i64 g,.bool u] 29))
 clear hL hm hLn
 go_enter Tryz.func12,Tryz.ntmps12
 go_upto_region 1 with fail
 obtain⟨W1,hW1⟩:∃ W1,W1=w.alloc (.cells #[.int .i64 p,.int .i64 g,.bool u] 29):=⟨_,rfl⟩
 obtain⟨g1,hg1⟩:∃ g1,g1=w.heap.size:=⟨_,rfl⟩
 rw [<- hW1] at HB HC ⊢
 rw [<- hg1] at HB ⊢
 clear hW1 hg1
 obtain⟨p0,p1,p2,-⟩:=HB.out.cl3
 go_upto_region 1 with fail
 cases m with
 |false =>
  go_wp2_with (go_at_call 29;refine(HM.out _).mono ?_;rintro e w2 ⟨rfl,hc2⟩;have HC2:=kf (HC.out.trans hc2 (fun _ _ e=>e));clear hc2)
  go_ret2
  exact⟨rfl,HC2.out⟩
 |true =>
  have HK:=kf (HOK.out rfl)
  have hp1:=pad_is (n:=p) (k:=10) HK.out.1 (dn_len (by have:=HK.out;omega)) (by decide) (by decide)
  have hp2:=pad_is (n:=g) (k:=5) HK.out.2.2.1 (dn_len (by have:=HK.out;omega)) (by decide) (by decide)
  rw [show((10:Nat):Int)=10 from rfl] at hp1
  rw [show((5:Nat):Int)=5 from rfl] at hp2
  rw [hp1] at HPA
  rw [hp2] at HPB
  simp only [] at HPA HPB
  obtain⟨S1,hS1⟩:∃ S,S=sb (txt p.toNat 10):=⟨_,rfl⟩
  obtain⟨S2,hS2⟩:∃ S,S=sb (txt g.toNat 5):=⟨_,rfl⟩
  obtain⟨S3,hS3⟩:∃ S,S=sb [kindX u]:=⟨_,rfl⟩
  rw [<- hS1] at HPA
  rw [<- hS2] at HPB
  have z1:S1.size=10:=by rw [hS1,sb_size,pad_len (dn_len (by have:=HK.out;omega))]
  have z2:S2.size=5:=by rw [hS2,sb_size,pad_len (dn_len (by have:=HK.out;omega))]
  have HE:=kf (show S1++⟨#[32]⟩++S2++⟨#[32]⟩++S3++⟨#[32,10]⟩=sb L from by
   rw [hS1,hS2,hS3,HLN.out,show(⟨#[32]⟩:ByteArray)=sb [32] from rfl,show(⟨#[32,10]⟩:ByteArray)=sb [32,10] from rfl]
   simp only [sb_two])
  have z3:S3.size=1:=by rw [hS3,sb_size];rfl
  have HS3:=kf hS3
  clear hS1 hS2 hS3 hp1 hp2
  go_upto_region 5 with(first
   |(go_at_call 29;refine(HM.out _).mono ?_;rintro e w2 ⟨rfl,hc2⟩;have HC2:=kf (HC.out.trans hc2 (fun _ _ e=>e));obtain⟨p0,p1,p2,-⟩:=(HB.out.chg hc2 (fun e=>e)).cl3;have HB2:=kf (HB.out.chg hc2 (fun e=>e));clear hc2)
   |(have hgo:=HC3.out;clear hgo;go_at_call 30;refine(HPB.out _ HC3.out).mono ?_;rintro e w4 ⟨rfl,hc4⟩;have HC4:=kf (HC3.out.trans hc4 (fun _ _ e=>e));obtain⟨r0,r1,r2,-⟩:=(HB3.out.chg hc4 (fun e=>e)).cl3;have HB4:=kf (HB3.out.chg hc4 (fun e=>e));clear hc4)
   |(go_at_call 30;refine(HPA.out _ HC2.out).mono ?_;rintro e w3 ⟨rfl,hc3⟩;have HC3:=kf (HC2.out.trans hc3 (fun _ _ e=>e));obtain⟨q0,q1,q2,-⟩:=(HB2.out.chg hc3 (fun e=>e)).cl3;have HB3:=kf (HB2.out.chg hc3 (fun e=>e));clear hc3))
  cases u with
  |true =>
   have hs3:S3=⟨#[110]⟩:=HS3.out
   subst hs3
   go_wp2_with fail
   go_ret2
   exact⟨by rw [<- HE.out];rfl,HC4.out⟩
  |false =>
   have hs3:S3=⟨#[102]⟩:=HS3.out
   subst hs3
   go_wp2_with fail
   go_ret2
   exact⟨by rw [<- HE.out];rfl,HC4.out⟩
theorem ret_vb {a b:Bool} (h:a=b):Ending.returned (.bool a)=.returned (.bool b):=by rw [h]
set_option maxHeartbeats 1000000 in
theorem rsame11_any (t t':VT) (c c':VC) (w:World) (hv:ValIs w t c) (hv':ValIs w t' c') :
  Calls Tryz.prog 39 #[c.val,c'.val] w fun e w'=>e=.returned (.bool (decide (cmpT t t'=0)))/\Chg NoS w w':=by
 have HC:=kf (fun W (h:ValIs W t c) (h':ValIs W t' c')=>rcmp_any t t' c c' W h h')
 have HV:=kf hv
 have HV':=kf hv'
 obtain⟨z,hz⟩:∃ z,cmpT t t'=z:=⟨_,rfl⟩
 rw [hz] at HC ⊢
 obtain⟨k,n,s,A,len,cap⟩:=c
 obtain⟨k',n',s',A',len',cap'⟩:=c'
 unfold VC.val at HC ⊢
 simp only [] at HC ⊢
 clear hv hv' hz
 have HB:=kf ((Blk.new w 25 #[.int .i64 k,.int .i64 n,.string s,.slice A len cap]).alloc (.cells #[.int .i64 k',.int .i64 n',.string s',.slice A' len' cap'] 25))
 have HB':=kf (Blk.new (w.alloc (.cells #[.int .i64 k,.int .i64 n,.string s,.slice A len cap] 25)) 25 #[.int .i64 k',.int .i64 n',.string s',.slice A' len' cap'])
 have hs1:(w.alloc (.cells #[.int .i64 k,.int .i64 n,.string s,.slice A len cap] 25)).heap.size=w.heap.size+1:=by simp
 rw [hs1] at HB'
 have HC0:=kf (((Chg.refl NoS w).alloc (.cells #[.int .i64 k,.int .i64 n,.string s,.slice A len cap] 25)).alloc (.cells #[.int .i64 k',.int .i64 n',.string s',.slice A' len' cap'] 25))
 by_cases h0:z=0
 ·subst h0
  go_enter Tryz.func39,Tryz.ntmps39
  go_upto_region 1 with fail
  obtain⟨W0,hW⟩:∃ W,W=((w.alloc (.cells #[.int .i64 k,.int .i64 n,.string s,.slice A len cap] 25)).alloc (.cells #[.int .i64 k',.int .i64 n',.string s',.slice A' len' cap'] 25)):=⟨_,rfl⟩
  rw [<- hW] at HB HB' HC0 ⊢
  clear hW hs1
  have p0:=HB.out.cell 0
  have p1:=HB.out.cell 1
  have p2:=HB.out.cell 2
  have p3:=HB.out.cell 3
  have q0:=HB'.out.cell 0
  have q1:=HB'.out.cell 1
  have q2:=HB'.out.cell 2
  have q3:=HB'.out.cell 3
  simp at p0 p1 p2 p3 q0 q1 q2 q3
  go_wp2_with (go_at_call 73;refine(HC.out _ (HV.out.chg HC0.out) (HV'.out.chg HC0.out)).mono ?_;rintro e w2 ⟨rfl,hc2⟩;have HC2:=kf (HC0.out.trans hc2 (fun _ _ e=>e));clear hc2)
  go_ret
  exact⟨rfl,HC2.out⟩
 ·have HD:=kf (show decide (z=0)=false from by simpa using h0)
  have e0:(z==0)=false:=by simpa using h0
  clear h0
  go_enter Tryz.func39,Tryz.ntmps39
  go_upto_region 1 with fail
  obtain⟨W0,hW⟩:∃ W,W=((w.alloc (.cells #[.int .i64 k,.int .i64 n,.string s,.slice A len cap] 25)).alloc (.cells #[.int .i64 k',.int .i64 n',.string s',.slice A' len' cap'] 25)):=⟨_,rfl⟩
  rw [<- hW] at HB HB' HC0 ⊢
  clear hW hs1
  have p0:=HB.out.cell 0
  have p1:=HB.out.cell 1
  have p2:=HB.out.cell 2
  have p3:=HB.out.cell 3
  have q0:=HB'.out.cell 0
  have q1:=HB'.out.cell 1
  have q2:=HB'.out.cell 2
  have q3:=HB'.out.cell 3
  simp at p0 p1 p2 p3 q0 q1 q2 q3
  go_wp2_with (go_at_call 73;refine(HC.out _ (HV.out.chg HC0.out) (HV'.out.chg HC0.out)).mono ?_;rintro e w2 ⟨rfl,hc2⟩;have HC2:=kf (HC0.out.trans hc2 (fun _ _ e=>e));clear hc2)
  go_ret
  exact⟨ret_vb HD.out.symm,HC2.out⟩
set_option maxHeartbeats 4000000 in
set_option maxRecDepth 100000 in
theorem cmp_in:∀ (N:Nat) (t:VT),sizT t<=N->∀ (t':VT) (c c':VC) (w:World),ValIs w t c->ValIs w t' c' ->
  Calls Tryz.prog 51 #[c.val,c'.val] w fun e w'=>e=.returned (.int .i64 (cmpT t t'))/\Chg NoS w w':=by
 intro N
 induction N with
 |zero =>
  intro t ht
  obtain⟨k,n,s,l⟩:=t
  rw [sizT_mk] at ht
  omega
 |succ N ih =>
  intro t ht t' c c' w hv hv'
  obtain⟨tk,tn,ts,l⟩:=t
  obtain⟨tk',tn',ts',l'⟩:=t'
  obtain⟨h1,h2,h3,hg,hl,hr⟩:=hv.inv
  obtain⟨h1',h2',h3',hg',hl',hr'⟩:=hv'.inv
  obtain⟨k,n,s,A,len,cap⟩:=c
  obtain⟨k',n',s',A',len',cap'⟩:=c'
  simp only [] at h1 h2 h3 hl hr h1' h2' h3' hl' hr'
  subst h1 h2 h3 h1' h2' h3'
  rw [sizT_mk] at ht
  have hlm:=hg.len
  have hlm':=hg'.len
  simp only [] at hlm hlm'
  unfold VC.val
  simp only []
  have HF:=kf (fun(W:World) (h:Chg NoS w W)=>cmpf_any l l' A A' len cap len' cap' w W hl hl' hlm hlm' hr hr' h (fun t ht'=>ih t (by omega)))
  have HI:=kf (fun(x y:Int) (W:World)=>(Go.Proofs.Tryz.cmp_Compare_int x y W).mono (fun e w' h=>(⟨h.1.trans (ret_v64 (cmpInt_eq x y)),h.2⟩:e=.returned (.int .i64 (cmpI x y))/\w'=W)))
  have HS:=kf (fun(W:World)=>(Go.Proofs.Tryz.strings_Compare s s' W).mono (fun e w' h=>(⟨h.1.trans (ret_v64 (cmpBytes_eq s s')),h.2⟩:e=.returned (.int .i64 (cmpS s s'))/\w'=W)))
  have hb:=((Blk.new w 25 #[.int .i64 k,.int .i64 n,.string s,.slice A len cap]).alloc (.cells #[.int .i64 k',.int .i64 n',.string s',.slice A' len' cap'] 25))
  have hb2:=Blk.new (w.alloc (.cells #[.int .i64 k,.int .i64 n,.string s,.slice A len cap] 25)) 25 #[.int .i64 k',.int .i64 n',.string s',.slice A' len' cap']
  rw [World.size_alloc] at hb2
  have HC0:=kf (((Chg.refl NoS w).alloc (.cells #[.int .i64 k,.int .i64 n,.string s,.slice A len cap] 25)).alloc (.cells #[.int .i64 k',.int .i64 n',.string s',.slice A' len' cap'] 25))
  obtain⟨W0,hW⟩:∃ W0,W0=(w.alloc (.cells #[.int .i64 k,.int .i64 n,.string s,.slice A len cap] 25)).alloc (.cells #[.int .i64 k',.int .i64 n',.string s',.slice A' len' cap'] 25):=⟨_,rfl⟩
  obtain⟨g,hgg⟩:∃ g,g=w.heap.size:=⟨_,rfl⟩
  rw [<- hW] at hb hb2 HC0
  rw [<- hgg] at hb hb2
  have p0:=hb.cell 0
  have p1:=hb.cell 1
  have p2:=hb.cell 2
  have q0:=hb2.cell 0
  have q1:=hb2.cell 1
  have q2:=hb2.cell 2
  simp at p0 p1 p2 q0 q1 q2
  obtain⟨x,hx⟩:∃ x,x=cmpI k k':=⟨_,rfl⟩
  obtain⟨y,hy⟩:∃ y,y=cmpI n n':=⟨_,rfl⟩
  obtain⟨z,hz⟩:∃ z,z=cmpS s s':=⟨_,rfl⟩
  obtain⟨r,hr9⟩:∃ r,r=or3 x y z:=⟨_,rfl⟩
  have hh:cmpH k n s k' n' s'=r:=by rw [hr9,hx,hy,hz,cmpH_or]
  have HIx:=kf (fun W=>HI.out k k' W)
  have HIy:=kf (fun W=>HI.out n n' W)
  rw [<- hx] at HIx
  rw [<- hy] at HIy
  rw [<- hz] at HS
  have HO:=kf (fun(gg:Nat) (W:World) (h:Blk W gg 3 #[.int .i64 x,.int .i64 y,.int .i64 z])=>or3_any gg x y z W h)
  rw [<- hr9] at HO
  have HBV:=kf hb
  have HBV':=kf hb2
  clear hv hv' hg hg' hl hl' hr hr' ih ht HI hx hy hz hr9 hb hb2
  go_enter Tryz.func51,Tryz.ntmps51
  go_upto_region 1 with fail
  rw [<- hgg,<- hW]
  clear hgg hW
  refine wp_region_still_tail 15 (by kernel_rfl) (by kernel_rfl) ?_
  simp only [List.take_succ_cons,List.take_zero,List.drop_succ_cons,List.drop_zero]
  change wpStill _ _ W0.drew _ _ _
  repeat still_step
  still_call (HIx.out _)
  repeat still_step
  still_call (HIy.out _)
  repeat still_step
  still_call (HS.out _)
  repeat still_step
  refine wpStill_nil ?_
  change wpList _ _ _ _ _ W0.drew
  by_cases hr0:r=0
  ·subst hr0
   have HE:=kf (show cmpT (.mk k n s l) (.mk k' n' s' l')=cmpL l l' from by rw [cmpT_mk,hh,if_neg (by simp)])
   have c3:=(HBV.out.alloc (.cells #[.int .i64 x,.int .i64 y,.int .i64 z] 3)).drew.cell 3
   have d3:=(HBV'.out.alloc (.cells #[.int .i64 x,.int .i64 y,.int .i64 z] 3)).drew.cell 3
   simp at c3 d3
   clear hh
   go_wp2_with (first
    |(go_at_call 88;refine(HO.out _ _ (Blk.new W0.drew 3 #[.int .i64 x,.int .i64 y,.int .i64 z])).mono ?_;rintro e w3 ⟨rfl,rfl⟩)
    |(go_at_call 90;refine(HF.out _ (HC0.out.drew.alloc _)).mono ?_;rintro e w4 ⟨rfl,hc4⟩;have HC4:=kf ((HC0.out.drew.alloc _).trans hc4 (fun _ _ e=>e));clear hc4))
   go_ret
   exact⟨ret_v64 HE.out.symm,HC4.out⟩
  ·have HE:=kf (show cmpT (.mk k n s l) (.mk k' n' s' l')=r from by rw [cmpT_mk,hh,if_pos hr0])
   have e1:(r==0)=false:=by simpa using hr0
   have e2:(r != 0)=true:=by simpa using hr0
   clear hh hr0
   go_wp2_with (go_at_call 88;refine(HO.out _ _ (Blk.new W0.drew 3 #[.int .i64 x,.int .i64 y,.int .i64 z])).mono ?_;rintro e w3 ⟨rfl,rfl⟩)
   go_ret
   exact⟨ret_v64 HE.out.symm,HC0.out.drew.alloc _⟩
theorem cmp_any (t t':VT) (c c':VC) (w:World) (hv:ValIs w t c) (hv':ValIs w t' c') :
  Calls Tryz.prog 51 #[c.val,c'.val] w fun e w'=>e=.returned (.int .i64 (cmpT t t'))/\Chg NoS w w':=cmp_in _ t (Nat.le_refl _) t' c c' w hv hv'
set_option maxHeartbeats 2000000 in
theorem same_any (t t':VT) (c c':VC) (w:World) (hv:ValIs w t c) (hv':ValIs w t' c') :
  Calls Tryz.prog 25 #[c.val,c'.val] w fun e w'=>e=.returned (.bool (decide (cmpT t t'=0)))/\Chg NoS w w':=by
 have HX:=kf (fun W (h:Chg NoS w W)=>cmp_any t t' c c' W (hv.chg h) (hv'.chg h))
 obtain⟨k,n,s,A,len,cap⟩:=c
 obtain⟨k',n',s',A',len',cap'⟩:=c'
 unfold VC.val at HX ⊢
 simp only [] at HX ⊢
 have hb:=((Blk.new w 25 #[.int .i64 k,.int .i64 n,.string s,.slice A len cap]).alloc (.cells #[.int .i64 k',.int .i64 n',.string s',.slice A' len' cap'] 25))
 have p0:=hb.cell 0
 have p1:=hb.cell 1
 have p2:=hb.cell 2
 have p3:=hb.cell 3
 simp at p0 p1 p2 p3
 clear hb hv hv'
 obtain⟨r,hr9⟩:∃ r,r=cmpT t t':=⟨_,rfl⟩
 rw [<- hr9] at HX ⊢
 clear hr9
 have HC0:=kf (((Chg.refl NoS w).alloc (.cells #[.int .i64 k,.int .i64 n,.string s,.slice A len cap] 25)).alloc (.cells #[.int .i64 k',.int .i64 n',.string s',.slice A' len' cap'] 25))
 by_cases h0:r=0
 ·subst h0
  go_enter Tryz.func25,Tryz.ntmps25
  go_wp2_with (go_at_call 51;refine(HX.out _ HC0.out).mono ?_;rintro e w3 ⟨rfl,hc3⟩;have HC3:=kf (HC0.out.trans hc3 (fun _ _ e=>e));clear hc3)
  go_ret
  exact⟨rfl,HC3.out⟩
 ·have e1:(r==0)=false:=by simpa using h0
  have HZ:=kf h0
  clear h0
  go_enter Tryz.func25,Tryz.ntmps25
  go_wp2_with (go_at_call 51;refine(HX.out _ HC0.out).mono ?_;rintro e w3 ⟨rfl,hc3⟩;have HC3:=kf (HC0.out.trans hc3 (fun _ _ e=>e));clear hc3)
  go_ret
  exact⟨ret_vb (by simp [HZ.out]),HC3.out⟩
end Go.Proofs.YthejpkflcgjdoaaGreatDoor
