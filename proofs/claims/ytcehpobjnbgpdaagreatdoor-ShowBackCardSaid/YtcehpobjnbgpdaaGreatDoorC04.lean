/- Merged by program. -/
import Derived.Test.YtcehpobjnbgpdaaGreatDoorC01
import Derived.Test.YtcehpobjnbgpdaaGreatDoorC03
import Derived.StillTailTactics
import Derived.Deep.CutRange
import Derived.Shelf.Abstract
set_option linter.unusedVariables false
set_option linter.unusedSimpArgs false
namespace Go.Proofs.YtcehpobjnbgpdaaGreatDoor
open Go.RowKit
def cmpH (k n:Int) (s:ByteArray) (k' n':Int) (s':ByteArray):Int :=
 if k<k' then -1 else if k≠k' then 1 else if n<n' then -1 else if n≠n' then 1 else if Op.bytesLess s.toList s'.toList then -1 else if s≠s' then 1 else 0
mutual
def cmpT:VT->VT->Int
 |.mk k n s l,.mk k' n' s' l'=>if cmpH k n s k' n' s'≠0 then cmpH k n s k' n' s' else cmpL l l'
def cmpL:List VT->List VT->Int
 |[],[]=>0
 |[],_::_=>-1
 |_::_,[]=>1
 |t::l,t'::l'=>if cmpT t t'≠0 then cmpT t t' else cmpL l l'
end
theorem cmpT_mk (k n:Int) (s:ByteArray) (l:List VT) (k' n':Int) (s':ByteArray) (l':List VT):cmpT (.mk k n s l) (.mk k' n' s' l')=if cmpH k n s k' n' s'≠0 then cmpH k n s k' n' s' else cmpL l l':=by rw [cmpT]
theorem cmpL_cons (t t':VT) (l l':List VT):cmpL (t::l) (t'::l')=if cmpT t t'≠0 then cmpT t t' else cmpL l l':=by rw [cmpL]
theorem bytesLess_self:∀ l:List UInt8,Op.bytesLess l l=false:=by
 intro l
 induction l with
 |nil=>rfl
 |cons a l ih=>simp [Op.bytesLess,ih]
theorem str_ne11 {s s':ByteArray} (h:s≠s'):¬s.toList=s'.toList:=by
 rw [ByteArray.toList_eq,ByteArray.toList_eq]
 intro e
 obtain⟨d⟩:=s
 obtain⟨d'⟩:=s'
 exact h (congrArg ByteArray.mk (Array.ext' e))
theorem cmpT_head {k n k' n':Int} {s s':ByteArray} {l l':List VT} {x:Int} (h:cmpH k n s k' n' s'=x) (hx:x≠0):cmpT (.mk k n s l) (.mk k' n' s' l')=x:=by rw [cmpT_mk,h,if_pos hx]
set_option maxHeartbeats 4000000 in
set_option maxRecDepth 100000 in
theorem rcmp_in:∀ (N:Nat) (t:VT),sizT t<=N->∀ (t':VT) (c c':VC) (w:World),ValIs w t c->ValIs w t' c' ->
  Calls Tryz.prog 38 #[c.val,c'.val] w fun e w'=>e=.returned (.int .i64 (cmpT t t'))/\Chg NoS w w':=by
 intro N
 induction N with
 |zero =>
  intro t ht
  obtain⟨k,n,s,l⟩:=t
  rw [sizT_mk] at ht
  omega
 |succ N ih =>
  intro t ht t' c c' w hv hv'
  obtain⟨tk,tn,ts,l⟩:=t
  obtain⟨tk',tn',ts',l'⟩:=t'
  obtain⟨h1,h2,h3,hg,hl,hr⟩:=hv.inv
  obtain⟨h1',h2',h3',hg',hl',hr'⟩:=hv'.inv
  obtain⟨k,n,s,A,len,cap⟩:=c
  obtain⟨k',n',s',A',len',cap'⟩:=c'
  simp only [] at h1 h2 h3 hl hr h1' h2' h3' hl' hr'
  subst h1 h2 h3 h1' h2' h3'
  rw [sizT_mk] at ht
  have hcap:=hg.cap
  have hlm:=hg.len
  have hcap':=hg'.cap
  have hlm':=hg'.len
  simp only [] at hcap hlm hcap' hlm'
  unfold maxLen at hlm hlm'
  unfold VC.val
  simp only []
  by_cases hk:k<k'
  ·have HD:=kf (cmpT_head (l:=l) (l':=l') (show cmpH k n s k' n' s'=-1 from by unfold cmpH;rw [if_pos hk]) (by decide))
   have d1:decide (k<k')=true:=by simpa using hk
   clear hv hv' hg hg' hl hl' hr hr' ih ht hk
   go_enter Tryz.func38,Tryz.ntmps38
   go_wp2_with fail
   go_ret
   exact⟨ret_v64 (by rw [HD.out]),((Chg.refl NoS w).alloc _).alloc _⟩
  have d1:decide (k<k')=false:=by simpa using hk
  by_cases hk2:k=k'
  ·subst hk2
   by_cases hn:n<n'
   ·have HD:=kf (cmpT_head (l:=l) (l':=l') (show cmpH k n s k n' s'=-1 from by unfold cmpH;rw [if_neg hk,if_neg (by simp),if_pos hn]) (by decide))
    have d2:decide (n<n')=true:=by simpa using hn
    clear hv hv' hg hg' hl hl' hr hr' ih ht hk hn
    go_enter Tryz.func38,Tryz.ntmps38
    go_wp2_with fail
    go_ret
    exact⟨ret_v64 (by rw [HD.out]),((Chg.refl NoS w).alloc _).alloc _⟩
   have d2:decide (n<n')=false:=by simpa using hn
   by_cases hn2:n=n'
   ·subst hn2
    cases hs:Op.bytesLess s.toList s'.toList with
    |true =>
     have HD:=kf (cmpT_head (l:=l) (l':=l') (show cmpH k n s k n s'=-1 from by unfold cmpH;rw [if_neg hk,if_neg (by simp),if_neg hn,if_neg (by simp),if_pos hs]) (by decide))
     clear hv hv' hg hg' hl hl' hr hr' ih ht hk hn
     go_enter Tryz.func38,Tryz.ntmps38
     go_wp2_with fail
     go_ret
     exact⟨ret_v64 (by rw [HD.out]),((Chg.refl NoS w).alloc _).alloc _⟩
    |false =>
     by_cases hs2:s=s'
     ·subst hs2
      have HH:=kf (show cmpH k n s k n s=0 from by unfold cmpH;rw [if_neg hk,if_neg (by simp),if_neg hn,if_neg (by simp),if_neg (by rw [hs];decide),if_neg (by simp)])
      have HD:=kf (show cmpT (.mk k n s l) (.mk k n s l')=cmpL l l' from by rw [cmpT_mk,HH.out,if_neg (by simp)])
      have HL:=kf hl
      have HL':=kf hl'
      have HR:=kf hr
      have HR':=kf hr'
      have HIH:=kf (fun(t:VT) (ht':sizT t<=sizL l)=>ih t (by omega))
      have HB:=kf ((Blk.new w 24 #[.int .i64 k,.int .i64 n,.string s,.slice A len cap]).alloc (.cells #[.int .i64 k,.int .i64 n,.string s,.slice A' len' cap'] 24))
      have hb2:=Blk.new (w.alloc (.cells #[.int .i64 k,.int .i64 n,.string s,.slice A len cap] 24)) 24 #[.int .i64 k,.int .i64 n,.string s,.slice A' len' cap']
      rw [World.size_alloc] at hb2
      have HB':=kf hb2
      have HC0:=kf (((Chg.refl NoS w).alloc (.cells #[.int .i64 k,.int .i64 n,.string s,.slice A len cap] 24)).alloc (.cells #[.int .i64 k,.int .i64 n,.string s,.slice A' len' cap'] 24))
      obtain⟨W0,hW⟩:∃ W0,W0=(w.alloc (.cells #[.int .i64 k,.int .i64 n,.string s,.slice A len cap] 24)).alloc (.cells #[.int .i64 k,.int .i64 n,.string s,.slice A' len' cap'] 24):=⟨_,rfl⟩
      obtain⟨g,hgg⟩:∃ g,g=w.heap.size:=⟨_,rfl⟩
      rw [<- hW] at HB HB' HC0
      rw [<- hgg] at HB HB'
      clear hv hv' hg hg' hl hl' hr hr' ih ht hk hn hb2
      go_enter Tryz.func38,Tryz.ntmps38
      go_upto_region 6 with fail
      rw [<- hgg,<- hW]
      clear hgg hW
      go_loopw [5] (fun vj wr=>∃ j:Nat,j<=len/\j<=len'/\vj=.int .i64 (j:Nat)/\Hid (Chg NoS W0 wr)/\Hid (RowIs w A j (l.drop j))/\Hid (RowIs w A' j (l'.drop j))/\Hid (cmpL l l'=cmpL (l.drop j) (l'.drop j))) (fun vj _=>len-(intOf vj).toNat)
      case atStart=>exact⟨0,by omega,by omega,rfl,Chg.refl _ _,by rw [List.drop_zero];exact HR.out,by rw [List.drop_zero];exact HR'.out,kf (by rw [List.drop_zero,List.drop_zero])⟩
      case round =>
       obtain⟨j,hj,hj',rfl,HCW,HRW,HRW',HFW⟩:=hrel
       have HBW:=kf (HB.out.chg HCW.out (fun e=>e))
       have HBW':=kf (HB'.out.chg HCW.out (fun e=>e))
       have HCR:=kf (HC0.out.trans HCW.out (fun _ _ e=>e))
       have q3:=HBW.out.cell 3
       have p3:=HBW'.out.cell 3
       simp at q3 p3
       by_cases h1:j<len
       ·by_cases h2:j<len'
        ·obtain⟨u,hu,hd⟩:=drop_vt (l:=l) (k:=j) (by rw [HL.out];exact h1)
         obtain⟨u',hu',hd'⟩:=drop_vt (l:=l') (k:=j) (by rw [HL'.out];exact h2)
         obtain⟨b,off,rfl⟩:∃ b off,A=some ⟨b,off,none⟩:=by
          have h:=HR.out
          cases hll:l with
          |nil=>rw [hll] at hu;simp at hu
          |cons t0 l0=>rw [hll] at h;exact h.start
         obtain⟨b',off',rfl⟩:∃ b off,A'=some ⟨b,off,none⟩:=by
          have h:=HR'.out
          cases hll:l' with
          |nil=>rw [hll] at hu';simp at hu'
          |cons t0 l0=>rw [hll] at h;exact h.start
         have hrw:=HRW.out
         have hrw':=HRW'.out
         rw [hd] at hrw
         rw [hd'] at hrw'
         obtain⟨ek,en,es,eA,el,ec,c0,c1,c2,c3,hve,hre⟩:=hrw.at_ HCR.out
         obtain⟨fk,fn,fs,fA,fl,fc,x0,x1,x2,x3,hvf,hrf⟩:=hrw'.at_ HCR.out
         have HX:=kf (fun(W:World) (h:Chg NoS wr W)=>HIH.out u (sizL_at hu) u' ⟨ek,en,es,eA,el,ec⟩ ⟨fk,fn,fs,fA,fl,fc⟩ W (hve.chg h) (hvf.chg h))
         unfold VC.val at HX
         simp only [] at HX
         have HRN:=kf hre
         have HRN':=kf hrf
         have HFN:=kf (show cmpL l l'=if cmpT u u'≠0 then cmpT u u' else cmpL (l.drop (j+1)) (l'.drop (j+1)) from by rw [HFW.out,hd,hd',cmpL_cons])
         obtain⟨r,hr9⟩:∃ r,r=cmpT u u':=⟨_,rfl⟩
         rw [<- hr9] at HX HFN
         have i1:(j:Int)<len:=by omega
         have i2:(j:Int)<len':=by omega
         clear hrw hrw' hve hvf hre hrf hd hd' hu hu' hr9
         go_upto_region 8 with fail
         refine wp_region_still_tail 10 (by kernel_rfl) (by kernel_rfl) ?_
         simp only [List.take_succ_cons,List.take_zero,List.drop_succ_cons,List.drop_zero]
         change wpStill _ _ wr.drew _ _ _
         repeat still_step
         refine wpStill_nil ?_
         change wpList _ _ _ _ _ wr.drew
         by_cases hr0:r=0
         ·subst hr0
          have HFM:=kf (show cmpL l l'=cmpL (l.drop (j+1)) (l'.drop (j+1)) from by rw [HFN.out,if_neg (by simp)])
          go_wp2_with (go_at_call 38;refine(HX.out _ (Chg.refl NoS wr).drew).mono ?_;rintro e w3 ⟨rfl,hc3⟩;have HC3:=kf ((HCW.out.drew).trans hc3 (fun _ _ e=>e));clear hc3)
          go_roundw
          case rel=>exact⟨j+1,by omega,by omega,by go_num,HC3,HRN,HRN',HFM⟩
          case measure=>simp [intOf];omega
         ·have HFM:=kf (show cmpL l l'=r from by rw [HFN.out,if_pos hr0])
          have v2:(r != 0)=true:=by simpa using hr0
          have v3:(r==0)=false:=by simpa using hr0
          clear hr0
          go_wp2_with (go_at_call 38;refine(HX.out _ (Chg.refl NoS wr).drew).mono ?_;rintro e w3 ⟨rfl,hc3⟩;have HC3:=kf (((HCR.out).drew).trans hc3 (fun _ _ e=>e));clear hc3)
          go_ret
          exact⟨ret_v64 (by rw [HD.out,HFM.out]),HC3.out⟩
        ·obtain⟨u,hu,hd⟩:=drop_vt (l:=l) (k:=j) (by rw [HL.out];exact h1)
         have hz1:l'.drop j=[]:=List.drop_of_length_le (by rw [HL'.out];omega)
         have HE:=kf (show cmpL l l'=1 from by rw [HFW.out,hd,hz1,cmpL])
         clear hz1
         obtain rfl:j=len':=by omega
         have d5:decide ((len:Int)<(j:Int))=false:=by simp;omega
         have d6:decide ((j:Int)<(len:Int))=true:=by simp;omega
         have d7:decide (len<j)=false:=by simp;omega
         have d8:decide (j<len)=true:=by simp;omega
         clear hd hu h2
         go_wp2_with fail
         go_ret
         exact⟨ret_v64 (by rw [HD.out,HE.out]),HCR.out⟩
       ·obtain rfl:j=len:=by omega
        by_cases h2:j<len'
        ·obtain⟨u',hu',hd'⟩:=drop_vt (l:=l') (k:=j) (by rw [HL'.out];exact h2)
         have hz1:l.drop j=[]:=List.drop_of_length_le (Nat.le_of_eq HL.out)
         have HE:=kf (show cmpL l l'=-1 from by rw [HFW.out,hd',hz1,cmpL])
         clear hz1
         have d5:decide ((j:Int)<(len':Int))=true:=by simp;omega
         have d6:decide (j<len')=true:=by simp;omega
         clear hd' hu'
         go_wp2_with fail
         go_ret
         exact⟨ret_v64 (by rw [HD.out,HE.out]),HCR.out⟩
        ·obtain rfl:j=len':=by omega
         have hz1:l.drop j=[]:=List.drop_of_length_le (Nat.le_of_eq HL.out)
         have hz2:l'.drop j=[]:=List.drop_of_length_le (Nat.le_of_eq HL'.out)
         have HE:=kf (show cmpL l l'=0 from by rw [HFW.out,hz1,hz2,cmpL])
         clear hz1 hz2
         go_wp2_with fail
         go_ret
         exact⟨ret_v64 (by rw [HD.out,HE.out]),HCR.out⟩
     ·have HD:=kf (cmpT_head (l:=l) (l':=l') (show cmpH k n s k n s'=1 from by unfold cmpH;rw [if_neg hk,if_neg (by simp),if_neg hn,if_neg (by simp),if_neg (by rw [hs];decide),if_pos hs2]) (by decide))
      have hs3:¬s.toList=s'.toList:=str_ne11 hs2
      have hs4:(s.toList==s'.toList)=false:=by simpa using hs3
      clear hv hv' hg hg' hl hl' hr hr' ih ht hk hn hs2
      go_enter Tryz.func38,Tryz.ntmps38
      go_wp2_with fail
      go_ret
      exact⟨ret_v64 (by rw [HD.out]),((Chg.refl NoS w).alloc _).alloc _⟩
   ·have HD:=kf (cmpT_head (l:=l) (l':=l') (show cmpH k n s k n' s'=1 from by unfold cmpH;rw [if_neg hk,if_neg (by simp),if_neg hn,if_pos hn2]) (by decide))
    have e2:(n==n')=false:=by simpa using hn2
    have e3:(n != n')=true:=by simpa using hn2
    clear hv hv' hg hg' hl hl' hr hr' ih ht hk hn hn2
    go_enter Tryz.func38,Tryz.ntmps38
    go_wp2_with fail
    go_ret
    exact⟨ret_v64 (by rw [HD.out]),((Chg.refl NoS w).alloc _).alloc _⟩
  ·have HD:=kf (cmpT_head (l:=l) (l':=l') (show cmpH k n s k' n' s'=1 from by unfold cmpH;rw [if_neg hk,if_pos hk2]) (by decide))
   have e2:(k==k')=false:=by simpa using hk2
   have e3:(k != k')=true:=by simpa using hk2
   clear hv hv' hg hg' hl hl' hr hr' ih ht hk hk2
   go_enter Tryz.func38,Tryz.ntmps38
   go_wp2_with fail
   go_ret
   exact⟨ret_v64 (by rw [HD.out]),((Chg.refl NoS w).alloc _).alloc _⟩
theorem rcmp_any (t t':VT) (c c':VC) (w:World) (hv:ValIs w t c) (hv':ValIs w t' c') :
  Calls Tryz.prog 38 #[c.val,c'.val] w fun e w'=>e=.returned (.int .i64 (cmpT t t'))/\Chg NoS w w':=rcmp_in _ t (Nat.le_refl _) t' c c' w hv hv'
def hitT (key:ByteArray) (t:VT):Prop:=t.kind=5/\t.str=key
open Classical in
noncomputable def findL (key:ByteArray):List VT->Option Nat
 |[]=>none
 |[t]=>if hitT key t then some 0 else none
 |t::_::l=>if hitT key t then some 0 else(findL key l).map (·+ 1)
theorem findL_nil (key:ByteArray):findL key []=none:=by rw [findL]
theorem findL_hit {key:ByteArray} {t:VT} {l:List VT} (h:hitT key t):findL key (t::l)=some 0:=by
 cases l with
 |nil=>rw [findL,if_pos h]
 |cons u l=>rw [findL,if_pos h]
theorem findL_no {key:ByteArray} {t:VT} {l:List VT} (h:¬hitT key t):findL key (t::l)=(findL key (l.drop 1)).map (·+ 1):=by
 cases l with
 |nil=>rw [findL,if_neg h,List.drop_nil,findL_nil];rfl
 |cons u l=>rw [findL,if_neg h,List.drop_succ_cons,List.drop_zero]
theorem findL_lt (key:ByteArray):∀ (N:Nat) (l:List VT),l.length<=N->∀ j,findL key l=some j->2*j<l.length:=by
 intro N
 induction N using Nat.strongRecOn with
 |_ N ih =>
  intro l hl j h
  cases l with
  |nil=>rw [findL_nil] at h;cases h
  |cons t l =>
   by_cases ht:hitT key t
   ·rw [findL_hit ht] at h;cases h;simp
   ·rw [findL_no ht] at h
    cases hf:findL key (l.drop 1) with
    |none=>rw [hf] at h;cases h
    |some i =>
     rw [hf] at h
     simp only [Option.map_some,Option.some.injEq] at h
     subst h
     rw [List.length_cons] at hl
     have h2:=ih (N-1) (by omega) (l.drop 1) (by rw [List.length_drop];omega) i hf
     rw [List.length_drop] at h2
     rw [List.length_cons]
     omega
theorem sizT_pos (t:VT):1<=sizT t:=by
 obtain⟨k,n,s,l⟩:=t
 rw [sizT_mk]
 omega
theorem sizL_len:∀ (l:List VT),l.length<=sizL l:=by
 intro l
 induction l with
 |nil=>exact Nat.zero_le _
 |cons t l ih =>
  rw [sizL_cons,List.length_cons]
  have:=sizT_pos t
  omega
noncomputable def findI (k:Int) (l:List VT) (key:ByteArray):Int:=if k=7 then(match findL key l with|some j=>((2*j:Nat):Int)|none=>-1) else -1
set_option maxHeartbeats 4000000 in
set_option maxRecDepth 100000 in
theorem rfind_any (c:VC) (l:List VT) (key:ByteArray) (w:World) (hv:ValIs w (.mk c.k c.n c.s l) c) (hsz:sizL l<=1000000000) :
  Calls Tryz.prog 134 #[c.val,.string key] w fun e w'=>e=.returned (.int .i64 (findI c.k l key))/\Chg NoS w w':=by
 obtain⟨_,_,_,hg,hl,hr⟩:=hv.inv
 obtain⟨k,n,s,A,len,cap⟩:=c
 simp only [] at hl hr
 have hcap:=hg.cap
 have hlm:=hg.len
 simp only [] at hcap hlm
 unfold maxLen at hlm
 unfold VC.val
 simp only []
 have HB:=kf (Blk.new w 24 #[.int .i64 k,.int .i64 n,.string s,.slice A len cap])
 have HC0:=kf ((Chg.refl NoS w).alloc (.cells #[.int .i64 k,.int .i64 n,.string s,.slice A len cap] 24))
 obtain⟨W0,hW⟩:∃ W0,W0=w.alloc (.cells #[.int .i64 k,.int .i64 n,.string s,.slice A len cap] 24):=⟨_,rfl⟩
 obtain⟨g,hgg⟩:∃ g,g=w.heap.size:=⟨_,rfl⟩
 rw [<- hW] at HB HC0
 rw [<- hgg] at HB
 have p0:=HB.out.cell 0
 have p3:=HB.out.cell 3
 simp at p0 p3
 have hl9:len<=1000000000:=by have:=sizL_len l;omega
 have HL:=kf hl
 have HR:=kf hr
 clear hv hg hl hr hsz hlm
 by_cases h7:k=7
 ·subst h7
  have HF:=kf (show findI 7 l key=(match findL key l with|some j=>((2*j:Nat):Int)|none=>-1) from if_pos rfl)
  go_enter Tryz.func134,Tryz.ntmps134
  go_upto_region 1 with fail
  rw [<- hgg,<- hW]
  clear hgg hW
  go_upto_region 2 with fail
  go_loop [5] (fun vk=>∃ j:Nat,2*j<=len+1/\vk=.int .i64 ((2*j:Nat):Int)/\Hid (findL key l=(findL key (l.drop (2*j))).map (·+ j))) (fun vk=>len+1-(intOf vk).toNat)
  case atStart=>exact⟨0,by omega,by go_num,by show _=_;rw [Nat.mul_zero,List.drop_zero];simp⟩
  case round =>
   obtain⟨j,hj,rfl,HN⟩:=hrel
   obtain⟨q,hq⟩:∃ q,q=2*j:=⟨_,rfl⟩
   rw [<- hq] at hj HN ⊢
   have HQ:=kf hq
   clear hq
   by_cases h1:q<len
   ·obtain⟨t,ht,hd⟩:=drop_vt (l:=l) (k:=q) (by rw [HL.out];exact h1)
    obtain⟨b,off,rfl⟩:∃ b off,A=some ⟨b,off,none⟩:=by
     have h:=HR.out
     cases hll:l with
     |nil=>rw [hll] at ht;simp at ht
     |cons t0 l0=>rw [hll] at h;exact h.start
    obtain⟨eA,el,ec,c0,_,c2,_,_⟩:=HR.out.nth HC0.out ht
    have i1:(q:Int)<len:=by omega
    obtain⟨tk,htk⟩:∃ tk,t.kind=tk:=⟨_,rfl⟩
    obtain⟨ts,hts⟩:∃ ts,t.str=ts:=⟨_,rfl⟩
    rw [htk] at c0
    rw [hts] at c2
    have HDD:=kf hd
    by_cases hh:tk=5/\ts=key
    ·obtain⟨rfl,rfl⟩:=hh
     have HE:Hid (findI 7 l ts=(q:Int)):=by
      show _=_
      rw [HF.out,HN.out,hd,findL_hit ⟨htk,hts⟩]
      show(((2*(0+j):Nat):Int))=_
      rw [HQ.out,Nat.zero_add]
     clear ht htk hts hd HN
     go_wp2_with fail
     go_ret
     exact⟨ret_v64 HE.out.symm,HC0.out⟩
    ·have HNN:Hid (findL key l=(findL key (l.drop (q+2))).map (·+ (j+1))):=by
      show _=_
      rw [HN.out,hd,findL_no (fun h=>hh ⟨by rw [<- htk];exact h.1,by rw [<- hts];exact h.2⟩),List.drop_drop,Option.map_map]
      congr 1
      funext x
      show x+1+j=x+(j+1)
      omega
     by_cases h5:tk=5
     ·subst h5
      have hsk:¬ts.toList=key.toList:=str_ne11 (fun h=>hh ⟨rfl,h⟩)
      have f1:(ts.toList==key.toList)=false:=by simpa using hsk
      clear ht htk hts hd HN hh
      go_wp2_with fail
      go_round
      case rel=>exact⟨j+1,by have:=HQ.out;omega,by have:=HQ.out;first|(go_num;done)|(go_num;omega),by have h:=HNN.out;rw [HQ.out] at h;exact h⟩
      case measure=>simp [intOf];omega
     ·have e5:(tk==5)=false:=by simpa using h5
      clear ht htk hts hd HN hh h5
      go_wp2_with fail
      go_round
      case rel=>exact⟨j+1,by have:=HQ.out;omega,by have:=HQ.out;first|(go_num;done)|(go_num;omega),by have h:=HNN.out;rw [HQ.out] at h;exact h⟩
      case measure=>simp [intOf];omega
   ·have HE:Hid (findI 7 l key=-1):=by
     show _=_
     rw [HF.out,HN.out,List.drop_of_length_le (by rw [HL.out];omega),findL_nil]
     rfl
    have d1:decide ((q:Int)<len)=false:=by simp;omega
    have d1':decide (q<len)=false:=by simp;omega
    go_wp2_with fail
    go_ret
    exact⟨ret_v64 HE.out.symm,HC0.out⟩
 ·have e7:(k==7)=false:=by simpa using h7
  have HE:=kf (show findI k l key=-1 from if_neg h7)
  clear h7
  go_enter Tryz.func134,Tryz.ntmps134
  go_upto_region 1 with fail
  rw [<- hgg,<- hW]
  clear hgg hW
  go_upto_region 2 with fail
  go_loop [5] (fun vk=>vk=.int .i64 0) (fun _=>0)
  case atStart=>rfl
  case round =>
   obtain rfl:=hrel
   go_wp2_with fail
   go_ret
   exact⟨ret_v64 HE.out.symm,HC0.out⟩
structure PB (w W:World) (g:Nat) (cs:Array Value):Prop where
 blk:Blk W g 24 cs
 new:w.heap.size<=g
theorem PB.call {w W W':World} {g:Nat} {cs:Array Value} (h:PB w W g cs) (hc:Chg NoS W W'):PB w W' g cs:=⟨h.blk.chg hc (fun h=>h),h.new⟩
theorem PB.alloc {w W:World} {g:Nat} {cs:Array Value} (h:PB w W g cs) (o:Obj):PB w (W.alloc o) g cs:=⟨h.blk.alloc o,h.new⟩
theorem PB.drew {w W:World} {g:Nat} {cs:Array Value} (h:PB w W g cs):PB w W.drew g cs:=⟨h.blk.drew,h.new⟩
theorem PB.set {w W:World} {g:Nat} {cs:Array Value} (h:PB w W g cs) (i:Nat) (u:Value):PB w (W.setCell ⟨g,i,none⟩ u) g (cs.setIfInBounds i u):=⟨h.blk.set_ i u,h.new⟩
theorem PB.far {w W:World} {g g':Nat} {cs:Array Value} (h:PB w W g cs) (hg:g≠g') (i:Nat) (u:Value):PB w (W.setCell ⟨g',i,none⟩ u) g cs:=⟨h.blk.far (p:=⟨g',i,none⟩) hg u,h.new⟩
theorem PB.chg {w W:World} {g:Nat} {cs:Array Value} (h:PB w W g cs) (hc:Chg NoS w W) (i:Nat) (u:Value):Chg NoS w (W.setCell ⟨g,i,none⟩ u) :=
 hc.setCell (p:=⟨g,i,none⟩) (fun h2=>absurd h2 (Nat.not_lt.2 h.new)) u
theorem PB.set4 {w W:World} {g:Nat} {cs:Array Value} {a b c d:Value} (h:PB w W g cs) (hc:Chg NoS w W) (hz:cs.size=4) :
  PB w ((((W.setCell ⟨g,0,none⟩ a).setCell ⟨g,1,none⟩ b).setCell ⟨g,2,none⟩ c).setCell ⟨g,3,none⟩ d) g #[a,b,c,d]/\Chg NoS w ((((W.setCell ⟨g,0,none⟩ a).setCell ⟨g,1,none⟩ b).setCell ⟨g,2,none⟩ c).setCell ⟨g,3,none⟩ d):=by
 have h4:=(((h.set 0 a).set 1 b).set 2 c).set 3 d
 refine⟨?_,((((h.set 0 a).set 1 b).set 2 c).chg ((((h.set 0 a).set 1 b).chg ((h.set 0 a).chg (h.chg hc 0 a) 1 b) 2 c)) 3 d)⟩
 obtain⟨l⟩:=cs
 match l,hz with
 |[x0,x1,x2,x3],_=>exact h4
theorem PB.far4 {w W:World} {g g':Nat} {cs:Array Value} {a b c d:Value} (h:PB w W g cs) (hg:g≠g') :
  PB w ((((W.setCell ⟨g',0,none⟩ a).setCell ⟨g',1,none⟩ b).setCell ⟨g',2,none⟩ c).setCell ⟨g',3,none⟩ d) g cs:=(((h.far hg 0 a).far hg 1 b).far hg 2 c).far hg 3 d
def nilT:VT:=.mk 0 0 ⟨#[]⟩ []
theorem nil_is (w:World):ValIs w nilT ⟨0,0,⟨#[]⟩,none,0,0⟩:=.mk ⟨0,0,⟨#[]⟩,none,0,0⟩ [] ⟨by decide,by decide,by decide,fun _=>⟨rfl,rfl⟩,Nat.le_refl _,Nat.zero_le _⟩ rfl (.nil _ _)
def vcells (es:List VC):List Value:=es.flatMap VC.cells
theorem vcells_app (a b:List VC):vcells (a++b)=vcells a++vcells b:=by simp [vcells]
theorem vcells_one (e:VC):vcells [e]=e.cells:=by simp [vcells]
theorem vcells_len (es:List VC):(vcells es).length=es.length*4:=by
 induction es with
 |nil=>rfl
 |cons e es ih =>
  rw [show vcells (e::es)=e.cells++vcells es from rfl,List.length_append,ih,List.length_cons,show e.cells.length=4 from rfl]
  omega
theorem vcells_cell (es:List VC):∀ u∈vcells es,u.oneCell'=true:=by
 intro u hu
 obtain⟨e,_,h⟩:=List.mem_flatMap.1 hu
 unfold VC.cells at h
 simp only [List.mem_cons,List.not_mem_nil,or_false] at h
 rcases h with rfl|rfl|rfl|rfl<;>rfl
theorem vcells_at:∀ {es:List VC} {j i:Nat} {e:VC},es[j]?=some e->i<4->(vcells es)[j*4+i]?=e.cells[i]?:=by
 intro es
 induction es with
 |nil=>intro j i e h;simp at h
 |cons x es ih =>
  intro j i e h hi
  rw [show vcells (x::es)=x.cells++vcells es from rfl]
  cases j with
  |zero =>
   simp at h
   subst h
   rw [Nat.zero_mul,Nat.zero_add,List.getElem?_append_left (by exact hi)]
  |succ j =>
   have h4:x.cells.length=4:=rfl
   rw [List.getElem?_append_right (by rw [h4];omega),h4,show(j+1)*4+i-4=j*4+i from by omega]
   exact ih (by simpa using h) hi
theorem info_VC:(Tryz.prog.info? 24).map (fun i=>(i.zero,i.size,i.bytes))=some (some (.agg #[.int .i64 0,.int .i64 0,.string ⟨#[]⟩,.slice none 0 0]),4,56):=by kernel_rfl
theorem info_partsV {o:Option TypeInfo} {z:Value} {a b:Nat} (h:o.map (fun i=>(i.zero,i.size,i.bytes))=some (some z,a,b)):∃ i,o=some i/\i.zero=some z/\i.size=a/\i.bytes=b:=by
 rcases o with _|i
 ·cases h
 ·simp at h
  exact⟨i,rfl,h.1,h.2.1,h.2.2⟩
theorem PB.kept {w W w':World} {g:Nat} {cs:Array Value} {A A3:Option Addr} {n c n3 c3:Nat} (h:PB w W g cs) (k:∀ (g:Nat) (T:TypeId) (cs:Array Value),Blk W g T cs->(Value.slice A n c).ownBlock≠some g->Blk w' g T cs/\(Value.slice A3 n3 c3).ownBlock≠some g) (hne:(Value.slice A n c).ownBlock≠some g):PB w w' g cs/\(Value.slice A3 n3 c3).ownBlock≠some g :=
 ⟨⟨(k g _ cs h.blk hne).1,h.new⟩,(k g _ cs h.blk hne).2⟩
theorem src_one {W:World} {B:Nat} {e:VC} (h:∀ i,i<4->W.cell? ⟨B,i,none⟩=e.cells[i]?):Src W 4 (some ⟨B,0,none⟩) 1 1 (vcells [e]):=by
 refine⟨by rw [vcells_len];rfl,fun e=>(by cases e),fun ad ha j u hj=>?_⟩
 cases ha
 rw [vcells_one] at hj
 have hj4:j<4:=(List.getElem?_eq_some_iff.1 hj).1
 have hadd:(⟨B,0,none⟩:Addr).add j=⟨B,j,none⟩:=by unfold Addr.add;split<;>simp_all
 rw [hadd,h j hj4,hj]
def cmpI (a b:Int):Int:=if a<b then -1 else if a≠b then 1 else 0
def cmpS (a b:ByteArray):Int:=if Op.bytesLess a.toList b.toList then -1 else if a≠b then 1 else 0
theorem cmpI_swap (a b:Int):cmpI b a=0-cmpI a b:=by unfold cmpI;split<;>split<;>(try split)<;>omega
theorem toList_inj {a b:ByteArray} (h:a.toList=b.toList):a=b:=by
 by_cases e:a=b
 ·exact e
 ·exact absurd h (str_ne11 e)
theorem cmpS_lt (a b:ByteArray):cmpS a b=-1↔a.toList<b.toList:=by
 unfold cmpS
 rw [Go.Proofs.bytesLess_eq]
 by_cases h:a.toList<b.toList
 ·simp [h]
 ·simp only [h,decide_false,Bool.false_eq_true,if_false,iff_false]
  split<;>simp
theorem cmpS_eq (a b:ByteArray):cmpS a b=0↔a=b:=by
 unfold cmpS
 rw [Go.Proofs.bytesLess_eq]
 by_cases e:a=b
 ·subst e
  simp [List.lt_irrefl]
 ·simp only [e,ne_eq,not_false_eq_true,if_true,iff_false]
  split<;>simp
theorem cmpS_val (a b:ByteArray):cmpS a b=-1\/cmpS a b=0\/cmpS a b=1:=by unfold cmpS;split<;>(try split)<;>simp
theorem cmpS_gt (a b:ByteArray):cmpS a b=1↔b.toList<a.toList:=by
 constructor
 ·intro h
  have h1:¬a.toList<b.toList:=fun e=>by rw [(cmpS_lt a b).2 e] at h;cases h
  have h2:a≠b:=fun e=>by rw [(cmpS_eq a b).2 e] at h;cases h
  rcases Classical.em (b.toList<a.toList) with h3|h3
  ·exact h3
  ·exact absurd (toList_inj (List.le_antisymm (List.not_lt.1 h3) (List.not_lt.1 h1))) h2
 ·intro h
  rcases cmpS_val a b with e|e|e
  ·exact absurd ((cmpS_lt a b).1 e) (List.lt_asymm h)
  ·rw [(cmpS_eq a b).1 e] at h;exact absurd h (List.lt_irrefl _)
  ·exact e
theorem cmpS_swap (a b:ByteArray):cmpS b a=0-cmpS a b:=by
 rcases cmpS_val a b with e|e|e
 ·rw [e,(cmpS_gt b a).2 ((cmpS_lt a b).1 e)];rfl
 ·rw [e,(cmpS_eq b a).2 ((cmpS_eq a b).1 e).symm];rfl
 ·rw [e,(cmpS_lt b a).2 ((cmpS_gt a b).1 e)];rfl
theorem cmpH_eq (k n:Int) (s:ByteArray) (k' n':Int) (s':ByteArray):cmpH k n s k' n' s'=if cmpI k k'≠0 then cmpI k k' else if cmpI n n'≠0 then cmpI n n' else cmpS s s':=by
 unfold cmpH cmpI cmpS
 by_cases h1:k<k'
 ·simp [h1]
 ·by_cases h2:k=k'
  ·by_cases h3:n<n'
   ·simp [h1,h2,h3]
   ·by_cases h4:n=n'
    ·simp [h2,h4]
    ·simp [h2,h3,h4]
  ·simp [h1,h2]
def cmpNS (n:Int) (s:ByteArray) (n':Int) (s':ByteArray):Int:=if cmpI n n'≠0 then cmpI n n' else cmpS s s'
theorem lex_swap {f g f' g':Int} (hf:f'=0-f) (hg:g'=0-g):(if f'≠0 then f' else g')=0-(if f≠0 then f else g):=by
 by_cases h:f=0
 ·have n1:¬f≠0:=fun e=>e h
  have n2:¬f'≠0:=fun e=>e (by omega)
  rw [if_neg n1,if_neg n2,hg]
 ·have p2:f'≠0:=by omega
  rw [if_pos h,if_pos p2,hf]
theorem cmpH_lex (k n:Int) (s:ByteArray) (k' n':Int) (s':ByteArray):cmpH k n s k' n' s'=if cmpI k k'≠0 then cmpI k k' else cmpNS n s n' s':=cmpH_eq k n s k' n' s'
theorem cmpH_swap (k n:Int) (s:ByteArray) (k' n':Int) (s':ByteArray):cmpH k' n' s' k n s=0-cmpH k n s k' n' s':=by
 rw [cmpH_lex,cmpH_lex]
 exact lex_swap (cmpI_swap k k') (lex_swap (cmpI_swap n n') (cmpS_swap s s'))
mutual
theorem cmpT_swap:∀ (a b:VT),cmpT b a=0-cmpT a b
 |.mk k n s l,.mk k' n' s' l'=>by
  rw [cmpT_mk,cmpT_mk]
  exact lex_swap (cmpH_swap _ _ _ _ _ _) (cmpL_swap l l')
theorem cmpL_swap:∀ (l l':List VT),cmpL l' l=0-cmpL l l'
 |[],[]=>by rw [cmpL];rfl
 |[],_::_=>by rw [cmpL,cmpL];rfl
 |_::_,[]=>by rw [cmpL,cmpL];rfl
 |t::l,t'::l'=>by
  rw [cmpL_cons,cmpL_cons]
  exact lex_swap (cmpT_swap t t') (cmpL_swap l l')
end
theorem cmpT_self (a:VT):cmpT a a=0:=by have:=cmpT_swap a a;omega
def nmT (key:ByteArray):VT:=.mk 5 0 key []
def gtT (key:ByteArray) (t:VT):Prop:=t.kind=5/\Op.bytesLess key.toList t.str.toList=true
open Classical in
noncomputable def insL (key:ByteArray) (x:VT):List VT->List VT
 |[]=>[nmT key,x]
 |[t]=>if gtT key t then [nmT key,x,t] else [t,nmT key,x]
 |t::u::l=>if gtT key t then nmT key::x::t::u::l else t::u::insL key x l
def replL (j:Nat) (x:VT) (l:List VT):List VT:=l.take (2*j+1)++x::l.drop (2*j+2)
noncomputable def putL (key:ByteArray) (x:VT) (l:List VT):List VT:=match findL key l with
 |some j=>replL j x l
 |none=>insL key x l
noncomputable def putT:VT->ByteArray->VT->VT
 |.mk k n s l,key,x=>if k=7 then .mk k n s (putL key x l) else .mk k n s l
theorem two_ind {P:List VT->Prop} (h0:P []) (h2:∀ t u l,l.length%2=0->P l->P (t::u::l)):∀ l:List VT,l.length%2=0->P l
 |[],_=>h0
 |[t],h=>by simp at h
 |t::u::l,h=>h2 t u l (by simp only [List.length_cons] at h;omega) (two_ind h0 h2 l (by simp only [List.length_cons] at h;omega))
theorem ins_gt {key:ByteArray} {x t u:VT} {l:List VT} (h:gtT key t):insL key x (t::u::l)=nmT key::x::t::u::l:=by rw [insL,if_pos h]
theorem ins_le {key:ByteArray} {x t u:VT} {l:List VT} (h:¬gtT key t):insL key x (t::u::l)=t::u::insL key x l:=by rw [insL,if_neg h]
theorem repl_succ (j:Nat) (x t u:VT) (l:List VT):replL (j+1) x (t::u::l)=t::u::replL j x l:=by
 unfold replL
 rw [show 2*(j+1)+1=(2*j+1)+1+1 by omega,show 2*(j+1)+2=(2*j+2)+1+1 by omega]
 rfl
theorem find_two {key:ByteArray} {t u:VT} {l:List VT} (h:¬hitT key t):findL key (t::u::l)=(findL key l).map (·+ 1):=by
 rw [findL_no h,List.drop_succ_cons,List.drop_zero]
theorem hit_nm (key:ByteArray):hitT key (nmT key):=⟨rfl,rfl⟩
def okD:Option ByteArray->List VT->Prop
 |_,[]=>True
 |_,[_]=>False
 |lo,t::_::l=>t.kind=5/\(∀ s,lo=some s->Op.bytesLess s.toList t.str.toList=true)/\okD (some t.str) l
theorem less_tr {a b c:ByteArray} (h:Op.bytesLess a.toList b.toList=true) (k:Op.bytesLess b.toList c.toList=true):Op.bytesLess a.toList c.toList=true:=by
 rw [Go.Proofs.bytesLess_eq,decide_eq_true_iff] at h k ⊢
 exact List.lt_trans h k
theorem less_self (a:ByteArray):Op.bytesLess a.toList a.toList=false:=bytesLess_self _
theorem less_tot {a b:ByteArray} (h:Op.bytesLess a.toList b.toList≠true) (h2:a≠b):Op.bytesLess b.toList a.toList=true:=by
 rw [Ne,Go.Proofs.bytesLess_eq,decide_eq_true_iff] at h
 rw [Go.Proofs.bytesLess_eq,decide_eq_true_iff]
 rcases Classical.em (b.toList<a.toList) with h3|h3
 ·exact h3
 ·exact absurd (toList_inj (List.le_antisymm (List.not_lt.1 h3) (List.not_lt.1 h))) h2
theorem dict_okD:∀ {l:List VT},l.length%2=0->namesO l->riseO l->okD none l:=by
 have key:∀ (N:Nat) (l:List VT) (lo:Option ByteArray),l.length<=N->l.length%2=0->namesO l->riseO l->(∀ s t,lo=some s->l[0]?=some t->Op.bytesLess s.toList t.str.toList=true)->okD lo l:=by
  intro N
  induction N using Nat.strongRecOn with
  |_ N ih =>
   intro l lo hl he hn hr hlo
   match l,he with
   |[],_=>trivial
   |t::u::l',he =>
    simp only [List.length_cons] at hl he
    refine⟨hn 0 t rfl,fun s hs=>hlo s t hs rfl,ih (N-1) (by omega) l' _ (by omega) (by omega) (fun j v hv=>hn (j+1) v (by rw [show 2*(j+1)=2*j+1+1 by omega];exact hv)) (fun j a b ha hb=>hr (j+1) a b (by rw [show 2*(j+1)=2*j+1+1 by omega];exact ha) (by rw [show 2*(j+1)+2=2*j+2+1+1 by omega];exact hb)) (fun s v hs hv=>?_)⟩
    cases hs
    exact hr 0 t v rfl hv
 intro l he hn hr
 exact key _ l none (Nat.le_refl _) he hn hr (fun s t h=>by cases h)
theorem firstL_zero {l:List VT}:firstL l=0↔∀ t∈l,firstT t=0:=by
 induction l with
 |nil=>exact⟨fun _ t h=>(by cases h),fun _=>by rw [firstL]⟩
 |cons t l ih =>
  rw [firstL_cons]
  by_cases h:firstT t=0
  ·rw [if_neg (fun e=>e h),ih]
   exact⟨fun k u hu=>by rcases List.mem_cons.1 hu with rfl|hu;exact h;exact k u hu,fun k u hu=>k u (List.mem_cons_of_mem _ hu)⟩
  ·rw [if_pos h]
   exact⟨fun e=>absurd e h,fun k=>absurd (k t (List.mem_cons_self ..)) h⟩
theorem depthL_iff:∀ (l:List VT) (a N:Nat),depthL a l<=N↔a<=N/\∀ t∈l,depthT t+1<=N:=by
 intro l
 induction l with
 |nil=>intro a N;rw [depthL];exact⟨fun h=>⟨h,fun t h=>by cases h⟩,fun h=>h.1⟩
 |cons t l ih =>
  intro a N
  rw [depthL_cons,ih]
  constructor
  ·rintro⟨h1,h2⟩
   refine⟨?_,fun u hu=>?_⟩
   ·split at h1<;>omega
   ·rcases List.mem_cons.1 hu with rfl|hu
    ·split at h1<;>omega
    ·exact h2 u hu
  ·rintro⟨h1,h2⟩
   refine⟨?_,fun u hu=>h2 u (List.mem_cons_of_mem _ hu)⟩
   have:=h2 t (List.mem_cons_self ..)
   split<;>omega
theorem depth_dict (n:Int) (s:ByteArray) (l:List VT):depthT (.mk 7 n s l)=depthL 1 l:=by rw [depthT,if_pos (.inr rfl)]
theorem depth_nm (key:ByteArray):depthT (nmT key)=1:=by rw [nmT,depthT,if_neg (by decide)]
mutual
def walkT {σ:Type} (step:VT->Nat->σ->σ × Bool):VT->Nat->σ->σ
 |.mk k n s l,d,st=>if (step (.mk k n s l) d st).2 then walkL step l (d+1) (step (.mk k n s l) d st).1 else(step (.mk k n s l) d st).1
def walkL {σ:Type} (step:VT->Nat->σ->σ × Bool):List VT->Nat->σ->σ
 |[],_,st=>st
 |t::l,d,st=>walkL step l d (walkT step t d st)
end
theorem walkT_on {σ:Type} {step:VT->Nat->σ->σ × Bool} {k n:Int} {s:ByteArray} {l:List VT} {d:Nat} {st:σ} (h:(step (.mk k n s l) d st).2=true):walkT step (.mk k n s l) d st=walkL step l (d+1) (step (.mk k n s l) d st).1:=by rw [walkT,if_pos h]
theorem walkT_no {σ:Type} {step:VT->Nat->σ->σ × Bool} {k n:Int} {s:ByteArray} {l:List VT} {d:Nat} {st:σ} (h:(step (.mk k n s l) d st).2=false):walkT step (.mk k n s l) d st=(step (.mk k n s l) d st).1:=by rw [walkT,if_neg (by rw [h];decide)]
theorem walkL_cons {σ:Type} (step:VT->Nat->σ->σ × Bool) (t:VT) (l:List VT) (d:Nat) (st:σ):walkL step (t::l) d st=walkL step l d (walkT step t d st):=by rw [walkL]
structure SeeOf (w0:World) (g:Nat) (lb:Array Value) {σ:Type} (S:Nat->Prop) (J:σ->World->Prop) (step:VT->Nat->σ->σ × Bool):Prop where
 chg:∀ st W,J st W->Chg NoS w0 W
 keep:∀ st W W',J st W->Chg NoS W W'->J st W'
 low:∀ st W,J st W->∀ i,S i->i<W.heap.size
 see:∀ (t:VT) (c:VC) (d:Nat) (st:σ) (W:World),ValIs W t c->J st W->d<=2000000000->Calls Tryz.prog g (#[c.val,.int .i64 (d:Nat)]++lb) W fun e w'=>e=.returned (.bool (step t d st).2)/\J (step t d st).1 w'/\Chg S W w'
theorem RowIs.at0 {w w':World} {b off j:Nat} {t:VT} {l:List VT} (h:RowIs w (some ⟨b,off,none⟩) j (t::l)) (hc:Chg NoS w w'):∃ (ek en:Int) (es:ByteArray) (eA:Option Addr) (el ec:Nat),
  w'.cell? ⟨b,off+j*4,none⟩=some (.int .i64 ek)/\w'.cell? ⟨b,off+j*4+1,none⟩=some (.int .i64 en)/\w'.cell? ⟨b,off+j*4+2,none⟩=some (.string es)/\w'.cell? ⟨b,off+j*4+3,none⟩=some (.slice eA el ec)/\ValIs w t ⟨ek,en,es,eA,el,ec⟩/\RowIs w (some ⟨b,off,none⟩) (j+1) l:=by
 obtain⟨⟨ek,en,es,eA,el,ec⟩,h0,h1,h2,h3,hv,hr⟩:=h.plain
 refine⟨ek,en,es,eA,el,ec,?_,?_,?_,?_,hv,hr⟩
 ·exact(hc.cell (p:=⟨b,_,none⟩) (by exact cell_lt h0) (fun e=>e)).trans h0
 ·exact(hc.cell (p:=⟨b,_,none⟩) (by exact cell_lt h1) (fun e=>e)).trans h1
 ·exact(hc.cell (p:=⟨b,_,none⟩) (by exact cell_lt h2) (fun e=>e)).trans h2
 ·exact(hc.cell (p:=⟨b,_,none⟩) (by exact cell_lt h3) (fun e=>e)).trans h3
theorem Chg.weak {S:Nat->Prop} {w w':World} (h:Chg NoS w w'):Chg S w w':=(Chg.refl S w).trans h (fun _ _ e=>absurd e (fun e=>e))
set_option maxHeartbeats 2000000 in
set_option maxRecDepth 100000 in
theorem walk_in {σ:Type} (w0:World) (g:Nat) (lb:Array Value) (eg:∀ args w,(callFunc g args).run Tryz.prog w=.ok (.enter g args) w) (S:Nat->Prop) (J:σ->World->Prop) (step:VT->Nat->σ->σ × Bool) (hs:SeeOf w0 g lb S J step) :
  ∀ (N:Nat) (t:VT),sizT t<=N->∀ (c:VC) (d:Nat) (st:σ) (w:World),ValIs w0 t c->J st w->d+N<=2000000000 ->
  Calls Tryz.prog 45 #[c.val,.int .i64 (d:Nat),.func (.func g) #[] lb] w fun e w'=>e=.returned (.tuple #[])/\J (walkT step t d st) w'/\Chg S w w':=by
 intro N
 induction N with
 |zero =>
  intro t ht
  obtain⟨k,n,s,l⟩:=t
  rw [sizT_mk] at ht
  omega
 |succ N ih =>
  intro t ht c d st w hv hj hd
  have HV:=kf hv
  obtain⟨tk,tn,ts,l⟩:=t
  obtain⟨h1,h2,h3,hg,hl,hr⟩:=hv.inv
  obtain⟨ck,cn,cs,A,len,cap⟩:=c
  simp only [] at h1 h2 h3 hl hr
  subst h1 h2 h3
  rw [sizT_mk] at ht
  have hcap:=hg.cap
  have hlm:=hg.len
  simp only [] at hcap hlm
  unfold maxLen at hlm
  have HL:=kf hl
  have HR:=kf hr
  have HIH:=kf (fun(t':VT) (ht':sizT t'<=sizL l)=>ih t' (by omega))
  unfold VC.val
  simp only []
  have HB:=kf (Blk.new w 24 #[.int .i64 ck,.int .i64 cn,.string cs,.slice A len cap])
  have hc0:=((Chg.refl NoS w).alloc (.cells #[.int .i64 ck,.int .i64 cn,.string cs,.slice A len cap] 24))
  have HC0:=kf (Chg.weak (S:=S) hc0)
  have HJ0:=kf (hs.keep _ _ _ hj hc0)
  have HNS:Hid (¬S w.heap.size):=fun h=>absurd (hs.low _ _ hj _ h) (Nat.lt_irrefl _)
  obtain⟨W0,hW⟩:∃ W0,W0=w.alloc (.cells #[.int .i64 ck,.int .i64 cn,.string cs,.slice A len cap] 24):=⟨_,rfl⟩
  obtain⟨gb,hgg⟩:∃ gb,gb=w.heap.size:=⟨_,rfl⟩
  rw [<- hW] at HB HC0 HJ0
  rw [<- hgg] at HB HNS
  have HX:=kf (hs.see (.mk ck cn cs l) ⟨ck,cn,cs,A,len,cap⟩ d st W0 (HV.out.chg (hs.chg _ _ HJ0.out)) HJ0.out (by omega))
  unfold VC.val at HX
  simp only [] at HX
  obtain⟨bb,hbb⟩:∃ bb,bb=(step (.mk ck cn cs l) d st).2:=⟨_,rfl⟩
  obtain⟨s1,hs1⟩:∃ s1,s1=(step (.mk ck cn cs l) d st).1:=⟨_,rfl⟩
  have p0:=HB.out.cell 0
  have p1:=HB.out.cell 1
  have p2:=HB.out.cell 2
  have p3:=HB.out.cell 3
  simp at p0 p1 p2 p3
  have HS:=kf hs
  rw [<- hbb,<- hs1] at HX
  have HBB:=kf hbb
  have HS1:=kf hs1
  clear hv hg hl hr ih ht hc0 hj hbb hs1 hs
  cases bb with
  |false =>
   have HE:=kf (show walkT step (.mk ck cn cs l) d st=s1 from by rw [walkT_no HBB.out.symm,HS1.out])
   go_enter Tryz.func45,Tryz.ntmps45
   go_upto_region 1 with fail
   rw [<- hgg,<- hW]
   clear hgg hW
   go_wp2_with (go_at_fn g;refine HX.out.mono ?_;rintro e w3 ⟨rfl,hj3,hc3⟩;have HJ3:=kf hj3;have HC3:=kf (HC0.out.trans hc3 (fun _ _ e=>e));clear hj3 hc3)
   (try simp only [Exit.inBlock,Exit.then])
   refine bodyPost_ret (results_none rfl _ _ _) rfl ?_
   exact⟨rfl,by rw [HE.out];exact HJ3.out,HC3.out⟩
  |true =>
   have HE:=kf (show walkT step (.mk ck cn cs l) d st=walkL step l (d+1) s1 from by rw [walkT_on HBB.out.symm,HS1.out])
   go_enter Tryz.func45,Tryz.ntmps45
   go_upto_region 1 with fail
   rw [<- hgg,<- hW]
   clear hgg hW
   go_upto_region 2 with(go_at_fn g;refine HX.out.mono ?_;rintro e w3 ⟨rfl,hj3,hc3⟩;have HJ3:=kf hj3;have HB3:=kf (HB.out.chg hc3 HNS.out);have HC3:=kf (HC0.out.trans hc3 (fun _ _ e=>e));clear hj3 hc3)
   clear p0 p1 p2 p3
   have q3:=HB3.out.cell 3
   simp at q3
   go_upto_region 3 with fail
   clear q3
   go_loopw [16] (fun vk wr=>∃ (k:Nat) (s2:σ),k<=len/\vk=.int .i64 (k:Nat)/\Hid (J s2 wr)/\Hid (Chg S w wr)/\Hid (RowIs w0 A k (l.drop k))/\Hid (walkL step l (d+1) s1=walkL step (l.drop k) (d+1) s2)) (fun vk _=>len-(intOf vk).toNat)
   case atStart=>exact⟨0,s1,by omega,rfl,HJ3,HC3,by rw [List.drop_zero];exact HR.out,kf (by rw [List.drop_zero])⟩
   case round =>
    obtain⟨k,s2,hk,rfl,HJW,HCW,HRW,HFW⟩:=hrel
    by_cases h1:k<len
    ·obtain⟨t',ht',hdd⟩:=drop_vt (l:=l) (k:=k) (by rw [HL.out];exact h1)
     obtain⟨b,off,rfl⟩:∃ b off,A=some ⟨b,off,none⟩:=by
      have h:=HR.out
      cases hll:l with
      |nil=>rw [hll] at ht';simp at ht'
      |cons t0 l0=>rw [hll] at h;exact h.start
     have hrw:=HRW.out
     rw [hdd] at hrw
     obtain⟨ek,en,es,eA,el,ec,c0,c1,c2,c3,hv',hr'⟩:=hrw.at0 (HS.out.chg _ _ HJW.out)
     have HX2:=kf (fun(W:World) (h:Chg NoS wr W)=>HIH.out t' (sizL_at ht') ⟨ek,en,es,eA,el,ec⟩ (d+1) s2 W hv' (HS.out.keep _ _ _ HJW.out h) (by omega))
     unfold VC.val at HX2
     simp only [] at HX2
     have HRN:=kf hr'
     obtain⟨s4,hs4⟩:∃ s4,s4=walkT step t' (d+1) s2:=⟨_,rfl⟩
     have HFN:=kf (show walkL step l (d+1) s1=walkL step (l.drop (k+1)) (d+1) s4 from by rw [HFW.out,hdd,walkL_cons,hs4])
     rw [<- hs4] at HX2
     have i1:(k:Int)<len:=by omega
     have hdi:((d+1:Nat):Int)=(d:Int)+1:=by omega
     rw [hdi] at HX2
     clear hrw hv' hr' hdd ht' hs4 hdi
     go_wp2_with (go_at_call 45;refine(HX2.out _ ((Chg.refl NoS wr).alloc _)).mono ?_;rintro e w4 ⟨rfl,hj4,hc4⟩;have HJ4:=kf hj4;have HC4:=kf ((HCW.out.alloc _).trans hc4 (fun _ _ e=>e));clear hj4 hc4)
     go_roundw
     case rel=>exact⟨k+1,s4,by omega,by go_num,HJ4,HC4,HRN,HFN⟩
     case measure=>simp [intOf];omega
    ·obtain rfl:k=len:=by omega
     have HFE:=kf (show walkL step l (d+1) s1=s2 from by rw [HFW.out,List.drop_of_length_le (by rw [HL.out];exact Nat.le_refl _),walkL])
     go_wp2_with fail
     go_end0
     exact⟨rfl,by rw [HE.out,HFE.out];exact HJW.out,HCW.out⟩
theorem walk_any {σ:Type} (w0:World) (g:Nat) (lb:Array Value) (eg:∀ args w,(callFunc g args).run Tryz.prog w=.ok (.enter g args) w) (S:Nat->Prop) (J:σ->World->Prop) (step:VT->Nat->σ->σ × Bool) (hs:SeeOf w0 g lb S J step)
  (t:VT) (c:VC) (d:Nat) (st:σ) (w:World) (hv:ValIs w0 t c) (hj:J st w) (hd:d+sizT t<=2000000000) :
  Calls Tryz.prog 45 #[c.val,.int .i64 (d:Nat),.func (.func g) #[] lb] w fun e w'=>e=.returned (.tuple #[])/\J (walkT step t d st) w'/\Chg S w w' :=
 walk_in w0 g lb eg S J step hs _ t (Nat.le_refl _) c d st w hv hj hd
theorem cmpBytes_eq (a b:ByteArray):Lib.compareBytes a.data.toList b.data.toList=cmpS a b:=by
 have h:∀ x y:List UInt8,Lib.compareBytes x y=if Op.bytesLess x y then -1 else if x≠y then 1 else 0:=by
  intro x
  induction x with
  |nil =>
   intro y
   cases y with
   |nil=>simp [Lib.compareBytes,Op.bytesLess]
   |cons b y=>simp [Lib.compareBytes,Op.bytesLess]
  |cons a x ih =>
   intro y
   cases y with
   |nil=>simp [Lib.compareBytes,Op.bytesLess]
   |cons b y =>
    rw [Lib.compareBytes,Go.Proofs.bytesLess_eq]
    by_cases h1:a<b
    ·have h2:a::x<b::y:=List.cons_lt_cons_iff.2 (.inl h1)
     simp [h1,h2]
    ·by_cases h2:b<a
     ·have h3:¬a::x<b::y:=fun h=>by
       rcases List.cons_lt_cons_iff.1 h with h|h
       ·exact h1 h
       ·rw [h.1] at h2;exact absurd h2 (UInt8.lt_irrefl _)
      have h4:a≠b:=fun h=>by rw [h] at h2;exact absurd h2 (UInt8.lt_irrefl _)
      simp [h1,h2,h3,h4]
     ·have h3:a=b:=UInt8.le_antisymm (UInt8.not_lt.1 h2) (UInt8.not_lt.1 h1)
      subst h3
      rw [if_neg h1,if_neg h1,ih,Go.Proofs.bytesLess_eq]
      have h5:(a::x<a::y)↔x<y:=by
       rw [List.cons_lt_cons_iff]
       constructor
       ·rintro(h|h)
        ·exact absurd h h1
        ·exact h.2
       ·exact fun h=>.inr ⟨rfl,h⟩
      simp [h5]
 rw [h,cmpS,ByteArray.toList_eq,ByteArray.toList_eq]
 have h6:(a.data.toList≠b.data.toList)↔a≠b:=by
  constructor
  ·exact fun h e=>h (by rw [e])
  ·exact fun h e=>h (toList_inj (by rw [ByteArray.toList_eq,ByteArray.toList_eq];exact e))
 simp only [h6]
def stepD (most:Nat) (t:VT) (d:Nat) (st:Nat):Nat × Bool:=(max st d,decide (d<most/\(t.kind=6\/t.kind=7)))
structure DJ (w0:World) (g2 g1 most:Nat) (st:Nat) (W:World):Prop where
 a:Blk W g2 3 #[.int .i64 (st:Nat)]
 b:Blk W g1 3 #[.int .i64 (most:Nat)]
 ne:g1≠g2
 new:w0.heap.size<=g2
 chg:Chg NoS w0 W
theorem DJ.call {w0 W W':World} {g2 g1 most st:Nat} (h:DJ w0 g2 g1 most st W) (hc:Chg NoS W W'):DJ w0 g2 g1 most st W':=⟨h.a.chg hc (fun e=>e),h.b.chg hc (fun e=>e),h.ne,h.new,h.chg.trans hc (fun _ _ e=>e)⟩
theorem DJ.set {w0 W:World} {g2 g1 most st:Nat} (h:DJ w0 g2 g1 most st W) (n:Nat):DJ w0 g2 g1 most n (W.setCell ⟨g2,0,none⟩ (.int .i64 (n:Nat))) :=
 ⟨h.a.set_ 0 _,h.b.far (p:=⟨g2,0,none⟩) h.ne _,h.ne,h.new,h.chg.setCell (p:=⟨g2,0,none⟩) (fun h2=>absurd h2 (Nat.not_lt.2 h.new)) _⟩
set_option maxHeartbeats 2000000 in
theorem dep1_any (w0:World) (g2 g1 most:Nat) (t:VT) (c:VC) (d st:Nat) (W:World) (hv:ValIs W t c) (hj:DJ w0 g2 g1 most st W) :
  Calls Tryz.prog 79 #[c.val,.int .i64 (d:Nat),.pointer (some ⟨g2,0,none⟩),.pointer (some ⟨g1,0,none⟩)] W fun e w'=>e=.returned (.bool (stepD most t d st).2)/\DJ w0 g2 g1 most (stepD most t d st).1 w'/\Chg (fun i=>i=g2) W w':=by
 obtain⟨tk,tn,ts,l⟩:=t
 obtain⟨h1,h2,h3,_,_,_⟩:=hv.inv
 obtain⟨ck,cn,cs,A,len,cap⟩:=c
 simp only [] at h1 h2 h3
 subst h1 h2 h3
 have HJ:=kf (hj.call ((Chg.refl NoS W).alloc (.cells #[.int .i64 ck,.int .i64 cn,.string cs,.slice A len cap] 24)))
 have hl:=hj.a.lt
 have hne:¬W.heap.size=g2:=by omega
 have x0:=HJ.out.a.cell 0
 have y0:=HJ.out.b.cell 0
 have x1:=HJ.out.a.frozen 0
 simp at x0 y0
 have HC:=kf (((Chg.refl (fun i=>i=g2) W).alloc (.cells #[.int .i64 ck,.int .i64 cn,.string cs,.slice A len cap] 24)))
 have HB:=kf (Blk.new W 24 #[.int .i64 ck,.int .i64 cn,.string cs,.slice A len cap])
 obtain⟨m,hm⟩:∃ m:Nat,m=max st d:=⟨_,rfl⟩
 have HJ2:=kf (HJ.out.set m)
 have HB2:=kf (HB.out.far (p:=⟨g2,0,none⟩) hne (.int .i64 (m:Nat)))
 have HC2:=kf (HC.out.setCell (p:=⟨g2,0,none⟩) (fun _=>rfl) (.int .i64 (m:Nat)))
 have z0:=HB2.out.cell 0
 have z1:=HJ2.out.b.cell 0
 simp at z0 z1
 have HST:=kf (show(stepD most (.mk ck cn cs l) d st).1=m from hm.symm)
 have HS2:=kf (show(stepD most (.mk ck cn cs l) d st).2=decide (d<most/\(ck=6\/ck=7)) from rfl)
 rw [HST.out,HS2.out]
 unfold VC.val
 simp only []
 clear hj hv hl hne HST HS2
 have HM:Hid (max (st:Int) (d:Int)=(m:Nat)):=by show _=_;rw [hm];omega
 clear hm
 by_cases h1:d<most
 ·have e1:decide ((d:Int)<(most:Int))=true:=by simpa using h1
  have e1':decide (d<most)=true:=by simpa using h1
  by_cases h6:ck=6
  ·subst h6
   have HK:=kf h1
   clear h1
   go_enter Tryz.func79,Tryz.ntmps79
   go_upto_region 2 with fail
   rw [HM.out]
   go_wp2_with fail
   go_ret
   exact⟨by first|rfl|simp [HK.out],HJ2.out,HC2.out⟩
  ·have e6:(ck==6)=false:=by simpa using h6
   by_cases h7:ck=7
   ·subst h7
    have HK:=kf h1
    clear h1 h6
    go_enter Tryz.func79,Tryz.ntmps79
    go_upto_region 2 with fail
    rw [HM.out]
    go_wp2_with fail
    go_ret
    exact⟨by first|rfl|simp [HK.out],HJ2.out,HC2.out⟩
   ·have e7:(ck==7)=false:=by simpa using h7
    have HK6:=kf h6
    have HK7:=kf h7
    clear h1 h6 h7
    go_enter Tryz.func79,Tryz.ntmps79
    go_upto_region 2 with fail
    rw [HM.out]
    go_wp2_with fail
    go_ret
    exact⟨by first|rfl|simp [HK6.out,HK7.out],HJ2.out,HC2.out⟩
 ·have e1:decide ((d:Int)<(most:Int))=false:=by simpa using h1
  have e1':decide (d<most)=false:=by simpa using h1
  have HK:=kf h1
  clear h1
  go_enter Tryz.func79,Tryz.ntmps79
  go_upto_region 2 with fail
  rw [HM.out]
  go_wp2_with fail
  go_ret
  exact⟨by first|rfl|simp [HK.out],HJ2.out,HC2.out⟩
theorem dep_see (w0:World) (g2 g1 most:Nat):SeeOf w0 79 #[.pointer (some ⟨g2,0,none⟩),.pointer (some ⟨g1,0,none⟩)] (fun i=>i=g2) (DJ w0 g2 g1 most) (stepD most) where
 chg:=fun _ _ h=>h.chg
 keep:=fun _ _ _ h hc=>h.call hc
 low:=fun _ _ h i hi=>hi ▸ h.a.lt
 see:=fun t c d st W hv hj _=>dep1_any w0 g2 g1 most t c d st W hv hj
theorem depthL_max:∀ (l:List VT) (a:Nat),1<=a->depthL a l=max a (depthL 1 l)
 |[],a=>fun h=>by rw [depthL,depthL];omega
 |t::l,a=>fun h=>by
  have h1:=depthT_le t
  have e1:=depthL_max l (depthT t+1) (by omega)
  have e2:=depthL_max l a h
  rw [depthL_cons,depthL_cons,if_pos (show 1<depthT t+1 by omega)]
  split
  ·rw [e1];omega
  ·rw [e1,e2];omega
theorem depthL_two (t:VT) (l:List VT):depthL 1 (t::l)=max (depthT t+1) (depthL 1 l):=by
 have h1:=depthT_le t
 rw [depthL_cons,if_pos (show 1<depthT t+1 by omega),depthL_max l (depthT t+1) (by omega)]
mutual
theorem walkD_T (most:Nat):∀ (t:VT) (d st:Nat),1<=d->d<=most->walkT (stepD most) t d st=max st (min most (d-1+depthT t))
 |.mk k n s l,d,st=>fun h1 h2=>by
  by_cases h:d<most/\(k=6\/k=7)
  ·rw [walkT_on (show(stepD most (.mk k n s l) d st).2=true from decide_eq_true h)]
   show walkL (stepD most) l (d+1) (max st d)=_
   rw [walkD_L most l (d+1) (max st d) (by omega) (by omega) (by omega),depthT,if_pos h.2]
   have:=(depthL_le l 1 (Nat.le_refl _)).1
   omega
  ·rw [walkT_no (show(stepD most (.mk k n s l) d st).2=false from decide_eq_false h)]
   show max st d=_
   have h4:=(depthT_le (.mk k n s l)).1
   by_cases h3:d=most
   ·omega
   ·have h5:¬(k=6\/k=7):=fun e=>h ⟨by omega,e⟩
    rw [depthT,if_neg h5]
    omega
theorem walkD_L (most:Nat):∀ (l:List VT) (d st:Nat),2<=d->d<=most->d-1<=st->walkL (stepD most) l d st=max st (min most (d-2+depthL 1 l))
 |[],d,st=>fun h1 h2 h3=>by rw [walkL,depthL];omega
 |t::l,d,st=>fun h1 h2 h3=>by
  have h4:=(depthT_le t).1
  rw [walkL_cons,walkD_T most t d st (by omega) h2,walkD_L most l d _ h1 h2 (by omega),depthL_two]
  omega
end
set_option maxHeartbeats 2000000 in
set_option maxRecDepth 100000 in
theorem depu_any (t:VT) (c:VC) (most:Nat) (w:World) (hv:ValIs w t c) (hs:sizT t<=1000000000) (hm:1<=most) :
  Calls Tryz.prog 44 #[c.val,.int .i64 (most:Nat)] w fun e w'=>e=.returned (.int .i64 ((min most (depthT t):Nat):Int))/\Chg NoS w w':=by
 have HV:=kf hv
 obtain⟨ck,cn,cs,A,len,cap⟩:=c
 unfold VC.val
 simp only []
 have HB:=kf (((Blk.new w 24 #[.int .i64 ck,.int .i64 cn,.string cs,.slice A len cap]).alloc (.cells #[.int .i64 (most:Nat)] 3)).alloc (.cells #[.int .i64 0] 3))
 have hb1:=(Blk.new (w.alloc (.cells #[.int .i64 ck,.int .i64 cn,.string cs,.slice A len cap] 24)) 3 #[.int .i64 (most:Nat)]).alloc (.cells #[.int .i64 0] 3)
 have hb2:=(Blk.new ((w.alloc (.cells #[.int .i64 ck,.int .i64 cn,.string cs,.slice A len cap] 24)).alloc (.cells #[.int .i64 (most:Nat)] 3)) 3 #[.int .i64 ((0:Nat):Int)])
 simp only [World.size_alloc] at hb1 hb2
 have HJ:=kf ((⟨hb2,hb1,by omega,by omega,(((Chg.refl NoS w).alloc _).alloc _).alloc _⟩:DJ w (w.heap.size+1+1) (w.heap.size+1) most 0 _))
 have x0:=HB.out.cell 0
 have x1:=HB.out.cell 1
 have x2:=HB.out.cell 2
 have x3:=HB.out.cell 3
 simp at x0 x1 x2 x3
 have HX:=kf (walk_any w 79 _ (fun args w=>rfl) _ _ _ (dep_see w (w.heap.size+1+1) (w.heap.size+1) most) t ⟨ck,cn,cs,A,len,cap⟩ 1 0 _ HV.out HJ.out (by omega))
 rw [walkD_T most t 1 0 (Nat.le_refl _) hm] at HX
 have HE:=kf (show max 0 (min most (1-1+depthT t))=min most (depthT t) by omega)
 rw [HE.out] at HX
 unfold VC.val at HX
 simp only [] at HX
 clear hb1 hb2
 go_enter Tryz.func44,Tryz.ntmps44
 go_wp2_with (go_at_call 45;refine HX.out.mono ?_;rintro e w4 ⟨rfl,hj4,hc4⟩;have q0:=hj4.a.cell 0;simp at q0;have HJ4:=kf hj4;clear hj4 hc4)
 go_ret
 exact⟨rfl,HJ4.out.chg⟩
def nmQ (l:List VT) (j:Nat) (r:Int):Prop:=(∀ i t,i<j->l[2*i]?=some t->t.kind=5)/\((r=0/\∀ i t u,i+1<j->l[2*i]?=some t->l[2*i+2]?=some u->Op.bytesLess t.str.toList u.str.toList=true)\/(r=16/\¬riseO l))
theorem nmQ_zero (l:List VT):nmQ l 0 0:=⟨fun i t h=>absurd h (Nat.not_lt_zero i),.inl ⟨rfl,fun i t u h=>absurd h (by omega)⟩⟩
theorem nmQ_kind {l:List VT} {j q:Nat} {t:VT} {r:Int} (hn:nmQ l j r) (hq:q=2*j) (ht:l[q]?=some t) (h5:t.kind=5):∀ i u,i<j+1->l[2*i]?=some u->u.kind=5:=by
 intro i u hi hu
 rcases Nat.lt_or_ge i j with h|h
 ·exact hn.1 i u h hu
 ·obtain rfl:i=j:=by omega
  rw [<- hq,ht] at hu
  cases hu
  exact h5
theorem nmQ_one {l:List VT} {t:VT} {r:Int} (hn:nmQ l 0 r) (ht:l[0]?=some t) (h5:t.kind=5):nmQ l 1 r:=by
 refine⟨nmQ_kind hn (q:=0) rfl ht h5,?_⟩
 rcases hn.2 with⟨rfl,h⟩|h
 ·exact .inl ⟨rfl,fun i t u h=>absurd h (by omega)⟩
 ·exact .inr h
theorem nmQ_up {l:List VT} {j p q:Nat} {t u:VT} {r:Int} (hn:nmQ l (j+1) r) (hp:p=2*j) (hq:q=2*(j+1)) (ht:l[p]?=some t) (hu:l[q]?=some u) (h5:u.kind=5) (hl:Op.bytesLess t.str.toList u.str.toList=true):nmQ l (j+1+1) r:=by
 refine⟨nmQ_kind hn hq hu h5,?_⟩
 rcases hn.2 with⟨rfl,h⟩|h
 ·refine .inl ⟨rfl,fun i t' u' hi hit hiu=>?_⟩
  rcases Nat.lt_or_ge (i+1) (j+1) with h2|h2
  ·exact h i t' u' h2 hit hiu
  ·obtain rfl:i=j:=by omega
   rw [<- hp,ht] at hit
   rw [show 2*i+2=q by omega,hu] at hiu
   cases hit
   cases hiu
   exact hl
 ·exact .inr h
theorem nmQ_no {l:List VT} {j p q:Nat} {t u:VT} {r:Int} (hn:nmQ l (j+1) r) (hp:p=2*j) (hq:q=2*(j+1)) (ht:l[p]?=some t) (hu:l[q]?=some u) (h5:u.kind=5) (hl:Op.bytesLess t.str.toList u.str.toList=false):nmQ l (j+1+1) 16:=by
 refine⟨nmQ_kind hn hq hu h5,.inr ⟨rfl,fun h=>?_⟩⟩
 have h2:=h j t u (by rw [<- hp];exact ht) (by rw [show 2*j+2=q by omega];exact hu)
 rw [hl] at h2
 cases h2
theorem nmQ_end {l:List VT} {j:Nat} {r:Int} (hn:nmQ l j r) (he:l.length%2=0) (hj:l.length<=2*j):dictO 0 0 l=r:=by
 have h1:namesO l:=fun i t hit=>hn.1 i t (by have h:=(List.getElem?_eq_some_iff.1 hit).1;omega) hit
 rcases hn.2 with⟨rfl,h⟩|⟨rfl,h⟩
 ·exact dict_ok he h1 (fun i t u hit hiu=>h i t u (by have h:=(List.getElem?_eq_some_iff.1 hiu).1;omega) hit hiu)
 ·exact dict_key he h1 h
set_option maxHeartbeats 4000000 in
set_option maxRecDepth 100000 in
theorem names_any (l:List VT) (A:Option Addr) (len cap:Nat) (w0 w:World) (hl:l.length=len) (hr:RowIs w0 A 0 l) (hlm:len<=maxLen) (hc:Chg NoS w0 w) :
  Calls Tryz.prog 82 #[.slice A len cap] w fun e w'=>e=.returned (.int .i64 (dictO 0 0 l))/\Chg NoS w w':=by
 unfold maxLen at hlm
 obtain⟨r,hr2⟩:∃ r:Nat,len%2=r:=⟨_,rfl⟩
 have t1:(len:Int).tmod 2=(r:Int):=by rw [Int.tmod_eq_emod_of_nonneg (by omega)];omega
 have t2:(len:Int)%2=(r:Int):=by omega
 have HC:=kf hc
 clear hc
 by_cases h2:r=0
 ·subst h2
  have HEV:=kf (show l.length%2=0 from by rw [hl];exact hr2)
  have HL:=kf hl
  have HR:=kf hr
  have HLE:=kf hr2
  clear hr2 hl hr
  go_enter Tryz.func82,Tryz.ntmps82
  go_upto_region 5 with fail
  go_loopw [3,4] (fun ve va wr=>∃ (j:Nat) (r:Int),2*j<=len/\ve=.int .i64 r/\va=.int .i64 ((2*j:Nat):Int)/\Hid (Chg NoS w wr)/\Hid (nmQ l j r)) (fun _ va _=>len-(intOf va).toNat)
  case atStart=>exact⟨0,0,by omega,rfl,by go_num,Chg.refl _ _,nmQ_zero l⟩
  case round =>
   obtain⟨j,r,hj,rfl,rfl,HCW,HN⟩:=hrel
   obtain⟨q,hq⟩:∃ q,q=2*j:=⟨_,rfl⟩
   rw [<- hq] at hj ⊢
   have HQ:=kf hq
   clear hq
   have HCR:=kf (HC.out.trans HCW.out (fun _ _ e=>e))
   by_cases h1:q<len
   ·obtain⟨u,hu,_⟩:=drop_vt (l:=l) (k:=q) (by rw [HL.out];exact h1)
    obtain⟨b,off,rfl⟩:∃ b off,A=some ⟨b,off,none⟩:=by
     have h:=HR.out
     cases hll:l with
     |nil=>rw [hll] at hu;simp at hu
     |cons t0 l0=>rw [hll] at h;exact h.start
    obtain⟨eA,el,ec,c0,_,c2,_,_⟩:=HR.out.nth HCR.out hu
    have i1:(q:Int)<len:=by omega
    obtain⟨uk,huk⟩:∃ uk,u.kind=uk:=⟨_,rfl⟩
    obtain⟨us,hus⟩:∃ us,u.str=us:=⟨_,rfl⟩
    rw [huk] at c0
    rw [hus] at c2
    have HU:=kf hu
    have HUK:=kf huk
    have HUS:=kf hus
    clear hu huk hus
    by_cases h5:uk=5
    ·subst h5
     cases j with
     |zero =>
      obtain rfl:q=0:=HQ.out
      simp only [Nat.zero_mul,Nat.add_zero] at c0 c2
      have HNN:=kf (nmQ_one HN.out HU.out HUK.out)
      have d0:decide ((0:Int)<0)=false:=by decide
      go_upto_region 9 with fail
      go_quiet (fail)
      go_wp2_with fail
      go_roundw
      case rel=>exact⟨1,r,by have:=HLE.out;omega,rfl,by go_num,HCW.out.drewN nq,HNN.out⟩
      case measure=>simp [intOf];omega
     |succ m =>
      obtain⟨p,hp⟩:∃ p,p=2*m:=⟨_,rfl⟩
      have hqp:(q:Int)-2=(p:Int):=by have:=HQ.out;omega
      have hp3:p<len:=by have:=HQ.out;omega
      have HPP:=kf hp
      clear hp
      obtain⟨t,ht,_⟩:=drop_vt (l:=l) (k:=p) (by rw [HL.out];exact hp3)
      obtain⟨eA',el',ec',_,_,c2',_,_⟩:=HR.out.nth HCR.out ht
      have k1:IntKind.i64.wrap (p:Int)=(p:Int):=by rw [IntKind.wrap_i64];omega
      have k2:IntKind.i64.wrap ((q:Int)-2)=(p:Int):=by rw [hqp,k1]
      have i2:(p:Int)<len:=by omega
      have i3:(0:Int)<=(q:Int)-2:=by omega
      have i4:(q:Int)-2<len:=by omega
      have d0:decide ((0:Int)<(q:Int))=true:=by simp;omega
      have d0':decide (0<q)=true:=by simp;omega
      obtain⟨ts,hts⟩:∃ ts,t.str=ts:=⟨_,rfl⟩
      rw [hts] at c2'
      have HT:=kf ht
      have HTS:=kf hts
      clear ht hts
      by_cases hb:Op.bytesLess ts.toList us.toList=true
      ·have HNN:=kf (nmQ_up HN.out HPP.out HQ.out HT.out HU.out HUK.out (by rw [HTS.out,HUS.out];exact hb))
       go_upto_region 9 with fail
       go_quiet (fail)
       go_wp2_with fail
       go_roundw
       case rel=>exact⟨m+1+1,r,by have:=HLE.out;have:=HQ.out;omega,rfl,by have:=HQ.out;first|(go_num;done)|(go_num;omega),HCW.out.drewN nq,HNN.out⟩
       case measure=>simp [intOf];omega
      ·have hb2:Op.bytesLess ts.toList us.toList=false:=by simpa using hb
       have HNN:=kf (nmQ_no HN.out HPP.out HQ.out HT.out HU.out HUK.out (by rw [HTS.out,HUS.out];exact hb2))
       clear hb
       go_upto_region 9 with fail
       go_quiet (fail)
       go_wp2_with fail
       go_roundw
       case rel=>exact⟨m+1+1,16,by have:=HLE.out;have:=HQ.out;omega,rfl,by have:=HQ.out;first|(go_num;done)|(go_num;omega),HCW.out.drewN nq,HNN.out⟩
       case measure=>simp [intOf];omega
    ·have e5:(uk==5)=false:=by simpa using h5
     have e5':(uk != 5)=true:=by simpa using h5
     have HE:=kf (dict_arg (n:=0) (sz:=0) (l:=l) (.inr (.inr (.inr (fun h=>h5 (by rw [<- HUK.out];exact h j u (by rw [<- HQ.out];exact HU.out)))))))
     clear h5
     go_wp2_with fail
     go_ret
     exact⟨ret_v64 HE.out.symm,HCW.out⟩
   ·have HE:=kf (nmQ_end HN.out HEV.out (by rw [HL.out];have:=HQ.out;omega))
    have d1:decide ((q:Int)<len)=false:=by simp;omega
    have d1':decide (q<len)=false:=by simp;omega
    go_wp2_with fail
    go_ret
    exact⟨ret_v64 HE.out.symm,HCW.out⟩
 ·have e2:((r:Int)==0)=false:=by simpa using h2
  have e2':((r:Int) != 0)=true:=by simpa using h2
  have HE:=kf (dict_arg (n:=0) (sz:=0) (l:=l) (.inr (.inr (.inl (by rw [hl,hr2];exact h2)))))
  clear h2 hr2 hl hr
  go_enter Tryz.func82,Tryz.ntmps82
  go_wp2_with fail
  go_ret
  exact⟨ret_v64 HE.out.symm,Chg.refl _ _⟩
theorem has0_iff (s:ByteArray):(∀ d∈sl s,d≠0)↔Lib.indexByte s.data.toList 0=-1:=by
 have e1:sl s=s.data.toList.map UInt8.toNat:=rfl
 constructor
 ·intro h
  have hge:=Lib.indexByte_ge s.data.toList 0
  by_cases h2:Lib.indexByte s.data.toList 0=-1
  ·exact h2
  ·obtain⟨o,ho⟩:∃ o:Nat,Lib.indexByte s.data.toList 0=o:=⟨(Lib.indexByte s.data.toList 0).toNat,by omega⟩
   have h3:=(Lib.indexByte_some ho).1
   have h4:=List.mem_of_getElem? h3
   exact absurd rfl (h 0 (by rw [e1];exact List.mem_map.2 ⟨0,h4,rfl⟩))
 ·intro h d hd
  rw [e1] at hd
  obtain⟨x,hx,rfl⟩:=List.mem_map.1 hd
  obtain⟨k,hk⟩:=List.getElem?_of_mem hx
  intro h0
  have h3:x=0:=UInt8.toNat_inj.1 h0
  subst h3
  exact Lib.indexByte_none h k hk
theorem cont0_any (s:ByteArray) (w:World):Calls Tryz.prog 81 #[.string s,.string ⟨#[0]⟩] w fun e w'=>e=.returned (.bool (decide (¬∀ d∈sl s,d≠0)))/\w'=w:=by
 have HI:=kf (fun W=>Go.Proofs.Tryz.stringslite_Index_one s 0 W)
 have hge:=Lib.indexByte_ge s.data.toList 0
 obtain⟨z,hz⟩:∃ z,Lib.indexByte s.data.toList 0=z:=⟨_,rfl⟩
 have hd:decide (¬∀ d∈sl s,d≠0)=decide (0<=z):=by
  apply decide_eq_decide.2
  rw [has0_iff,hz]
  rw [hz] at hge
  omega
 rw [hz] at HI
 rw [hd]
 clear hz hge hd
 have HS:Hid (∀ W,Calls Tryz.prog 117 #[.string s,.string ⟨#[0]⟩] W fun e w'=>e=.returned (.int .i64 z)/\w'=W):=by
  show ∀ W,_
  intro W
  go_enter Tryz.func117,Tryz.ntmps117
  go_wp2_with (go_at_call 137;refine(HI.out _).mono ?_;rintro e w2 ⟨rfl,rfl⟩)
  go_ret
  exact⟨rfl,rfl⟩
 go_enter Tryz.func81,Tryz.ntmps81
 go_wp2_with (go_at_call 117;refine(HS.out _).mono ?_;rintro e w2 ⟨rfl,rfl⟩)
 go_ret
 exact⟨rfl,rfl⟩
theorem ret_vb {a b:Bool} (h:a=b):Ending.returned (.bool a)=.returned (.bool b):=by rw [h]
set_option maxHeartbeats 1000000 in
theorem rsame11_any (t t':VT) (c c':VC) (w:World) (hv:ValIs w t c) (hv':ValIs w t' c') :
  Calls Tryz.prog 18 #[c.val,c'.val] w fun e w'=>e=.returned (.bool (decide (cmpT t t'=0)))/\Chg NoS w w':=by
 have HC:=kf (fun W (h:ValIs W t c) (h':ValIs W t' c')=>rcmp_any t t' c c' W h h')
 have HV:=kf hv
 have HV':=kf hv'
 obtain⟨z,hz⟩:∃ z,cmpT t t'=z:=⟨_,rfl⟩
 rw [hz] at HC ⊢
 obtain⟨k,n,s,A,len,cap⟩:=c
 obtain⟨k',n',s',A',len',cap'⟩:=c'
 unfold VC.val at HC ⊢
 simp only [] at HC ⊢
 clear hv hv' hz
 have HB:=kf ((Blk.new w 24 #[.int .i64 k,.int .i64 n,.string s,.slice A len cap]).alloc (.cells #[.int .i64 k',.int .i64 n',.string s',.slice A' len' cap'] 24))
 have HB':=kf (Blk.new (w.alloc (.cells #[.int .i64 k,.int .i64 n,.string s,.slice A len cap] 24)) 24 #[.int .i64 k',.int .i64 n',.string s',.slice A' len' cap'])
 have hs1:(w.alloc (.cells #[.int .i64 k,.int .i64 n,.string s,.slice A len cap] 24)).heap.size=w.heap.size+1:=by simp
 rw [hs1] at HB'
 have HC0:=kf (((Chg.refl NoS w).alloc (.cells #[.int .i64 k,.int .i64 n,.string s,.slice A len cap] 24)).alloc (.cells #[.int .i64 k',.int .i64 n',.string s',.slice A' len' cap'] 24))
 by_cases h0:z=0
 ·subst h0
  go_enter Tryz.func18,Tryz.ntmps18
  go_upto_region 1 with fail
  obtain⟨W0,hW⟩:∃ W,W=((w.alloc (.cells #[.int .i64 k,.int .i64 n,.string s,.slice A len cap] 24)).alloc (.cells #[.int .i64 k',.int .i64 n',.string s',.slice A' len' cap'] 24)):=⟨_,rfl⟩
  rw [<- hW] at HB HB' HC0 ⊢
  clear hW hs1
  have p0:=HB.out.cell 0
  have p1:=HB.out.cell 1
  have p2:=HB.out.cell 2
  have p3:=HB.out.cell 3
  have q0:=HB'.out.cell 0
  have q1:=HB'.out.cell 1
  have q2:=HB'.out.cell 2
  have q3:=HB'.out.cell 3
  simp at p0 p1 p2 p3 q0 q1 q2 q3
  go_wp2_with (go_at_call 38;refine(HC.out _ (HV.out.chg HC0.out) (HV'.out.chg HC0.out)).mono ?_;rintro e w2 ⟨rfl,hc2⟩;have HC2:=kf (HC0.out.trans hc2 (fun _ _ e=>e));clear hc2)
  go_ret
  exact⟨rfl,HC2.out⟩
 ·have HD:=kf (show decide (z=0)=false from by simpa using h0)
  have e0:(z==0)=false:=by simpa using h0
  clear h0
  go_enter Tryz.func18,Tryz.ntmps18
  go_upto_region 1 with fail
  obtain⟨W0,hW⟩:∃ W,W=((w.alloc (.cells #[.int .i64 k,.int .i64 n,.string s,.slice A len cap] 24)).alloc (.cells #[.int .i64 k',.int .i64 n',.string s',.slice A' len' cap'] 24)):=⟨_,rfl⟩
  rw [<- hW] at HB HB' HC0 ⊢
  clear hW hs1
  have p0:=HB.out.cell 0
  have p1:=HB.out.cell 1
  have p2:=HB.out.cell 2
  have p3:=HB.out.cell 3
  have q0:=HB'.out.cell 0
  have q1:=HB'.out.cell 1
  have q2:=HB'.out.cell 2
  have q3:=HB'.out.cell 3
  simp at p0 p1 p2 p3 q0 q1 q2 q3
  go_wp2_with (go_at_call 38;refine(HC.out _ (HV.out.chg HC0.out) (HV'.out.chg HC0.out)).mono ?_;rintro e w2 ⟨rfl,hc2⟩;have HC2:=kf (HC0.out.trans hc2 (fun _ _ e=>e));clear hc2)
  go_ret
  exact⟨ret_vb HD.out.symm,HC2.out⟩
end Go.Proofs.YtcehpobjnbgpdaaGreatDoor
