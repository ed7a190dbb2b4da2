import Derived.Test.YtmibnkddappgiaaGreatDoorK00
import Derived.StillTailTactics
set_option linter.unusedVariables false
set_option maxHeartbeats 64000000
set_option maxRecDepth 100000
set_option linter.unusedSimpArgs false
namespace Go.Proofs.YtmibnkddappgiaaGreatDoor
open Go.RowKit
def z5w (k n:Int) (s:ByteArray) (k' n':Int) (s':ByteArray):Int :=
 if k<k' then -1 else if k≠k' then 1 else if n<n' then -1 else if n≠n' then 1 else if Op.bytesLess s.toList s'.toList then -1 else if s≠s' then 1 else 0
mutual
def z36:VT->VT->Int
 |.mk k n s l,.mk k' n' s' l'=>if z5w k n s k' n' s'≠0 then z5w k n s k' n' s' else z2m l l'
def z2m:List VT->List VT->Int
 |[],[]=>0
 |[],_::_=>-1
 |_::_,[]=>1
 |t::l,t'::l'=>if z36 t t'≠0 then z36 t t' else z2m l l'
end
theorem z5p (k n:Int) (s:ByteArray) (l:List VT) (k' n':Int) (s':ByteArray) (l':List VT):z36 (.mk k n s l) (.mk k' n' s' l')=if z5w k n s k' n' s'≠0 then z5w k n s k' n' s' else z2m l l':=by rw [z36]
theorem z4y (t t':VT) (l l':List VT):z2m (t::l) (t'::l')=if z36 t t'≠0 then z36 t t' else z2m l l':=by rw [z2m]
theorem z7n:∀ l:List UInt8,Op.bytesLess l l=false:=by
 intro l;induction l with
 |nil=>rfl
 |cons a l ih=>simp [Op.bytesLess,ih]
theorem z10 {s s':ByteArray} (h:s≠s'):¬s.toList=s'.toList:=by
 rw [ByteArray.toList_eq,ByteArray.toList_eq];intro e;obtain⟨d⟩:=s;obtain⟨d'⟩:=s';exact h (congrArg ByteArray.mk (Array.ext' e))
theorem z2r {k n k' n':Int} {s s':ByteArray} {l l':List VT} {x:Int} (h:z5w k n s k' n' s'=x) (hx:x≠0):z36 (.mk k n s l) (.mk k' n' s' l')=x:=by rw [z5p,h,if_pos hx]
theorem v3x:∀ (N:Nat) (t:VT),z1h t<=N->∀ (t':VT) (c c':VC) (w:World),ValIs w t c->ValIs w t' c' ->
  Calls Tryz.prog 43 #[c.val,c'.val] w fun e w'=>e=.returned (.int .i64 (z36 t t'))/\Chg NoS w w':=by
 intro N;induction N with
 |zero =>
  intro t ht;obtain⟨k,n,s,l⟩:=t;rw [z0f] at ht;omega
 |succ N ih =>
  intro t ht t' c c' w hv hv';obtain⟨tk,tn,ts,l⟩:=t;obtain⟨tk',tn',ts',l'⟩:=t';obtain⟨h1,h2,h3,hg,hl,hr⟩:=hv.inv;obtain⟨h1',h2',h3',hg',hl',hr'⟩:=hv'.inv;obtain⟨k,n,s,A,len,cap⟩:=c;obtain⟨k',n',s',A',len',cap'⟩:=c';simp only [] at h1 h2 h3 hl hr h1' h2' h3' hl' hr';subst h1 h2 h3 h1' h2' h3';rw [z0f] at ht;have hcap:=hg.cap;have hlm:=hg.len;have hcap':=hg'.cap;have hlm':=hg'.len;simp only [] at hcap hlm hcap' hlm';unfold maxLen at hlm hlm';unfold VC.val;simp only [];by_cases hk:k<k'
  ·have HD:=kf (z2r (l:=l) (l':=l') (show z5w k n s k' n' s'=-1 from by unfold z5w;rw [if_pos hk]) (by decide));have d1:decide (k<k')=true:=by simpa using hk
   clear hv hv' hg hg' hl hl' hr hr' ih ht hk;go_enter Tryz.func43,Tryz.ntmps43;go_wp2_with fail;go_ret;exact⟨z00 (by rw [HD.out]),((Chg.refl NoS w).alloc _).alloc _⟩
  have d1:decide (k<k')=false:=by simpa using hk
  by_cases hk2:k=k'
  ·subst hk2;by_cases hn:n<n'
   ·have HD:=kf (z2r (l:=l) (l':=l') (show z5w k n s k n' s'=-1 from by unfold z5w;rw [if_neg hk,if_neg (by simp),if_pos hn]) (by decide));have d2:decide (n<n')=true:=by simpa using hn
    clear hv hv' hg hg' hl hl' hr hr' ih ht hk hn;go_enter Tryz.func43,Tryz.ntmps43;go_wp2_with fail;go_ret;exact⟨z00 (by rw [HD.out]),((Chg.refl NoS w).alloc _).alloc _⟩
   have d2:decide (n<n')=false:=by simpa using hn
   by_cases hn2:n=n'
   ·subst hn2;cases hs:Op.bytesLess s.toList s'.toList with
    |true =>
     have HD:=kf (z2r (l:=l) (l':=l') (show z5w k n s k n s'=-1 from by unfold z5w;rw [if_neg hk,if_neg (by simp),if_neg hn,if_neg (by simp),if_pos hs]) (by decide));clear hv hv' hg hg' hl hl' hr hr' ih ht hk hn;go_enter Tryz.func43,Tryz.ntmps43;go_wp2_with fail;go_ret;exact⟨z00 (by rw [HD.out]),((Chg.refl NoS w).alloc _).alloc _⟩
    |false =>
     by_cases hs2:s=s'
     ·subst hs2;have HH:=kf (show z5w k n s k n s=0 from by unfold z5w;rw [if_neg hk,if_neg (by simp),if_neg hn,if_neg (by simp),if_neg (by rw [hs];decide),if_neg (by simp)]);have HD:=kf (show z36 (.mk k n s l) (.mk k n s l')=z2m l l' from by rw [z5p,HH.out,if_neg (by simp)]);have HL:=kf hl;have HL':=kf hl';have HR:=kf hr;have HR':=kf hr';have HIH:=kf (fun(t:VT) (ht':z1h t<=z1n l)=>ih t (by omega));have HB:=kf ((Blk.new w 24 #[.int .i64 k,.int .i64 n,.string s,.slice A len cap]).alloc (.cells #[.int .i64 k,.int .i64 n,.string s,.slice A' len' cap'] 24));have hb2:=Blk.new (w.alloc (.cells #[.int .i64 k,.int .i64 n,.string s,.slice A len cap] 24)) 24 #[.int .i64 k,.int .i64 n,.string s,.slice A' len' cap'];rw [World.size_alloc] at hb2;have HB':=kf hb2;have HC0:=kf (((Chg.refl NoS w).alloc (.cells #[.int .i64 k,.int .i64 n,.string s,.slice A len cap] 24)).alloc (.cells #[.int .i64 k,.int .i64 n,.string s,.slice A' len' cap'] 24));obtain⟨W0,hW⟩:∃ W0,W0=(w.alloc (.cells #[.int .i64 k,.int .i64 n,.string s,.slice A len cap] 24)).alloc (.cells #[.int .i64 k,.int .i64 n,.string s,.slice A' len' cap'] 24):=⟨_,rfl⟩
      obtain⟨g,hgg⟩:∃ g,g=w.heap.size:=⟨_,rfl⟩
      rw [<- hW] at HB HB' HC0;rw [<- hgg] at HB HB';clear hv hv' hg hg' hl hl' hr hr' ih ht hk hn hb2;go_enter Tryz.func43,Tryz.ntmps43;go_upto_region 6 with fail;rw [<- hgg,<- hW];clear hgg hW;go_loopw [5] (fun vj wr=>∃ j:Nat,j<=len/\j<=len'/\vj=.int .i64 (j:Nat)/\Hid (Chg NoS W0 wr)/\Hid (RowIs w A j (l.drop j))/\Hid (RowIs w A' j (l'.drop j))/\Hid (z2m l l'=z2m (l.drop j) (l'.drop j))) (fun vj _=>len-(intOf vj).toNat)
      case atStart=>exact⟨0,by omega,by omega,rfl,Chg.refl _ _,by rw [List.drop_zero];exact HR.out,by rw [List.drop_zero];exact HR'.out,kf (by rw [List.drop_zero,List.drop_zero])⟩
      case round =>
       obtain⟨j,hj,hj',rfl,HCW,HRW,HRW',HFW⟩:=hrel;have HBW:=kf (HB.out.chg HCW.out (fun e=>e));have HBW':=kf (HB'.out.chg HCW.out (fun e=>e));have HCR:=kf (HC0.out.trans HCW.out (fun _ _ e=>e));have q3:=HBW.out.cell 3;have p3:=HBW'.out.cell 3;simp at q3 p3;by_cases h1:j<len
       ·by_cases h2:j<len'
        ·obtain⟨u,hu,hd⟩:=z0s (l:=l) (k:=j) (by rw [HL.out];exact h1);obtain⟨u',hu',hd'⟩:=z0s (l:=l') (k:=j) (by rw [HL'.out];exact h2)
         obtain⟨b,off,rfl⟩:∃ b off,A=some ⟨b,off,none⟩:=by
          have h:=HR.out;cases hll:l with
          |nil=>rw [hll] at hu;simp at hu
          |cons t0 l0=>rw [hll] at h;exact h.start
         obtain⟨b',off',rfl⟩:∃ b off,A'=some ⟨b,off,none⟩:=by
          have h:=HR'.out;cases hll:l' with
          |nil=>rw [hll] at hu';simp at hu'
          |cons t0 l0=>rw [hll] at h;exact h.start
         have hrw:=HRW.out;have hrw':=HRW'.out;rw [hd] at hrw;rw [hd'] at hrw';obtain⟨ek,en,es,eA,el,ec,c0,c1,c2,c3,hve,hre⟩:=hrw.at_ HCR.out;obtain⟨fk,fn,fs,fA,fl,fc,x0,x1,x2,x3,hvf,hrf⟩:=hrw'.at_ HCR.out;have HX:=kf (fun(W:World) (h:Chg NoS wr W)=>HIH.out u (z2u hu) u' ⟨ek,en,es,eA,el,ec⟩ ⟨fk,fn,fs,fA,fl,fc⟩ W (hve.chg h) (hvf.chg h));unfold VC.val at HX;simp only [] at HX;have HRN:=kf hre;have HRN':=kf hrf;have HFN:=kf (show z2m l l'=if z36 u u'≠0 then z36 u u' else z2m (l.drop (j+1)) (l'.drop (j+1)) from by rw [HFW.out,hd,hd',z4y]);obtain⟨r,hr9⟩:∃ r,r=z36 u u':=⟨_,rfl⟩
         rw [<- hr9] at HX HFN;have i1:(j:Int)<len:=by omega
         have i2:(j:Int)<len':=by omega
         clear hrw hrw' hve hvf hre hrf hd hd' hu hu' hr9;go_upto_region 8 with fail;refine wp_region_still_tail 10 (by kernel_rfl) (by kernel_rfl) ?_;simp only [List.take_succ_cons,List.take_zero,List.drop_succ_cons,List.drop_zero];change wpStill _ _ wr.drew _ _ _;repeat still_step
         refine wpStill_nil ?_;change wpList _ _ _ _ _ wr.drew;by_cases hr0:r=0
         ·subst hr0;have HFM:=kf (show z2m l l'=z2m (l.drop (j+1)) (l'.drop (j+1)) from by rw [HFN.out,if_neg (by simp)]);go_wp2_with (go_at_call 43;refine(HX.out _ (Chg.refl NoS wr).drew).mono ?_;rintro e w3 ⟨rfl,hc3⟩;have HC3:=kf ((HCW.out.drew).trans hc3 (fun _ _ e=>e));clear hc3);go_roundw
          case rel=>exact⟨j+1,by omega,by omega,by go_num,HC3,HRN,HRN',HFM⟩
          case measure=>simp [intOf];omega
         ·have HFM:=kf (show z2m l l'=r from by rw [HFN.out,if_pos hr0]);have v2:(r != 0)=true:=by simpa using hr0
          have v3:(r==0)=false:=by simpa using hr0
          clear hr0;go_wp2_with (go_at_call 43;refine(HX.out _ (Chg.refl NoS wr).drew).mono ?_;rintro e w3 ⟨rfl,hc3⟩;have HC3:=kf (((HCR.out).drew).trans hc3 (fun _ _ e=>e));clear hc3);go_ret;exact⟨z00 (by rw [HD.out,HFM.out]),HC3.out⟩
        ·obtain⟨u,hu,hd⟩:=z0s (l:=l) (k:=j) (by rw [HL.out];exact h1);have hz1:l'.drop j=[]:=List.drop_of_length_le (by rw [HL'.out];omega);have HE:=kf (show z2m l l'=1 from by rw [HFW.out,hd,hz1,z2m]);clear hz1;obtain rfl:j=len':=by omega
         have d5:decide ((len:Int)<(j:Int))=false:=by simp;omega
         have d6:decide ((j:Int)<(len:Int))=true:=by simp;omega
         have d7:decide (len<j)=false:=by simp;omega
         have d8:decide (j<len)=true:=by simp;omega
         clear hd hu h2;go_wp2_with fail;go_ret;exact⟨z00 (by rw [HD.out,HE.out]),HCR.out⟩
       ·obtain rfl:j=len:=by omega
        by_cases h2:j<len'
        ·obtain⟨u',hu',hd'⟩:=z0s (l:=l') (k:=j) (by rw [HL'.out];exact h2);have hz1:l.drop j=[]:=List.drop_of_length_le (Nat.le_of_eq HL.out);have HE:=kf (show z2m l l'=-1 from by rw [HFW.out,hd',hz1,z2m]);clear hz1;have d5:decide ((j:Int)<(len':Int))=true:=by simp;omega
         have d6:decide (j<len')=true:=by simp;omega
         clear hd' hu';go_wp2_with fail;go_ret;exact⟨z00 (by rw [HD.out,HE.out]),HCR.out⟩
        ·obtain rfl:j=len':=by omega
         have hz1:l.drop j=[]:=List.drop_of_length_le (Nat.le_of_eq HL.out);have hz2:l'.drop j=[]:=List.drop_of_length_le (Nat.le_of_eq HL'.out);have HE:=kf (show z2m l l'=0 from by rw [HFW.out,hz1,hz2,z2m]);clear hz1 hz2;go_wp2_with fail;go_ret;exact⟨z00 (by rw [HD.out,HE.out]),HCR.out⟩
     ·have HD:=kf (z2r (l:=l) (l':=l') (show z5w k n s k n s'=1 from by unfold z5w;rw [if_neg hk,if_neg (by simp),if_neg hn,if_neg (by simp),if_neg (by rw [hs];decide),if_pos hs2]) (by decide));have hs3:¬s.toList=s'.toList:=z10 hs2;have hs4:(s.toList==s'.toList)=false:=by simpa using hs3
      clear hv hv' hg hg' hl hl' hr hr' ih ht hk hn hs2;go_enter Tryz.func43,Tryz.ntmps43;go_wp2_with fail;go_ret;exact⟨z00 (by rw [HD.out]),((Chg.refl NoS w).alloc _).alloc _⟩
   ·have HD:=kf (z2r (l:=l) (l':=l') (show z5w k n s k n' s'=1 from by unfold z5w;rw [if_neg hk,if_neg (by simp),if_neg hn,if_pos hn2]) (by decide));have e2:(n==n')=false:=by simpa using hn2
    have e3:(n != n')=true:=by simpa using hn2
    clear hv hv' hg hg' hl hl' hr hr' ih ht hk hn hn2;go_enter Tryz.func43,Tryz.ntmps43;go_wp2_with fail;go_ret;exact⟨z00 (by rw [HD.out]),((Chg.refl NoS w).alloc _).alloc _⟩
  ·have HD:=kf (z2r (l:=l) (l':=l') (show z5w k n s k' n' s'=1 from by unfold z5w;rw [if_neg hk,if_pos hk2]) (by decide));have e2:(k==k')=false:=by simpa using hk2
   have e3:(k != k')=true:=by simpa using hk2
   clear hv hv' hg hg' hl hl' hr hr' ih ht hk hk2;go_enter Tryz.func43,Tryz.ntmps43;go_wp2_with fail;go_ret;exact⟨z00 (by rw [HD.out]),((Chg.refl NoS w).alloc _).alloc _⟩
theorem y9n (t t':VT) (c c':VC) (w:World) (hv:ValIs w t c) (hv':ValIs w t' c') :
  Calls Tryz.prog 43 #[c.val,c'.val] w fun e w'=>e=.returned (.int .i64 (z36 t t'))/\Chg NoS w w':=v3x _ t (Nat.le_refl _) t' c c' w hv hv'
def z9c (a b:Int):Int:=if a<b then -1 else if a≠b then 1 else 0
def z5v (a b:ByteArray):Int:=if Op.bytesLess a.toList b.toList then -1 else if a≠b then 1 else 0
theorem y0z (a b:Int):z9c b a=0-z9c a b:=by unfold z9c;split<;>split<;>(try split)<;>omega
theorem z2o {a b:ByteArray} (h:a.toList=b.toList):a=b:=by
 by_cases e:a=b
 ·exact e
 ·exact absurd h (z10 e)
theorem z9a (a b:ByteArray):z5v a b=-1↔a.toList<b.toList:=by
 unfold z5v;rw [Go.Proofs.bytesLess_eq];by_cases h:a.toList<b.toList
 ·simp [h]
 ·simp only [h,decide_false,Bool.false_eq_true,if_false,iff_false];split<;>simp
theorem z9b (a b:ByteArray):z5v a b=0↔a=b:=by
 unfold z5v;rw [Go.Proofs.bytesLess_eq];by_cases e:a=b
 ·subst e;simp [List.lt_irrefl]
 ·simp only [e,ne_eq,not_false_eq_true,if_true,iff_false];split<;>simp
theorem y3k (a b:ByteArray):z5v a b=-1\/z5v a b=0\/z5v a b=1:=by unfold z5v;split<;>(try split)<;>simp
theorem y88 (a b:ByteArray):z5v a b=1↔b.toList<a.toList:=by
 constructor
 ·intro h;have h1:¬a.toList<b.toList:=fun e=>by rw [(z9a a b).2 e] at h;cases h
  have h2:a≠b:=fun e=>by rw [(z9b a b).2 e] at h;cases h
  rcases Classical.em (b.toList<a.toList) with h3|h3
  ·exact h3
  ·exact absurd (z2o (List.le_antisymm (List.not_lt.1 h3) (List.not_lt.1 h1))) h2
 ·intro h;rcases y3k a b with e|e|e
  ·exact absurd ((z9a a b).1 e) (List.lt_asymm h)
  ·rw [(z9b a b).1 e] at h;exact absurd h (List.lt_irrefl _)
  ·exact e
theorem y87 (a b:ByteArray):z5v b a=0-z5v a b:=by
 rcases y3k a b with e|e|e
 ·rw [e,(y88 b a).2 ((z9a a b).1 e)];rfl
 ·rw [e,(z9b b a).2 ((z9b a b).1 e).symm];rfl
 ·rw [e,(z9a b a).2 ((y88 a b).1 e)];rfl
theorem y8b (k n:Int) (s:ByteArray) (k' n':Int) (s':ByteArray):z5w k n s k' n' s'=if z9c k k'≠0 then z9c k k' else if z9c n n'≠0 then z9c n n' else z5v s s':=by
 unfold z5w z9c z5v;by_cases h1:k<k'
 ·simp [h1]
 ·by_cases h2:k=k'
  ·by_cases h3:n<n'
   ·simp [h1,h2,h3]
   ·by_cases h4:n=n'
    ·simp [h2,h4]
    ·simp [h2,h3,h4]
  ·simp [h1,h2]
def v9k (n:Int) (s:ByteArray) (n':Int) (s':ByteArray):Int:=if z9c n n'≠0 then z9c n n' else z5v s s'
theorem z69 {f g f' g':Int} (hf:f'=0-f) (hg:g'=0-g):(if f'≠0 then f' else g')=0-(if f≠0 then f else g):=by
 by_cases h:f=0
 ·have n1:¬f≠0:=fun e=>e h;have n2:¬f'≠0:=fun e=>e (by omega);rw [if_neg n1,if_neg n2,hg]
 ·have p2:f'≠0:=by omega
  rw [if_pos h,if_pos p2,hf]
theorem y3l (k n:Int) (s:ByteArray) (k' n':Int) (s':ByteArray):z5w k n s k' n' s'=if z9c k k'≠0 then z9c k k' else v9k n s n' s':=y8b k n s k' n' s'
theorem y8a (k n:Int) (s:ByteArray) (k' n':Int) (s':ByteArray):z5w k' n' s' k n s=0-z5w k n s k' n' s':=by
 rw [y3l,y3l];exact z69 (y0z k k') (z69 (y0z n n') (y87 s s'))
mutual
theorem y0x:∀ (a b:VT),z36 b a=0-z36 a b
 |.mk k n s l,.mk k' n' s' l'=>by
  rw [z5p,z5p];exact z69 (y8a _ _ _ _ _ _) (y0y l l')
theorem y0y:∀ (l l':List VT),z2m l' l=0-z2m l l'
 |[],[]=>by rw [z2m];rfl
 |[],_::_=>by rw [z2m,z2m];rfl
 |_::_,[]=>by rw [z2m,z2m];rfl
 |t::l,t'::l'=>by
  rw [z4y,z4y];exact z69 (y0x t t') (y0y l l')
end
theorem y86 (a:VT):z36 a a=0:=by have:=y0x a a;omega
end Go.Proofs.YtmibnkddappgiaaGreatDoor
