import Derived.Test.YtmibnkddappgiaaGreatDoorK10
import Derived.Test.YtmibnkddappgiaaGreatDoorK15
import Derived.Test.YtmibnkddappgiaaGreatDoorK16
set_option linter.unusedVariables false
set_option maxHeartbeats 64000000
set_option maxRecDepth 100000
set_option linter.unusedSimpArgs false
namespace Go.Proofs.YtmibnkddappgiaaGreatDoor.PS
open Go.RowKit
def BlkS (key:Int->Int) (d:List Int) (z lo hi:Nat):Prop:=∀ p q,lo<=p->p<q->q<hi->p / z=q / z->key (d.getD p 0)<=key (d.getD q 0)
theorem y8e {z c p:Nat} (h1:c*z<=p) (h2:p<c*z+z):p / z=c:=Nat.div_eq_of_lt_le h1 (by rw [Nat.succ_mul];exact h2)
theorem v8h {z p c:Nat} (h:p / z=c):c*z<=p:=by subst h;exact Nat.div_mul_le_self p z
theorem BlkS.sorted {key:Int->Int} {d:List Int} {z lo hi a b c:Nat} (h:BlkS key d z lo hi) (ha:a=c*z) (h1:lo<=a) (h2:b<=hi) (h3:b<=a+z):Sorted key d a b:=by
 intro p q hp hpq hq;subst ha;exact h p q (by omega) hpq (by omega) ((y8e hp (by omega)).trans (y8e (by omega) (by omega)).symm)
theorem BlkS.step {key:Int->Int} {d d3:List Int} {zz a b c:Nat} (h:BlkS key d zz 0 a) (ha:a=c*zz) (hb:b<=a+zz) (hs:Same d d3 a b) (hq:Sorted key d3 a b):BlkS key d3 zz 0 b:=by
 intro p q _ hpq hqb he;by_cases h1:q<a
 ·rw [hs.out p (by omega),hs.out q (by omega)];exact h p q (Nat.zero_le _) hpq h1 he
 ·have h2:q / zz=c:=y8e (by omega) (by omega);have h3:=v8h (he.trans h2);exact hq p q (by omega) hpq hqb
theorem BlkS.rest {key:Int->Int} {d d3:List Int} {z a b N:Nat} (h:BlkS key d z a N) (hab:a<=b) (hs:Same d d3 a b):BlkS key d3 z b N:=by
 intro p q hp hpq hqN he;rw [hs.out p (by omega),hs.out q (by omega)];exact h p q (by omega) hpq hqN he
theorem BlkS.whole {key:Int->Int} {d:List Int} {z N:Nat} (h:BlkS key d z 0 N) (hz:N<=z):Sorted key d 0 N:=by
 intro p q _ hpq hq;exact h p q (Nat.zero_le _) hpq hq (by rw [Nat.div_eq_of_lt (by omega),Nat.div_eq_of_lt (by omega)])
theorem y40 [PAd] (g:Nat) (lb:Array Value) (eg:∀ args w,(callFunc g args).run Tryz.prog w=.ok (.enter g args) w) (key0 key:Int->Int) (NN:Int) (hkk:key=kk key0 NN) (gs cap:Nat) (w0:World) (hcmp:CmpOf g lb key0 NN gs w0)
  (d:List Int) (w:World) (hL:d.length<=500000) (hR:Row w gs cap d) (hG:Good NN d) (hst:InTurn key0 d) (hch:Chg (fun i=>i=gs) w0 w) :
  Calls Tryz.prog 55 #[.slice (some ⟨gs,0,none⟩) d.length cap,.int .i64 d.length,.func (.func g) #[] lb] w (z4z w gs cap d 0 d.length (fun d'=>Sorted key d' 0 d.length)):=by
 have HR:=kf hR;have HG:=kf hG;have HCH:=kf hch;have HST:=kf hst;clear hR hG hch hst;obtain⟨N,hN⟩:∃ N,N=d.length:=⟨_,rfl⟩
 have HN:=kf hN;rw [<- hN] at hL ⊢
 have HINS:Hid (∀ (a b:Nat) (d1:List Int) (W:World),a<=b->b<=N->d1.length=N->Row W gs cap d1->Good NN d1->InTurn key0 d1->Chg (fun i=>i=gs) w0 W ->
   Calls Tryz.prog 80 #[.slice (some ⟨gs,0,none⟩) N cap,.int .i64 a,.int .i64 b,.func (.func g) #[] lb] W (z4z W gs cap d1 a b (fun d'=>Sorted key d' a b/\InTurn key0 d'))):=by
  intro a b d1 W h1 h2 h3 h4 h5 h5s h6;subst h3;refine(v4x g lb eg key0 key NN hkk gs cap w0 hcmp a b d1 W h1 h2 (by omega) h4 h5 h5s h6).mono ?_;rintro e w3 ⟨rfl,d3,hr3,hs3,hq3,hc3⟩;exact⟨rfl,d3,hr3,hs3,⟨hq3,h5s.same hkk hs3 h2 (h5.same hs3).get hq3⟩,hc3⟩
 have HSYM:Hid (∀ (a m b:Nat) (d1:List Int) (W:World),a<m->m<b->b<=N->d1.length=N->Row W gs cap d1->Good NN d1->Sorted key d1 a m->Sorted key d1 m b->InTurn key0 d1->Chg (fun i=>i=gs) w0 W ->
   Calls Tryz.prog 81 #[.slice (some ⟨gs,0,none⟩) N cap,.int .i64 a,.int .i64 m,.int .i64 b,.func (.func g) #[] lb] W (z4z W gs cap d1 a b (fun d'=>Sorted key d' a b/\InTurn key0 d'))):=by
  intro a m b d1 W h1 h2 h3 h4 h5 h6 h7 h8 h8s h9;subst h4;refine(z9n g lb eg key0 key NN hkk gs cap w0 hcmp (b-a) a m b d1 W (Nat.le_refl _) h1 h2 h3 (by omega) h5 h6 h7 h8 h8s h9).mono ?_;rintro e w3 ⟨rfl,d3,hr3,hs3,hq3,hc3⟩;exact⟨rfl,d3,hr3,hs3,⟨hq3,h8s.same hkk hs3 h3 (h6.same hs3).get hq3⟩,hc3⟩
 clear hN;go_enter Tryz.func55,Tryz.ntmps55;go_wp2_with fail;go_loopw [7,8] (fun va vb wr=>∃ A:Nat,∃ d1:List Int,A<=N/\va=.int .i64 A/\vb=.int .i64 (A+20:Nat)/\d1.length=N/\Row wr gs cap d1/\Hid (Same d d1 0 N)/\Hid (∃ c,A=c*20)/\Hid (BlkS key d1 20 0 A/\InTurn key0 d1)/\Chg (fun i=>i=gs) w wr) (fun va _ _=>N+1-(intOf va).toNat)
 case atStart=>exact⟨0,d,by omega,by go_num,by go_num,HN.out.symm,HR.out,Same.refl _ _ _,⟨0,rfl⟩,⟨fun p q _ _ h=>absurd h (by omega),HST.out⟩,Chg.refl _ _⟩
 case round =>
  obtain⟨A,d1,hA,rfl,rfl,hl1,hRw,hSm,hAc,hSo,hcg⟩:=hrel;have HRw:=kf hRw;have HCw:=kf hcg;clear hRw hcg;obtain⟨B,hB⟩:∃ B,B=A+20:=⟨_,rfl⟩
  have HB:=kf hB;rw [<- hB];by_cases hlt:B<=N
  ·have HI:=kf (HINS.out A B d1 wr (by omega) hlt hl1 HRw.out (HG.out.same hSm.out) hSo.out.2 (HCH.out.trans HCw.out (fun _ _ h=>h)));have hlt':(B:Int)<=N:=by omega
   clear hB;go_wp2_with (go_at_call 80;refine HI.out.mono ?_;rintro e w3 ⟨rfl,d3,hr3,hs3,hq3,hc3⟩;have HR3:=kf hr3;have HS3:=kf hs3;have HQ3:=kf hq3;have HC3:=kf hc3;clear hr3 hs3 hq3 hc3);go_roundw
   case rel =>
    refine⟨B,d3,hlt,rfl,by go_num,by rw [HS3.out.len];exact hl1,HR3.out,hSm.out.trans (HS3.out.wide (Nat.zero_le _) hlt),?_,?_,HCw.out.trans HC3.out (fun _ _ h=>h)⟩
    ·obtain⟨c,hc⟩:=hAc.out;have:=HB.out;exact⟨c+1,by omega⟩
    ·obtain⟨c,hc⟩:=hAc.out;exact⟨hSo.out.1.step hc (by have:=HB.out;omega) HS3.out HQ3.out.1,HQ3.out.2⟩
   case measure=>simp [intOf];have:=HB.out;omega
  ·have HI:=kf (HINS.out A N d1 wr hA (Nat.le_refl _) hl1 HRw.out (HG.out.same hSm.out) hSo.out.2 (HCH.out.trans HCw.out (fun _ _ h=>h)));have hlt':decide ((B:Int)<=N)=false:=by simp;omega
   have HLT:=kf hlt;clear hB hlt;go_wp2_with (go_at_call 80;refine HI.out.mono ?_;rintro e w3 ⟨rfl,d3,hr3,hs3,hq3,hc3⟩;have HR3:=kf hr3;have HS3:=kf (hSm.out.trans (hs3.wide (Nat.zero_le _) (Nat.le_refl _)));have HQ3:=kf (show BlkS key d3 20 0 N/\InTurn key0 d3 by(obtain⟨c,hcc⟩:=hAc.out;exact⟨hSo.out.1.step hcc (by have:=HB.out;have:=HLT.out;omega) hs3 hq3.1,hq3.2⟩));have HC3:=kf (HCw.out.trans hc3 (fun _ _ h=>h));have hl3:d3.length=N:=(by rw [hs3.len];exact hl1);clear hr3 hs3 hq3 hc3);go_loopw [6] (fun vz wr2=>∃ z:Nat,∃ d4:List Int,0<z/\z<=1000000/\vz=.int .i64 z/\d4.length=N/\Row wr2 gs cap d4/\Hid (Same d d4 0 N)/\Hid (BlkS key d4 z 0 N/\InTurn key0 d4)/\Chg (fun i=>i=gs) w wr2) (fun vz _=>N-(intOf vz).toNat)
   case atStart=>exact⟨20,d3,by omega,by omega,by go_num,hl3,HR3.out,HS3.out,HQ3.out,HC3.out⟩
   case round =>
    obtain⟨z,d4,hz0,hz2,rfl,hl4,hR4,hS4,hQ4,hc4⟩:=hrel;have HR4:=kf hR4;have HC4:=kf hc4;clear hR4 hc4;by_cases hzN:z<N
    ·have hzN':(z:Int)<N:=by omega
     obtain⟨zz,hzz⟩:∃ zz,zz=2*z:=⟨_,rfl⟩
     have ezz:((2:Int)*z)=(zz:Int):=by omega
     have HZZ:=kf hzz;clear hzz;go_wp2_with fail;go_loopw [7,8] (fun va vb wr3=>∃ A B:Nat,∃ d5:List Int,A<=N/\B<=2000000/\va=.int .i64 A/\vb=.int .i64 B/\d5.length=N/\Row wr3 gs cap d5/\Hid (B=A+zz)/\Hid (Same d d5 0 N)/\Hid (∃ c,A=c*zz)/\Hid (BlkS key d5 zz 0 A/\InTurn key0 d5)/\Hid (BlkS key d5 z A N)/\Chg (fun i=>i=gs) w wr3) (fun va _ _=>N+1-(intOf va).toNat)
     case atStart=>exact⟨0,zz,d4,by omega,by have:=HZZ.out;omega,by go_num,by go_num,hl4,HR4.out,(by show zz=_;omega),hS4.out,⟨0,by omega⟩,⟨fun p q _ _ h=>absurd h (by omega),hQ4.out.2⟩,hQ4.out.1,HC4.out⟩
     case round =>
      obtain⟨A2,B2,d5,hA2,hB2,rfl,rfl,hl5,hR5,hBB,hS5,hAc2,hP5,hQ5,hc5⟩:=hrel;have HR5:=kf hR5;have HC5:=kf hc5;clear hR5 hc5;obtain⟨M2,hM2⟩:∃ M2,M2=A2+z:=⟨_,rfl⟩
      have eM2:((A2:Int)+z)=(M2:Int):=by omega
      have hs1:Sorted key d5 A2 (min M2 N):=by
       obtain⟨c,hc⟩:=hAc2.out;have hz:=HZZ.out;exact hQ5.out.sorted (c:=c*2) (by rw [hc,hz,Nat.mul_assoc]) (Nat.le_refl _) (by omega) (by omega)
      have hs2:∀ b,b<=N->b<=M2+z->Sorted key d5 M2 b:=by
       intro b h1 h2;obtain⟨c,hc⟩:=hAc2.out;have hz:=HZZ.out;exact hQ5.out.sorted (c:=c*2+1) (by rw [hM2,hc,hz,Nat.add_mul,Nat.mul_assoc,Nat.one_mul]) (by omega) h1 h2
      have HS1:=kf hs1;have HS2:=kf hs2;have HM2:=kf hM2;clear hs1 hs2 hM2;by_cases hlt2:B2<=N
      ·have HI2:=kf (HSYM.out A2 M2 B2 d5 wr (by have:=HM2.out;omega) (by have:=HM2.out;have:=hBB.out;have:=HZZ.out;omega) hlt2 hl5 HR5.out (HG.out.same hS5.out) (by have h1:=HS1.out;rw [Nat.min_eq_left (by have:=HM2.out;have:=hBB.out;have:=HZZ.out;omega)] at h1;exact h1) (HS2.out B2 hlt2 (by have:=HM2.out;have:=hBB.out;have:=HZZ.out;omega)) hP5.out.2 (HCH.out.trans HC5.out (fun _ _ h=>h)));have hlt2':(B2:Int)<=N:=by omega
       go_wp2_with (go_at_call 81;refine HI2.out.mono ?_;rintro e w6 ⟨rfl,d6,hr6,hs6,hq6,hc6⟩;have HR6:=kf hr6;have HS6:=kf hs6;have HQ6:=kf hq6;have HC6:=kf hc6;clear hr6 hs6 hq6 hc6);go_roundw
       case rel =>
        have hz:=HZZ.out;have hbb:=hBB.out;refine⟨B2,B2+zz,d6,hlt2,by omega,rfl,by go_num,by rw [HS6.out.len];exact hl5,HR6.out,rfl,hS5.out.trans (HS6.out.wide (Nat.zero_le _) hlt2),?_,?_,hQ5.out.rest (by omega) HS6.out,HC5.out.trans HC6.out (fun _ _ h=>h)⟩
        ·obtain⟨c,hc⟩:=hAc2.out;exact⟨c+1,by rw [Nat.succ_mul,<- hc];exact hbb⟩
        ·obtain⟨c,hc⟩:=hAc2.out;exact⟨hP5.out.1.step hc (by omega) HS6.out HQ6.out.1,HQ6.out.2⟩
       case measure=>simp [intOf];have:=hBB.out;have:=HZZ.out;omega
      ·have hlt2':decide ((B2:Int)<=N)=false:=by simp;omega
       by_cases hm:M2<N
       ·have hm':(M2:Int)<N:=by omega
        have HI2:=kf (HSYM.out A2 M2 N d5 wr (by have:=HM2.out;omega) hm (Nat.le_refl _) hl5 HR5.out (HG.out.same hS5.out) (by have h1:=HS1.out;rw [Nat.min_eq_left (by omega)] at h1;exact h1) (HS2.out N (Nat.le_refl _) (by have:=HM2.out;have:=hBB.out;have:=HZZ.out;omega)) hP5.out.2 (HCH.out.trans HC5.out (fun _ _ h=>h)));go_wp2_with (go_at_call 81;refine HI2.out.mono ?_;rintro e w6 ⟨rfl,d6,hr6,hs6,hq6,hc6⟩;have HR6:=kf hr6;have HS6:=kf hs6;have HQ6:=kf hq6;have HC6:=kf hc6;clear hr6 hs6 hq6 hc6);go_roundw
        case rel =>
         have hz:=HZZ.out;have hbb:=hBB.out;refine⟨zz,d6,by omega,by omega,by go_num,by rw [HS6.out.len];exact hl5,HR6.out,hS5.out.trans (HS6.out.wide (Nat.zero_le _) (Nat.le_refl _)),?_,HC5.out.trans HC6.out (fun _ _ h=>h)⟩;obtain⟨c,hc⟩:=hAc2.out;exact⟨hP5.out.1.step hc (by omega) HS6.out HQ6.out.1,HQ6.out.2⟩
        case measure=>simp [intOf];have:=HZZ.out;omega
       ·have hm':decide ((M2:Int)<N)=false:=by simp;omega
        go_wp2_with fail;go_roundw
        case rel =>
         have hz:=HZZ.out;have hbb:=hBB.out;refine⟨zz,d5,by omega,by omega,by go_num,hl5,HR5.out,hS5.out,?_,HC5.out⟩;obtain⟨c,hc⟩:=hAc2.out;have h1:=HS1.out;rw [Nat.min_eq_right (by omega)] at h1;exact⟨hP5.out.1.step hc (by omega) (Same.refl d5 A2 N) h1,hP5.out.2⟩
        case measure=>simp [intOf];have:=HZZ.out;omega
    ·go_wp2_with fail;go_end0;exact⟨rfl,d4,HR4.out,hS4.out,hQ4.out.1.whole (by omega),HC4.out⟩
theorem sortStable_any [PAd] (g:Nat) (lb:Array Value) (eg:∀ args w,(callFunc g args).run Tryz.prog w=.ok (.enter g args) w) (key0 key:Int->Int) (NN:Int) (hkk:key=kk key0 NN) (gs cap:Nat) (w0:World) (hcmp:CmpOf g lb key0 NN gs w0)
  (d:List Int) (w:World) (hL:d.length<=500000) (hR:Row w gs cap d) (hG:Good NN d) (hst:InTurn key0 d) (hch:Chg (fun i=>i=gs) w0 w) :
  Calls Tryz.prog 31 #[.slice (some ⟨gs,0,none⟩) d.length cap,.func (.func g) #[] lb] w (z4z w gs cap d 0 d.length (fun d'=>Sorted key d' 0 d.length)):=by
 have HP:=kf (y40 g lb eg key0 key NN hkk gs cap w0 hcmp d w hL hR hG hst hch);clear hR hG hch hst;go_enter Tryz.func31,Tryz.ntmps31;go_wp2_with (go_at_call 55;refine HP.out.mono ?_;rintro e w3 ⟨rfl,d3,hr3,hs3,hq3,hc3⟩;have HR3:=kf hr3;have HS3:=kf hs3;have HQ3:=kf hq3;have HC3:=kf hc3;clear hr3 hs3 hq3 hc3);go_end0;exact⟨rfl,d3,HR3.out,HS3.out,HQ3.out,HC3.out⟩
end Go.Proofs.YtmibnkddappgiaaGreatDoor.PS
namespace Go.Proofs.YtmibnkddappgiaaGreatDoor
open Go.RowKit
def z6l (S:Nat->ByteArray) (M:Nat) (x:Nat):Nat:=((List.range M).filter fun y=>Op.bytesLess (S y).toList (S x).toList).length
def v4s (S:Nat->ByteArray) (M:Nat) (x:Int):Int:=(z6l S M x.toNat:Nat)
theorem z8m {S:Nat->ByteArray} {M x y:Nat} (hx:x<M) (h:Op.bytesLess (S x).toList (S y).toList=true):z6l S M x<z6l S M y:=by
 unfold z6l
 have key:∀ L:List Nat,(L.filter fun z=>Op.bytesLess (S z).toList (S x).toList).length<=(L.filter fun z=>Op.bytesLess (S z).toList (S y).toList).length/\(x∈L->(L.filter fun z=>Op.bytesLess (S z).toList (S x).toList).length<(L.filter fun z=>Op.bytesLess (S z).toList (S y).toList).length):=by
  intro L;induction L with
  |nil=>exact⟨Nat.le_refl _,fun h=>by cases h⟩
  |cons z L ih =>
   rw [List.filter_cons,List.filter_cons];by_cases h1:Op.bytesLess (S z).toList (S x).toList=true
   ·have h2:=z5n h1 h;rw [if_pos h1,if_pos h2,List.length_cons,List.length_cons];refine⟨by omega,fun hm=>?_⟩;rcases List.mem_cons.1 hm with rfl|hm
    ·rw [z1l] at h1;cases h1
    ·have:=ih.2 hm;omega
   ·rw [if_neg h1];by_cases h2:Op.bytesLess (S z).toList (S y).toList=true
    ·rw [if_pos h2,List.length_cons];exact⟨by omega,fun _=>by omega⟩
    ·rw [if_neg h2];refine⟨ih.1,fun hm=>?_⟩;rcases List.mem_cons.1 hm with rfl|hm
     ·exact absurd h h2
     ·exact ih.2 hm
 exact(key (List.range M)).2 (List.mem_range.2 hx)
theorem y1c {S:Nat->ByteArray} {M x y:Nat} (h:S x=S y):z6l S M x=z6l S M y:=by unfold z6l;rw [h]
theorem y2p {S:Nat->ByteArray} {M x y:Nat} (hx:x<M) (hy:y<M):z6l S M x<z6l S M y↔Op.bytesLess (S x).toList (S y).toList=true:=by
 refine⟨fun h=>?_,z8m hx⟩;by_cases h1:Op.bytesLess (S x).toList (S y).toList=true
 ·exact h1
 ·by_cases h2:S x=S y
  ·rw [y1c h2] at h;omega
  ·have:=z8m hy (z2x h1 h2);omega
theorem y9p {S:Nat->ByteArray} {M x y:Nat} (hx:x<M) (hy:y<M):PS.cmpv (z6l S M x:Nat) (z6l S M y:Nat)=z5v (S x) (S y):=by
 unfold PS.cmpv;by_cases h1:Op.bytesLess (S x).toList (S y).toList=true
 ·have:=z8m (M:=M) hx h1;rw [if_pos (by omega)];unfold z5v;rw [if_pos h1]
 ·have h3:=mt (y2p hx hy).1 h1;rw [if_neg (by omega)];by_cases h2:S x=S y
  ·have:=y1c (M:=M) h2;rw [if_neg (by omega)];unfold z5v;rw [if_neg h1,if_neg (by simpa using h2)]
  ·have:=z8m (M:=M) hy (z2x h1 h2);rw [if_pos (by omega)];unfold z5v;rw [if_neg h1,if_pos h2]
def z3k (S:Nat->ByteArray) (x y:Nat):Prop:=Op.bytesLess (S x).toList (S y).toList=true\/(S x=S y/\x<y)
theorem y3s {S:Nat->ByteArray} {x y z:Nat} (h:z3k S x y) (k:z3k S y z):z3k S x z:=by
 rcases h with h|⟨h,h2⟩
 ·rcases k with k|⟨k,k2⟩
  ·exact .inl (z5n h k)
  ·exact .inl (by rw [<- k];exact h)
 ·rcases k with k|⟨k,k2⟩
  ·exact .inl (by rw [h];exact k)
  ·exact .inr ⟨h.trans k,by omega⟩
theorem y39 {S:Nat->ByteArray} {x:Nat}:∀ {R:List Nat},R.Pairwise (fun a b=>z3k S b a)->(∀ y∈R,y<x)->(z6w S x R).Pairwise (fun a b=>z3k S b a)
 |[],_,_=>by rw [z6w];exact List.pairwise_singleton _ _
 |p::R,h,hx=>by
  have h1:=List.pairwise_cons.1 h;rw [z6w];by_cases hl:Op.bytesLess (S x).toList (S p).toList=true
  ·rw [if_pos hl];refine List.pairwise_cons.2 ⟨fun y hy=>?_,y39 h1.2 (fun y hy=>hx y (List.mem_cons_of_mem _ hy))⟩;rcases z8w hy with rfl|hy
   ·exact .inl hl
   ·exact h1.1 y hy
  ·rw [if_neg hl]
   have hpx:z3k S p x:=by
    by_cases he:S p=S x
    ·exact .inr ⟨he,hx p (List.mem_cons_self ..)⟩
    ·exact .inl (z2x hl (fun e=>he e.symm))
   refine List.pairwise_cons.2 ⟨fun y hy=>?_,h⟩;rcases List.mem_cons.1 hy with rfl|hy
   ·exact hpx
   ·exact y3s (h1.1 y hy) hpx
theorem y0k {S:Nat->ByteArray} {x:Nat}:∀ R:List Nat,(z6w S x R).Perm (x::R)
 |[]=>by rw [z6w]
 |p::R=>by
  rw [z6w];split
  ·exact((y0k R).cons p).trans (List.Perm.swap x p R)
  ·exact List.Perm.refl _
theorem z6j {S:Nat->ByteArray}:∀ m:Nat,(z3t S (List.range m)).Pairwise (fun a b=>z3k S b a)/\(z3t S (List.range m)).Perm (List.range m)
 |0=>⟨List.Pairwise.nil,List.Perm.refl _⟩
 |m+1=>by
  obtain⟨h1,h2⟩:=z6j (S:=S) m;rw [List.range_succ,z7s];refine⟨y39 h1 (fun y hy=>List.mem_range.1 (z9v hy)),(y0k _).trans ?_⟩;exact((h2.cons m).trans (List.perm_append_singleton m (List.range m)).symm)
theorem v29 {S:Nat->ByteArray} {x y:Nat} (h:z3k S x y) (k:z3k S y x):False:=by
 rcases y3s h k with h|⟨_,h⟩
 ·rw [z1l] at h;cases h
 ·omega
def ofN (d:List Nat):List Int:=d.map (fun x:Nat=>((x:Nat):Int))
theorem y1i {d:List Nat} {i x:Nat} (h:d[i]?=some x):(ofN d).getD i 0=(x:Int):=by simp [ofN,List.getD_eq_getElem?_getD,h]
theorem v6w {w:World} {g cap b off:Nat} {d:List Nat} (h:PRow w g cap b off d):@PS.Row ⟨fun x=>⟨b,off+2*x.toNat*4,none⟩⟩ w g cap (ofN d):=by
 unfold PS.Row PS.icells ofN;rw [List.length_map,List.map_map];exact h
theorem y5o {w:World} {g cap b off:Nat} {d:List Nat} (h:@PS.Row ⟨fun x=>⟨b,off+2*x.toNat*4,none⟩⟩ w g cap (ofN d)):PRow w g cap b off d:=by
 unfold PS.Row PS.icells ofN at h;rw [List.length_map,List.map_map] at h;exact h
theorem v7d {M:Int} {d:List Int} (h:PS.Good M d):ofN (d.map Int.toNat)=d:=by
 unfold ofN;rw [List.map_map];exact(List.map_congr_left (g:=id) (fun x hx=>by have:=(h x hx).1;simp;omega)).trans (List.map_id _)
theorem v8c {g b off M blk:Nat} {S:Nat->ByteArray} {w0:World} (h:v9o g b off S M blk w0):@PS.CmpOf ⟨fun x=>⟨b,off+2*x.toNat*4,none⟩⟩ g #[] (v4s S M) (M:Nat) blk w0:=by
 intro x y W hx hxM hy hyM hc;have h1:=h x.toNat y.toNat W (by omega) (by omega) hc;unfold z3u at h1;unfold v4s;rw [y9p (by omega) (by omega)];exact h1
theorem y42 (g b off m gs cap:Nat) (S:Nat->ByteArray) (w0:World) (eg:∀ args w,(callFunc g args).run Tryz.prog w=.ok (.enter g args) w) (hcmp:v9o g b off S m gs w0)
  (w:World) (hL:m<=500000) (hR:PRow w gs cap b off (List.range m)) (hch:Chg (fun i=>i=gs) w0 w) :
  Calls Tryz.prog 31 #[.slice (some ⟨gs,0,none⟩) m cap,.func (.func g) #[] #[]] w fun e w'=>e=.returned (.tuple #[])/\PRow w' gs cap b off (z3t S (List.range m)).reverse/\Chg (fun i=>i=gs) w w':=by
 have hl:(ofN (List.range m)).length=m:=by simp [ofN]
 have hG:PS.Good (m:Nat) (ofN (List.range m)):=by
  intro x hx;obtain⟨y,hy,rfl⟩:=List.mem_map.1 hx;have:=List.mem_range.1 hy;omega
 have hget:∀ i,i<m->(ofN (List.range m)).getD i 0=(i:Int):=fun i hi=>y1i (by simp [hi])
 have hst:PS.InTurn (v4s S m) (ofN (List.range m)):=by
  intro p q hpq hq _;rw [hl] at hq;rw [hget p (by omega),hget q hq];omega
 have h1:=@PS.sortStable_any ⟨fun x=>⟨b,off+2*x.toNat*4,none⟩⟩ g #[] eg (v4s S m) (PS.kk (v4s S m) (m:Nat)) (m:Nat) rfl gs cap w0 (v8c hcmp) (ofN (List.range m)) w (by rw [hl];exact hL) (v6w hR) hG hst hch;rw [hl] at h1;refine h1.mono ?_;rintro e w' ⟨rfl,d',hr,hs,hq,hc⟩;refine⟨rfl,?_,hc⟩;have hG':PS.Good (m:Nat) d':=hG.same hs;have hd':=v7d hG';obtain⟨D,hD⟩:∃ D:List Nat,D=d'.map Int.toNat:=⟨_,rfl⟩
 rw [<- hD] at hd'
 have hp:D.Perm (List.range m):=by
  have h2:(d'.map Int.toNat).Perm ((ofN (List.range m)).map Int.toNat):=hs.perm.map _;rw [<- hD] at h2
  have h3:(ofN (List.range m)).map Int.toNat=List.range m:=by
   unfold ofN;rw [List.map_map];exact(List.map_congr_left (g:=id) (fun x _=>by simp)).trans (List.map_id _)
  rwa [h3] at h2
 have hlen:D.length=m:=by have:=hp.length_eq;rwa [List.length_range] at this
 have hw:D.Pairwise (z3k S):=by
  rw [List.pairwise_iff_getElem];intro i j hi hj hij;have hgi:d'.getD i 0=(D[i]:Nat):=by rw [<- hd'];exact y1i (List.getElem?_eq_getElem hi)
  have hgj:d'.getD j 0=(D[j]:Nat):=by rw [<- hd'];exact y1i (List.getElem?_eq_getElem hj)
  have hmi:D[i]<m:=List.mem_range.1 (hp.mem_iff.1 (List.getElem_mem hi));have hmj:D[j]<m:=List.mem_range.1 (hp.mem_iff.1 (List.getElem_mem hj));have hle:=hq i j (Nat.zero_le _) hij (by omega);rw [hgi,hgj] at hle;have h2:=PS.kk_le (key:=v4s S m) (N:=(m:Nat)) (x:=(D[i]:Nat)) (y:=(D[j]:Nat)) ⟨by omega,by omega⟩ ⟨by omega,by omega⟩ hle;unfold v4s at h2;simp only [Int.toNat_natCast] at h2
  have hne:D[i]≠D[j]:=fun e=>by
   have hnd:D.Nodup:=hp.nodup_iff.2 List.nodup_range;exact absurd ((List.getElem_inj hnd).1 e) (by omega)
  by_cases h5:Op.bytesLess (S D[i]).toList (S D[j]).toList=true
  ·exact .inl h5
  ·by_cases h6:S D[i]=S D[j]
   ·have h7:=h2.2 (by rw [y1c h6]);exact .inr ⟨h6,by omega⟩
   ·have h7:=(y2p hmj hmi).2 (z2x h5 h6);omega
 have hw2:(z3t S (List.range m)).reverse.Pairwise (z3k S):=List.pairwise_reverse.2 (z6j m).1;have hp2:D.Perm (z3t S (List.range m)).reverse:=hp.trans (((z6j m).2).symm.trans (List.reverse_perm _).symm);have hDD:D=(z3t S (List.range m)).reverse:=hp2.eq_of_pairwise (fun x y _ _ h k=>(v29 h k).elim) hw hw2;rw [<- hDD];exact y5o (by rw [hd'];exact hr)
end Go.Proofs.YtmibnkddappgiaaGreatDoor
namespace Go.Proofs.YtmibnkddappgiaaGreatDoor.KD
open Go.RowKit
class LVI where
 VI:VT->VC->Prop
 nm:∀ s:ByteArray,s.size<=maxLen->VI (nmT s) ⟨5,0,s,none,0,0⟩
 eq:∀ (t:VT) (e:VC),VI t e->e.k=t.kind/\e.n=t.num/\e.s=t.str
structure GV [LVI] (w wr:World) (es:List VC) (ts:List VT) (n:Nat) (A:Option Addr) (c:Nat):Prop where
 own:wr.ownsRow 0 24 4 (.slice A n c) n (z04 es)
 chg:Chg NoS w wr
 new:∀ a,A=some a->w.heap.size<=a.block
 len:es.length=n
 tlen:ts.length=n
 is:∀ (j:Nat) (t:VT) (e:VC),ts[j]?=some t->es[j]?=some e->LVI.VI t e
theorem GV.start [LVI] {w wr:World} (h:Chg NoS w wr):GV w wr [] [] 0 none 0:=⟨z43 wr 0 _ 4,h,fun _ h=>(by cases h),rfl,rfl,fun j t e h=>(by simp at h)⟩
theorem GV.call [LVI] {w wr w2:World} {es:List VC} {ts:List VT} {n c:Nat} {A:Option Addr} (h:GV w wr es ts n A c) (hc:Chg NoS wr w2):GV w w2 es ts n A c :=
 ⟨z0p (S:=NoS) h.own hc (fun _ _ e=>e),h.chg.trans hc (fun _ _ e=>e),h.new,h.len,h.tlen,h.is⟩
theorem GV.far [LVI] {w wr:World} {es:List VC} {ts:List VT} {n c g:Nat} {A:Option Addr} (h:GV w wr es ts n A c) (hne:(Value.slice A n c).ownBlock≠some g) (hg:w.heap.size<=g) (i:Nat) (u:Value):GV w (wr.setCell ⟨g,i,none⟩ u) es ts n A c :=
 ⟨z0p (S:=fun x=>x=g) h.own (Chg.setCell (S:=fun x=>x=g) (Chg.refl (fun x=>x=g) wr) (p:=⟨g,i,none⟩) (fun _=>rfl) u) (fun g' hg' e=>hne (by rw [hg',e])),h.chg.setCell (p:=⟨g,i,none⟩) (fun h2=>absurd h2 (Nat.not_lt.2 hg)) u,h.new,h.len,h.tlen,h.is⟩
structure Bx [LVI] (w W:World) (g go:Nat) (cv cz:Array Value) (es:List VC) (ts:List VT) (m:Nat) (A:Option Addr) (c:Nat):Prop where
 b:PB w W g cv
 o:PB w W go cz
 row:GV w W es ts m A c
 nb:(Value.slice A m c).ownBlock≠some g
 no:(Value.slice A m c).ownBlock≠some go
 ne:g≠go
theorem Bx.put [LVI] {w W:World} {g go:Nat} {k n:Int} {s:ByteArray} {v:Value} {cz:Array Value} {es:List VC} {ts:List VT} {m c:Nat} {A:Option Addr} (h:Bx w W g go #[.int .i64 k,.int .i64 n,.string s,v] cz es ts m A c) :
  Bx w (W.setCell ⟨g,3,none⟩ (.slice A m c)) g go #[.int .i64 k,.int .i64 n,.string s,.slice A m c] cz es ts m A c :=
 ⟨h.b.set 3 _,h.o.far (Ne.symm h.ne) 3 _,h.row.far h.nb h.b.new 3 _,h.nb,h.no,h.ne⟩
theorem Bx.fin [LVI] {w W:World} {g go:Nat} {k n:Int} {s:ByteArray} {cv cz:Array Value} {es:List VC} {ts:List VT} {m c:Nat} {A:Option Addr} (h:Bx w W g go cv cz es ts m A c) (hz:cz.size=4) (hm:m<=maxLen)
  (hk:-9223372036854775808<=k/\k<=9223372036854775807) (hn:-9223372036854775808<=n/\n<=9223372036854775807) (hs:s.size<=maxLen) (W':World) (hW:W'=(((W.setCell ⟨go,0,none⟩ (.int .i64 k)).setCell ⟨go,1,none⟩ (.int .i64 n)).setCell ⟨go,2,none⟩ (.string s)).setCell ⟨go,3,none⟩ (.slice A m c)) :
  PB w W' go #[.int .i64 k,.int .i64 n,.string s,.slice A m c]/\GV w W' es ts m A c/\Chg NoS w W':=by
 subst hW;obtain⟨h1,h2⟩:=h.o.set4 (a:=.int .i64 k) (b:=.int .i64 n) (c:=.string s) (d:=.slice A m c) h.row.chg hz;exact⟨h1,((((h.row.far h.no h.o.new 0 _).far h.no h.o.new 1 _).far h.no h.o.new 2 _).far h.no h.o.new 3 _),h2⟩
theorem v2p [LVI] {t u:VT} {e f:VC} (h:LVI.VI t e) (k:LVI.VI u f):∀ (j:Nat) (t':VT) (e':VC),[t,u][j]?=some t'->[e,f][j]?=some e'->LVI.VI t' e':=by
 intro j t' e' h1 h2;match j with
 |0=>simp at h1 h2;subst h1 h2;exact h
 |1=>simp at h1 h2;subst h1 h2;exact k
 |j+2=>simp at h1
theorem y6x [LVI] {es es':List VC} {ts ts':List VT} {m:Nat} (h1:es.length=m) (h2:ts.length=m) (hi:∀ (j:Nat) (t:VT) (e:VC),ts[j]?=some t->es[j]?=some e->LVI.VI t e) (hi':∀ (j:Nat) (t:VT) (e:VC),ts'[j]?=some t->es'[j]?=some e->LVI.VI t e) :
  ∀ (j:Nat) (t:VT) (e:VC),(ts++ts')[j]?=some t->(es++es')[j]?=some e->LVI.VI t e:=by
 intro j t e ht he;by_cases hj:j<m
 ·rw [List.getElem?_append_left (by omega)] at ht;rw [List.getElem?_append_left (by omega)] at he;exact hi j t e ht he
 ·rw [List.getElem?_append_right (by omega),h2] at ht;rw [List.getElem?_append_right (by omega),h1] at he;exact hi' _ t e ht he
theorem y5g {W:World} {e f:VC} {B:Nat} (hb:Blk W B 24 #[.int .i64 e.k,.int .i64 e.n,.string e.s,.slice e.A e.len e.cap,.int .i64 f.k,.int .i64 f.n,.string f.s,.slice f.A f.len f.cap]):Src W 4 (some ⟨B,0,none⟩) 2 2 (z04 [e,f]):=by
 refine⟨rfl,fun e=>(by cases e),fun ad ha j x hj=>?_⟩;cases ha
 have hadd:(⟨B,0,none⟩:Addr).add j=⟨B,j,none⟩:=by unfold Addr.add;split<;>simp_all
 rw [hadd,hb.cell j];rw [show z04 [e,f]=[.int .i64 e.k,.int .i64 e.n,.string e.s,.slice e.A e.len e.cap,.int .i64 f.k,.int .i64 f.n,.string f.s,.slice f.A f.len f.cap] from rfl] at hj;simpa using hj
theorem y5h [LVI] {w:World} {l:List VT} {es0:List VC} {b off len cap j:Nat} {t:VT} (hl:l.length=len) (hel:es0.length=len) (hsr:Src w 4 (some ⟨b,off,none⟩) len cap (z04 es0)) (hvi:∀ (j:Nat) (t:VT) (e:VC),l[j]?=some t->es0[j]?=some e->LVI.VI t e) (ht:l[j]?=some t):∃ (eA:Option Addr) (el ec:Nat),
  w.cell? ⟨b,off+j*4,none⟩=some (.int .i64 t.kind)/\w.cell? ⟨b,off+j*4+1,none⟩=some (.int .i64 t.num)/\w.cell? ⟨b,off+j*4+2,none⟩=some (.string t.str)/\w.cell? ⟨b,off+j*4+3,none⟩=some (.slice eA el ec)/\LVI.VI t ⟨t.kind,t.num,t.str,eA,el,ec⟩:=by
 have hj:j<l.length:=(List.getElem?_eq_some_iff.1 ht).1;obtain⟨e,he⟩:∃ e,es0[j]?=some e:=⟨_,List.getElem?_eq_getElem (by omega)⟩
 have hv:=hvi j t e ht he;obtain⟨e1,e2,e3⟩:=LVI.eq t e hv
 have hc:∀ i u,i<4->e.cells[i]?=some u->w.cell? ⟨b,off+j*4+i,none⟩=some u:=by
  intro i u hi hu;have h1:=z2n he hi;rw [hu] at h1;have h2:=hsr.2.2 _ rfl _ _ h1;have hadd:(⟨b,off,none⟩:Addr).add (j*4+i)=⟨b,off+(j*4+i),none⟩:=by unfold Addr.add;split<;>simp_all
  rw [hadd] at h2;rw [Nat.add_assoc];exact h2
 obtain⟨k,n,s,A,el,ec⟩:=e;simp only [] at e1 e2 e3;subst e1 e2 e3;exact⟨A,el,ec,hc 0 _ (by decide) rfl,hc 1 _ (by decide) rfl,hc 2 _ (by decide) rfl,hc 3 _ (by decide) rfl,hv⟩
theorem z9s [LVI] {w wr W:World} {ops:Array Oper} {o:Oper} {a:Act} {K:Act->World->Prop} {Q:Exit->Act->World->Prop} {E:Prop} {es new:List VC} {ts tn:List VT} {n c m cx:Nat} {A X:Option Addr} (hgd:o.guard=none) (s x:Operand)
  (ho:o.op=.call { callee:=.builtin .append,args:=#[s,x],argTypes:=#[22,22] }) (hs:a.eval s=.slice A n c) (hx:a.eval x=.slice X m cx)
  (h:GV w wr es ts n A c) (hc:Chg NoS wr W) (hn:n<=2000000000) (hm:m<=2000000000) (hsrc:Src W 4 X m cx (z04 new)) (hlen:new.length=m) (htl:tn.length=m) (his:∀ (j:Nat) (t:VT) (e:VC),tn[j]?=some t->new[j]?=some e->LVI.VI t e)
  (k:∀ A3 c3 w',GV w w' (es++new) (ts++tn) (n+m) A3 c3->(∀ (g:Nat) (T:TypeId) (cs:Array Value),Blk W g T cs->(Value.slice A n c).ownBlock≠some g->Blk w' g T cs/\(Value.slice A3 (n+m) c3).ownBlock≠some g)->K (a.put o.dst (.slice A3 (n+m) c3)) w') :
  if Region.wanted o (yielded ops a.tmps)=true then Oper.wp Tryz.prog o a W K Q else E:=by
 have hw:Region.wanted o (yielded ops a.tmps)=true:=by simp [Region.wanted,hgd]
 rw [if_pos hw];obtain⟨i0,hi,hz0,hz1,hz2⟩:=z2y z8x;have hown:=z0p (S:=NoS) h.own hc (fun _ _ e=>e)
 have hend:∀ v' w',w'.ownsRow 0 24 4 v' (n+m) (z04 es++z04 new)->W.grownBy w' (Value.slice A n c).ownBlock->(v'.ownBlock=(Value.slice A n c).ownBlock\/v'.ownBlock=some W.heap.size)->K (a.put o.dst v') w':=by
  intro S2 w4 hown4 hgr4 hat4;obtain⟨A4,c4,rfl,hA4⟩:=z0t hown4;refine k A4 c4 w4 ⟨by rw [z3l];exact hown4,?_,?_,by rw [List.length_append,h.len,hlen],by rw [List.length_append,h.tlen,htl],y6x h.len h.tlen h.is his⟩ (fun g T cs hb hne=>⟨hb.grown hgr4 (fun e=>hne e.symm),fun e=>?_⟩)
  ·refine(h.chg.trans hc (fun _ _ e=>e)).grown hgr4 (fun kk e hk=>?_);rcases A with _|b
   ·simp [Value.ownBlock] at e
   ·have e2:b.block=kk:=by simpa [Value.ownBlock] using e
    have:=h.new b rfl;omega
  ·rintro b rfl;have hsz:=h.chg.size;have hsz2:=hc.size;rcases hat4 with e|e
   ·rcases A with _|d
    ·simp [Value.ownBlock] at e
    ·have e2:b.block=d.block:=by simpa [Value.ownBlock] using e
     rw [e2];exact h.new d rfl
   ·have e2:b.block=W.heap.size:=by simpa [Value.ownBlock] using e
    omega
  ·rcases hat4 with h2|h2
   ·exact hne (h2.symm.trans e)
   ·have h3:=hb.lt;have h4:some W.heap.size=some g:=h2.symm.trans e;simp only [Option.some.injEq] at h4;omega
 have hu:Tryz.prog.underlying 22=some (.slice 24):=Tryz.underlying22;rcases X with _|ad
 ·obtain⟨h0,h1⟩:=hsrc.2.1 rfl;subst h0 h1;have hnn:new=[]:=List.eq_nil_of_length_eq_zero hlen;subst hnn;have hrun:=run_append_owned_none (P:=Tryz.prog) (w:=W) 0 22 o.type 24 i0 4 hu hi (.slice A n c) n (z04 es) hown;unfold Oper.wp execOp;simp only [ho,resolve,invoke,builtin,Sem.run_bind,Sem.run_pure,Result.andThen_ok,List.map_toArray,List.map_cons,List.map_nil,hs,hx,hrun];exact hend _ _ (by rw [show z04 []=[] from rfl,List.append_nil];exact hown) (World.grownBy.refl W _) (.inl rfl)
 ·obtain⟨v',w',hr,h2,h3,_,h5⟩:=run_append_own_at (P:=Tryz.prog) W 0 22 o.type 24 i0 _ 4 56 hu hi hz0 hz1 hz2 rfl (by decide) (.slice A n c) n (z04 es) hown ad m cx (z04 new) hsrc.1 (hsrc.2.2 ad rfl) (z3y _) (by unfold maxLen;omega) (by omega) (Nat.zero_le _);unfold Oper.wp execOp;simp only [ho,resolve,invoke,builtin,Sem.run_bind,Sem.run_pure,Result.andThen_ok,List.map_toArray,List.map_cons,List.map_nil,hs,hx,hr];exact hend _ _ h2 h3 h5
structure DX [LVI] (w W:World) (g go gs c1 b off:Nat) (Q:List Nat) (cv cz:Array Value) (es:List VC) (ts:List VT) (m:Nat) (A:Option Addr) (c:Nat):Prop where
 bx:Bx w W g go cv cz es ts m A c
 pr:PRow W gs c1 b off Q
 ng:(Value.slice A m c).ownBlock≠some gs
 n1:gs≠g
 n2:w.heap.size<=gs
theorem DX.call [LVI] {w W W':World} {g go gs c1 b off m c:Nat} {Q:List Nat} {cv cz:Array Value} {es:List VC} {ts:List VT} {A:Option Addr} (h:DX w W g go gs c1 b off Q cv cz es ts m A c) (hc:Chg NoS W W'):DX w W' g go gs c1 b off Q cv cz es ts m A c :=
 ⟨⟨h.bx.b.call hc,h.bx.o.call hc,h.bx.row.call hc,h.bx.nb,h.bx.no,h.bx.ne⟩,h.pr.chg hc (fun e=>e),h.ng,h.n1,h.n2⟩
theorem DX.app [LVI] {w W W':World} {g go gs c1 b off m c m' c':Nat} {Q:List Nat} {cv cz:Array Value} {es es':List VC} {ts ts':List VT} {A A':Option Addr} (h:DX w W g go gs c1 b off Q cv cz es ts m A c) (hg:GV w W' es' ts' m' A' c')
  (k:∀ (g:Nat) (T:TypeId) (cs:Array Value),Blk W g T cs->(Value.slice A m c).ownBlock≠some g->Blk W' g T cs/\(Value.slice A' m' c').ownBlock≠some g):DX w W' g go gs c1 b off Q cv cz es' ts' m' A' c':=by
 obtain⟨cs,hb,hp⟩:=h.pr.blk;have h1:=k _ _ _ hb h.ng;have h2:=h.bx.b.kept k h.bx.nb;have h3:=h.bx.o.kept k h.bx.no;exact⟨⟨h2.1,h3.1,hg,h2.2,h3.2,h.bx.ne⟩,hp _ h1.1,h1.2,h.n1,h.n2⟩
theorem DX.put [LVI] {w W:World} {g go gs c1 b off m c:Nat} {Q:List Nat} {k n:Int} {s:ByteArray} {v:Value} {cz:Array Value} {es:List VC} {ts:List VT} {A:Option Addr} (h:DX w W g go gs c1 b off Q #[.int .i64 k,.int .i64 n,.string s,v] cz es ts m A c) :
  DX w (W.setCell ⟨g,3,none⟩ (.slice A m c)) g go gs c1 b off Q #[.int .i64 k,.int .i64 n,.string s,.slice A m c] cz es ts m A c:=by
 refine⟨h.bx.put,?_,h.ng,h.n1,h.n2⟩;exact h.pr.chg (K:=fun i=>i=g) ((Chg.refl (fun i=>i=g) W).setCell (p:=⟨g,3,none⟩) (fun _=>rfl) _) h.n1
theorem DX.held [LVI] {w W:World} {g go gs c1 b off p m c m0 c0:Nat} {Q:List Nat} {k n:Int} {s t:ByteArray} {cz:Array Value} {es:List VC} {ts:List VT} {A A0:Option Addr} {v0 v1 v2 v3:Value} (h:DX w W g go gs c1 b off Q #[.int .i64 k,.int .i64 n,.string s,.slice A0 m0 c0] cz es ts m A c)
  (hc:∀ W,Chg NoS w W->W.cell? ⟨b,off+2*p*4+2,none⟩=some (.string t)/\W.cell? ⟨b,off+2*p*4+4,none⟩=some v0/\W.cell? ⟨b,off+2*p*4+4+1,none⟩=some v1/\W.cell? ⟨b,off+2*p*4+4+2,none⟩=some v2/\W.cell? ⟨b,off+2*p*4+4+3,none⟩=some v3) :
  W.cell? ⟨g,3,none⟩=some (.slice A0 m0 c0)/\W.cell? ⟨b,off+2*p*4+2,none⟩=some (.string t)/\W.cell? ⟨b,off+2*p*4+4,none⟩=some v0/\W.cell? ⟨b,off+2*p*4+4+1,none⟩=some v1/\W.cell? ⟨b,off+2*p*4+4+2,none⟩=some v2/\W.cell? ⟨b,off+2*p*4+4+3,none⟩=some v3:=by
 have h3:=h.bx.b.blk.cell 3;simp at h3;exact⟨h3,hc W h.bx.row.chg⟩
def y8n [LVI] (w:World) (ts:List VT) (e:Ending) (w':World):Prop:=∃ (es:List VC) (A:Option Addr) (n c:Nat),e=.returned (VC.val ⟨7,0,⟨#[]⟩,A,n,c⟩)/\GV w w' es ts n A c/\n<=500000
theorem y20 [LVI] (l:List VT) (b off len cap:Nat) (w:World) (hl:l.length=len) (es0:List VC) (hel:es0.length=len) (hsr:Src w 4 (some ⟨b,off,none⟩) len cap (z04 es0)) (hvi:∀ (j:Nat) (t:VT) (e:VC),l[j]?=some t->es0[j]?=some e->LVI.VI t e) (hcap:len<=cap) (h40:len<=500000) (h2:2<=len) (hks:∀ t∈l,t.str.size<=maxLen) :
  Calls Tryz.prog 17 #[.slice (some ⟨b,off,none⟩) len cap] w (y8n w (z1p l)):=by
 obtain⟨m,hm⟩:∃ m,m=len / 2:=⟨_,rfl⟩
 obtain⟨L2,hL2⟩:∃ L2,L2=2*m:=⟨_,rfl⟩
 obtain⟨S,hS⟩:∃ S,S=z3e l:=⟨_,rfl⟩
 obtain⟨V,hV⟩:∃ V,V=z34 l:=⟨_,rfl⟩
 obtain⟨Q,hQ⟩:∃ Q,Q=(z3t S (List.range m)).reverse:=⟨_,rfl⟩
 have HDT:=kf (show z1p l=emF S V Q from by rw [hQ,hS,hV,hm,<- hl];rfl)
 have HQM:Hid (∀ p∈Q,p<m):=fun p hp=>by
  rw [hQ] at hp;exact List.mem_range.1 (z9v (List.mem_reverse.1 hp))
 have HQL:Hid (Q.length=m):=by show _=_;rw [hQ,List.length_reverse,y5i,List.length_range]
 have HPC:Hid (∀ p,p<m->∃ (x:VT) (xk xn:Int) (xs:ByteArray) (xA:Option Addr) (xl xc:Nat),V p=x/\LVI.VI x ⟨xk,xn,xs,xA,xl,xc⟩/\(S p).size<=maxLen/\∀ W,Chg NoS w W->W.cell? ⟨b,off+2*p*4+2,none⟩=some (.string (S p))/\W.cell? ⟨b,off+2*p*4+4,none⟩=some (.int .i64 xk)/\W.cell? ⟨b,off+2*p*4+4+1,none⟩=some (.int .i64 xn)/\W.cell? ⟨b,off+2*p*4+4+2,none⟩=some (.string xs)/\W.cell? ⟨b,off+2*p*4+4+3,none⟩=some (.slice xA xl xc)):=by
  show ∀ p,_;intro p hp;obtain⟨t,ht,_⟩:=z0s (l:=l) (k:=2*p) (by omega);obtain⟨x,hx,_⟩:=z0s (l:=l) (k:=2*p+1) (by omega);obtain⟨eA,el,ec,c0,c1,c2,c3,hve⟩:=y5h hl hel hsr hvi ht;obtain⟨xA,xl,xc,d0,d1,d2,d3,hvx⟩:=y5h hl hel hsr hvi hx;have e1:S p=t.str:=by rw [hS];unfold z3e;rw [ht];rfl
  have e2:V p=x:=by rw [hV];unfold z34;rw [hx];rfl
  refine⟨x,x.kind,x.num,x.str,xA,xl,xc,e2,hvx,by rw [e1];exact hks t (List.mem_of_getElem? ht),fun W hW=>⟨?_,?_,?_,?_,?_⟩⟩
  ·rw [e1];exact(hW.cell (p:=⟨b,_,none⟩) (z05 c2) (fun h=>h)).trans c2
  ·rw [show off+2*p*4+4=off+(2*p+1)*4 by omega];exact(hW.cell (p:=⟨b,_,none⟩) (z05 d0) (fun h=>h)).trans d0
  ·rw [show off+2*p*4+4+1=off+(2*p+1)*4+1 by omega];exact(hW.cell (p:=⟨b,_,none⟩) (z05 d1) (fun h=>h)).trans d1
  ·rw [show off+2*p*4+4+2=off+(2*p+1)*4+2 by omega];exact(hW.cell (p:=⟨b,_,none⟩) (z05 d2) (fun h=>h)).trans d2
  ·rw [show off+2*p*4+4+3=off+(2*p+1)*4+3 by omega];exact(hW.cell (p:=⟨b,_,none⟩) (z05 d3) (fun h=>h)).trans d3
 have hm0:0<m:=by omega
 have hm20:m<=500000:=by omega
 have hbl:b<w.heap.size:=by
  obtain⟨x,xk,xn,xs,xA,xl,xc,_,_,_,hc⟩:=HPC.out 0 hm0;exact z05 (hc w (Chg.refl _ _)).1
 have HBL:=kf hbl;have t1:(len:Int).tdiv 2=(m:Int):=by rw [Int.tdiv_eq_ediv_of_nonneg (by omega)];omega
 have t2:(len:Int) / 2=(m:Int):=by omega
 have t3:(m:Int)*2=(L2:Int):=by omega
 have i1:(L2:Int)<=cap:=by omega
 have i2:L2<=cap:=by omega
 have HCK:=kf (fun W=>z5q W (some ⟨b,off,none⟩) L2 cap)
 have HCO:Hid (∀ (W:World) (Bs Bn:Nat),W.cell? ⟨Bs,0,none⟩=some (.slice (some ⟨b,off,none⟩) L2 cap)->W.cell? ⟨Bn,0,none⟩=some (.int .i64 2)->Calls Tryz.prog 29 #[.func (.func 54) #[] #[.pointer (some ⟨Bs,0,none⟩),.pointer (some ⟨Bn,0,none⟩)]] W fun e w' =>
   ∃ v,e=.returned v/\w'.ownsRow W.heap.size 22 1 v m (z4m b off m)/\Below W.heap.size W w'):=by
  show ∀ W:World,_;intro W Bs Bn h1 h2;exact z4b m Bs Bn b off cap _ W (by omega) (fun _=>rfl) (by omega) (by rw [<- hL2];exact h1) h2
 have HO:=kf (⟨Blk.new w 24 #[.int .i64 0,.int .i64 0,.string ⟨#[]⟩,.slice none 0 0],Nat.le_refl _⟩:PB w _ _ _);have HC1:=kf ((Chg.refl NoS w).alloc (.cells #[.int .i64 0,.int .i64 0,.string ⟨#[]⟩,.slice none 0 0] 24));have hbs:=(Blk.new (w.alloc (.cells #[.int .i64 0,.int .i64 0,.string ⟨#[]⟩,.slice none 0 0] 24)) 22 #[.slice (some ⟨b,off,none⟩) L2 cap]).alloc (.cells #[.int .i64 2] 3);have hbn:=Blk.new ((w.alloc (.cells #[.int .i64 0,.int .i64 0,.string ⟨#[]⟩,.slice none 0 0] 24)).alloc (.cells #[.slice (some ⟨b,off,none⟩) L2 cap] 22)) 3 #[.int .i64 2];simp only [World.size_alloc] at hbs hbn;have HCC:=kf (HCO.out _ _ _ (hbs.cell 0) (hbn.cell 0));have HQE:=kf hQ;clear hbs hbn hm hL2 hS hV hQ hl hsr hvi hel HCO hbl;go_enter Tryz.func17,Tryz.ntmps17
 go_upto_region 2 with(first
  |(go_at_call 30;refine(HCK.out _).mono ?_;rintro e w3 ⟨rfl,rfl⟩)
  |(go_at_call 29;refine HCC.out.mono ?_;rintro e w4 ⟨v,rfl,hrow,hb4⟩;obtain⟨A1,c1,rfl,_⟩:=z0t hrow;obtain⟨gs,rfl,hgs,hpr⟩:=v5p hrow hm0;have HPR:=kf hpr;have HC4:=kf (((HC1.out.alloc _).alloc _).trans (Chg.of_below (S:=NoS) hb4) (fun _ _ e=>e));have HO4:=kf (((HO.out.alloc _).alloc _).call (Chg.of_below (S:=NoS) hb4));have HGS:=kf hgs;clear hrow hb4 hpr hgs))
 have hgs1:w.heap.size<=gs:=by have h1:=HGS.out;simp only [World.size_alloc] at h1;omega
 have hbgs:b≠gs:=by have h1:=HBL.out;omega
 obtain⟨g0,hg0⟩:∃ g,g=w.heap.size:=⟨_,rfl⟩
 have hg04:g0≠gs:=by have h1:=HGS.out;simp only [World.size_alloc] at h1;omega
 have hso:=y42 32 b off m gs c1 S w4 (fun args w=>rfl) (v1s b off gs m S w4 (fun x hx=>by
  obtain⟨_,_,_,_,_,_,_,_,_,_,hc⟩:=HPC.out x hx;exact(hc w4 HC4.out).1) hbgs) w4 hm20 HPR.out (Chg.refl _ _)
 rw [<- HQE.out] at hso;have HSO:=kf hso;rw [<- hg0] at HO4 ⊢;have HG0:=kf hg0;clear hso hg0 HGS HPR HCK HCC HO HC1;go_upto_region 5 with(go_at_call 31;refine HSO.out.mono ?_;rintro e w5 ⟨rfl,hp5,hc5⟩;have HP5:=kf hp5;have HC5:=kf (HC4.out.trans hc5 (fun i hi e=>by omega:∀ i,i<w.heap.size->i=gs->NoS i));have HO5:=kf (⟨HO4.out.blk.chg hc5 hg04,HO4.out.new⟩:PB w w5 g0 _);clear hp5 hc5)
 have HD0:Hid (DX w (w5.alloc (.cells #[.int .i64 7,.int .i64 0,.string ⟨#[]⟩,.slice none 0 0] 24)) w5.heap.size g0 gs c1 b off Q #[.int .i64 7,.int .i64 0,.string ⟨#[]⟩,.slice none 0 0] #[.int .i64 0,.int .i64 0,.string ⟨#[]⟩,.slice none 0 0] [] [] 0 none 0) :=
  ⟨⟨⟨Blk.new _ _ _,HC5.out.size⟩,⟨HO5.out.blk.alloc _,HO5.out.new⟩,GV.start (HC5.out.alloc _),fun e=>(by cases e),fun e=>(by cases e),fun e=>by have:=HO5.out.blk.lt;omega⟩,HP5.out.chg (K:=NoS) ((Chg.refl _ _).alloc _) (fun e=>e),fun e=>(by cases e),fun e=>by have:=HP5.out.lt;omega,hgs1⟩
 obtain⟨g4,hg4⟩:∃ g,g=w5.heap.size:=⟨_,rfl⟩
 rw [<- hg4] at HD0 ⊢;clear hg4;go_loopw [20] (fun v wr=>∃ (q:Nat) (es:List VC) (ts:List VT) (N:Nat) (A3:Option Addr) (c3:Nat),q<=m/\v=.int .i64 q/\N<=2*q/\Hid (DX w wr g4 g0 gs c1 b off Q #[.int .i64 7,.int .i64 0,.string ⟨#[]⟩,.slice A3 N c3] #[.int .i64 0,.int .i64 0,.string ⟨#[]⟩,.slice none 0 0] es ts N A3 c3)/\Hid (ts++emF S V (Q.drop q)=emF S V Q)) (fun v _=>m-(intOf v).toNat)
 case atStart=>exact⟨0,[],[],0,none,0,by omega,by go_num,by omega,HD0,kf (by rw [List.drop_zero];rfl)⟩
 case round =>
  obtain⟨q,es,ts,N,A3,c3,hq,rfl,hN2,HDX,HEM⟩:=hrel;by_cases hlt:q<m
  ·obtain⟨p,hp⟩:∃ p,Q[q]?=some p:=⟨_,List.getElem?_eq_getElem (by rw [HQL.out];exact hlt)⟩
   have hdr:Q.drop q=p::Q.drop (q+1):=by
    have h1:=(List.getElem?_eq_some_iff.1 hp)
    obtain⟨h1,h3⟩:=h1;rw [List.drop_eq_getElem_cons h1,h3]
   have hpm:=HQM.out p (List.mem_of_getElem? hp);obtain⟨x,xk,xn,xs,xA,xl,xc,hvx,hvi,hsz,hcl⟩:=HPC.out p hpm;have HVX:=kf hvi;have HNM:=kf (LVI.nm (S p) hsz);have HCL:=kf hcl;have HVV:=kf hvx;have KK:=hcl wr HDX.out.bx.row.chg;have k1:=HDX.out.pr.cell hp;unfold z3u at k1;obtain⟨k2,_⟩:=KK;have j1:(q:Int)<m:=by omega
   obtain⟨u,hu⟩:∃ u,u=q+1:=⟨_,rfl⟩
   have e1:(q:Int)+1=(u:Int):=by omega
   have k0:IntKind.i64.wrap (u:Int)=(u:Int):=by rw [IntKind.wrap_i64];omega
   have HU:=kf hu;clear hvi hcl hvx hu hsz hpm;by_cases hlast:u=m
   ·have HEN:Hid ((ts++[nmT (S p),x])++emF S V (Q.drop (q+1))=emF S V Q):=by
     show _=_;rw [<- HEM.out,hdr,List.drop_of_length_le (l:=Q) (by rw [HQL.out];have:=HU.out;omega),v1i,HVV.out,List.append_assoc]
    have f1:((u:Int)==(m:Int))=true:=by simp;omega
    have f2:(u==m)=true:=by simp;omega
    clear hdr hp hlast;go_upto_region 7 with fail;go_quiet (fail);go_upto_region 8 with fail;have HXD:=kf (HDX.out.call (((Chg.refl NoS wr).drewN nq).drew));have HDD:=kf (HDX.out.call ((Chg.refl NoS wr).drewN nq));clear k1;generalize wr.drewN nq=wq at *;refine z3b (fun w'=>w'.cell? ⟨g4,3,none⟩=some (.slice A3 N c3)/\w'.cell? ⟨b,off+2*p*4+2,none⟩=some (.string (S p))/\w'.cell? ⟨b,off+2*p*4+4,none⟩=some (.int .i64 xk)/\w'.cell? ⟨b,off+2*p*4+4+1,none⟩=some (.int .i64 xn)/\w'.cell? ⟨b,off+2*p*4+4+2,none⟩=some (.string xs)/\w'.cell? ⟨b,off+2*p*4+4+3,none⟩=some (.slice xA xl xc)) 13 (by kernel_rfl) (HXD.out.held HCL.out) (fun hHeld=>?_);refine z06 (i:=0) (oi:={ dst:=some 45,op:=Go.Op.fieldAddr 24 (Go.Operand.tmp 4) 3,type:=0,pos:=_,after:=_,guard:=none }) (v:=?_) rfl (by kernel_rfl) (by kernel_rfl) (by kernel_rfl) (by kernel_rfl) (fun _ _ _ h=>h) (Or.inl ⟨by rfl,?_⟩) (by assumption) ?_;rotate_left
    ·intro w hSw;(try dsimp only at hSw);(try obtain⟨s0,s1,s2,s3,s4,s5⟩:=hSw);(first|(go_simp;done)|(go_simp;with_reducible rfl))
    try simp only [pkA]
    refine z06 (i:=1) (oi:={ dst:=some 46,op:=Go.Op.load 22 (Go.Operand.tmp 45),type:=22,pos:=_,after:=_,guard:=none }) (v:=?_) rfl (by kernel_rfl) (by kernel_rfl) (by kernel_rfl) (by kernel_rfl) (fun _ _ _ h=>h) (Or.inl ⟨by rfl,?_⟩) (by assumption) ?_;rotate_left
    ·intro w hSw;(try dsimp only at hSw);(try obtain⟨s0,s1,s2,s3,s4,s5⟩:=hSw);(first|(go_simp;done)|(go_simp;with_reducible rfl))
    try simp only [pkA]
    refine z06 (i:=2) (oi:={ dst:=some 47,op:=Go.Op.move (Go.Operand.tmp 6),type:=22,pos:=_,after:=_,guard:=none }) (v:=?_) rfl (by kernel_rfl) (by kernel_rfl) (by kernel_rfl) (by kernel_rfl) (fun _ _ _ h=>h) (Or.inl ⟨by rfl,?_⟩) (by assumption) ?_;rotate_left
    ·intro w hSw;(try dsimp only at hSw);(try obtain⟨s0,s1,s2,s3,s4,s5⟩:=hSw);(first|(go_simp;done)|(go_simp;with_reducible rfl))
    try simp only [pkA]
    refine z06 (i:=3) (oi:={ dst:=some 48,op:=Go.Op.indexAddr 22 (Go.Operand.tmp 47) (Go.Operand.const (Go.Value.int Go.IntKind.i64 0)),type:=0,pos:=_,after:=_,guard:=none }) (v:=?_) rfl (by kernel_rfl) (by kernel_rfl) (by kernel_rfl) (by kernel_rfl) (fun _ _ _ h=>h) (Or.inl ⟨by rfl,?_⟩) (by assumption) ?_;rotate_left
    ·intro w hSw;(try dsimp only at hSw);(try obtain⟨s0,s1,s2,s3,s4,s5⟩:=hSw);(first|(go_simp;done)|(go_simp;with_reducible rfl))
    try simp only [pkA]
    refine z06 (i:=4) (oi:={ dst:=some 49,op:=Go.Op.fieldAddr 24 (Go.Operand.tmp 48) 2,type:=0,pos:=_,after:=_,guard:=none }) (v:=?_) rfl (by kernel_rfl) (by kernel_rfl) (by kernel_rfl) (by kernel_rfl) (fun _ _ _ h=>h) (Or.inl ⟨by rfl,?_⟩) (by assumption) ?_;rotate_left
    ·intro w hSw;(try dsimp only at hSw);(try obtain⟨s0,s1,s2,s3,s4,s5⟩:=hSw);(first|(go_simp;done)|(go_simp;with_reducible rfl))
    try simp only [pkA]
    refine z06 (i:=5) (oi:={ dst:=some 50,op:=Go.Op.load 9 (Go.Operand.tmp 49),type:=9,pos:=_,after:=_,guard:=none }) (v:=?_) rfl (by kernel_rfl) (by kernel_rfl) (by kernel_rfl) (by kernel_rfl) (fun _ _ _ h=>h) (Or.inl ⟨by rfl,?_⟩) (by assumption) ?_;rotate_left
    ·intro w hSw;(try dsimp only at hSw);(try obtain⟨s0,s1,s2,s3,s4,s5⟩:=hSw);(first|(go_simp;done)|(go_simp;with_reducible rfl))
    try simp only [pkA]
    refine z06 (i:=7) (oi:={ dst:=some 52,op:=Go.Op.move (Go.Operand.tmp 6),type:=22,pos:=_,after:=_,guard:=none }) (v:=?_) rfl (by kernel_rfl) (by kernel_rfl) (by kernel_rfl) (by kernel_rfl) (fun _ _ _ h=>h) (Or.inl ⟨by rfl,?_⟩) (by assumption) ?_;rotate_left
    ·intro w hSw;(try dsimp only at hSw);(try obtain⟨s0,s1,s2,s3,s4,s5⟩:=hSw);(first|(go_simp;done)|(go_simp;with_reducible rfl))
    try simp only [pkA]
    refine z06 (i:=8) (oi:={ dst:=some 53,op:=Go.Op.indexAddr 22 (Go.Operand.tmp 52) (Go.Operand.const (Go.Value.int Go.IntKind.i64 1)),type:=0,pos:=_,after:=_,guard:=none }) (v:=?_) rfl (by kernel_rfl) (by kernel_rfl) (by kernel_rfl) (by kernel_rfl) (fun _ _ _ h=>h) (Or.inl ⟨by rfl,?_⟩) (by assumption) ?_;rotate_left
    ·intro w hSw;(try dsimp only at hSw);(try obtain⟨s0,s1,s2,s3,s4,s5⟩:=hSw);(first|(go_simp;done)|(go_simp;with_reducible rfl))
    try simp only [pkA]
    refine z06 (i:=9) (oi:={ dst:=some 54,op:=Go.Op.load 24 (Go.Operand.tmp 53),type:=24,pos:=_,after:=_,guard:=none }) (v:=?_) rfl (by kernel_rfl) (by kernel_rfl) (by kernel_rfl) (by kernel_rfl) (fun _ _ _ h=>h) (Or.inl ⟨by rfl,?_⟩) (by assumption) ?_;rotate_left
    ·intro w hSw;(try dsimp only at hSw);(try obtain⟨s0,s1,s2,s3,s4,s5⟩:=hSw);(first|(go_simp;done)|(go_simp;with_reducible rfl))
    try simp only [pkA]
    refine z5i (i:=6) (o:={ dst:=some 51,op:=Go.Op.call { callee:=Go.Callee.value (Go.Operand.func 34),args:=#[Go.Operand.tmp 50],argTypes:=#[9] },type:=24,pos:=_,after:=_,guard:=none }) (by kernel_rfl) rfl (by decide) (fun K hK=>?_);go_simp;(go_at_call 34;refine(z5k (S p) _).mono ?_;rintro e w7 ⟨rfl,hc7⟩;have hx7:=HXD.out.call hc7)
    refine hK.out _ _ (hx7.held HCL.out) (fun hHeld=>?_);clear hK K;try simp only [pkA]
    refine z5i (i:=10) (o:={ dst:=some 55,op:=Go.Op.buildSlice 22 2 #[(0,Go.Operand.tmp 51),(1,Go.Operand.tmp 54)],type:=22,pos:=_,after:=_,guard:=none }) (by kernel_rfl) rfl (by decide) (fun K hK=>?_);go_simp;refine hK.out _ _ ((hx7.call ((Chg.refl NoS w7).alloc _)).held HCL.out) (fun hHeld=>?_);clear hK K;try simp only [pkA]
    refine z5i (i:=11) (o:={ dst:=some 56,op:=Go.Op.call { callee:=Go.Callee.builtin Go.Builtin.append,args:=#[Go.Operand.tmp 46,Go.Operand.tmp 55],argTypes:=#[22,22] },type:=22,pos:=_,after:=_,guard:=none }) (by kernel_rfl) rfl (by decide) (fun K hK=>?_);(refine z9s (w:=w) (wr:=w7) (new:=[⟨5,0,S p,none,0,0⟩,⟨xk,xn,xs,xA,xl,xc⟩]) (tn:=[nmT (S p),x]) (m:=2) (cx:=2) (X:=some ⟨w7.heap.size,0,none⟩) (A:=A3) (n:=N) (c:=c3) rfl (.tmp 46) (.tmp 55) rfl rfl rfl hx7.bx.row ((Chg.refl NoS w7).alloc _) (by omega) (by omega) (y5g (e:=⟨5,0,S p,none,0,0⟩) (f:=⟨xk,xn,xs,xA,xl,xc⟩) (Blk.new w7 _ _)) rfl rfl (v2p HNM.out HVX.out) ?_;intro A4 c4 w8 hg8 hk8;have hx8:=(hx7.call ((Chg.refl NoS w7).alloc _)).app hg8 hk8)
    refine hK.out _ _ (hx8.held HCL.out) (fun hHeld=>?_);clear hK K;try simp only [pkA]
    refine z06 (i:=12) (oi:={ dst:=some 57,op:=Go.Op.fieldAddr 24 (Go.Operand.tmp 4) 3,type:=0,pos:=_,after:=_,guard:=none }) (v:=?_) rfl (by kernel_rfl) (by kernel_rfl) (by kernel_rfl) (by kernel_rfl) (fun _ _ _ h=>h) (Or.inl ⟨by rfl,?_⟩) (by assumption) ?_;rotate_left
    ·intro w hSw;(try dsimp only at hSw);(try obtain⟨s0,s1,s2,s3,s4,s5⟩:=hSw);(first|(go_simp;done)|(go_simp;with_reducible rfl))
    try simp only [pkA]
    refine z60 (o:={ dst:=none,op:=Go.Op.store 22 (Go.Operand.tmp 57) (Go.Operand.tmp 56),type:=0,pos:=_,after:=_,guard:=none }) (by kernel_rfl) rfl (by kernel_rfl) (fun K hK=>?_);have z3:=hx8.bx.b.blk.frozen 3;have q3:=hx8.bx.b.blk.cell 3;simp at q3;go_simp;refine hK.out _ _ ?_;clear hK K;try simp only [pkA]
    have HDN:=kf hx8.put;clear z3 q3 hx7 hk8 hg8;go_wp2_with fail;go_roundw
    case rel=>exact⟨q+1,_,ts++[nmT (S p),x],N+2,A4,c4,by omega,by go_num,by omega,HDN,HEN⟩
    case measure=>simp [intOf];omega
   ·obtain⟨p2,hp2⟩:∃ p2,Q[u]?=some p2:=⟨_,List.getElem?_eq_getElem (by rw [HQL.out];have:=HU.out;omega)⟩
    have hdr2:Q.drop (q+1)=p2::Q.drop (u+1):=by
     have h1:=(List.getElem?_eq_some_iff.1 hp2)
     obtain⟨h1,h3⟩:=h1;rw [<- HU.out,List.drop_eq_getElem_cons h1,h3]
    obtain⟨_,_,_,_,_,_,_,_,_,_,hcl2⟩:=HPC.out p2 (HQM.out p2 (List.mem_of_getElem? hp2));have k3:=(hcl2 wr HDX.out.bx.row.chg).1;have k4:=HDX.out.pr.cell hp2;unfold z3u at k4;have f1:((u:Int)==(m:Int))=false:=by simp;omega
    have f2:(u==m)=false:=by simp;omega
    have j2:(u:Int)<m:=by have:=HU.out;omega
    have j3:(0:Int)<=(u:Int):=by omega
    by_cases hss:S p2=S p
    ·have HEN:Hid (ts++emF S V (Q.drop (q+1))=emF S V Q):=by
      show _=_;rw [<- HEM.out,hdr,hdr2,v86 hss]
     rw [hss] at k3;clear hdr hdr2 hp hp2 hcl2 hss hlast;go_upto_region 7 with fail;go_quiet (fail);go_wp2_with fail;go_roundw
     case rel=>exact⟨q+1,es,ts,N,A3,c3,by omega,by go_num,by omega,HDX.out.call ((Chg.refl NoS _).drewN nq),HEN⟩
     case measure=>simp [intOf];omega
    ·have HEN:Hid ((ts++[nmT (S p),x])++emF S V (Q.drop (q+1))=emF S V Q):=by
      show _=_;rw [<- HEM.out,hdr,hdr2,v85 hss,HVV.out,List.append_assoc]
     have hs3:¬(S p2).toList=(S p).toList:=z10 hss;have hs4:((S p2).toList==(S p).toList)=false:=by simpa using hs3
     clear hdr hdr2 hp hp2 hcl2 hss hlast;go_upto_region 7 with fail;go_quiet (fail);clear k3 k4;go_upto_region 8 with fail;have HXD:=kf (HDX.out.call (((Chg.refl NoS wr).drewN nq).drew));have HDD:=kf (HDX.out.call ((Chg.refl NoS wr).drewN nq));clear k1;generalize wr.drewN nq=wq at *;refine z3b (fun w'=>w'.cell? ⟨g4,3,none⟩=some (.slice A3 N c3)/\w'.cell? ⟨b,off+2*p*4+2,none⟩=some (.string (S p))/\w'.cell? ⟨b,off+2*p*4+4,none⟩=some (.int .i64 xk)/\w'.cell? ⟨b,off+2*p*4+4+1,none⟩=some (.int .i64 xn)/\w'.cell? ⟨b,off+2*p*4+4+2,none⟩=some (.string xs)/\w'.cell? ⟨b,off+2*p*4+4+3,none⟩=some (.slice xA xl xc)) 13 (by kernel_rfl) (HXD.out.held HCL.out) (fun hHeld=>?_);refine z06 (i:=0) (oi:={ dst:=some 45,op:=Go.Op.fieldAddr 24 (Go.Operand.tmp 4) 3,type:=0,pos:=_,after:=_,guard:=none }) (v:=?_) rfl (by kernel_rfl) (by kernel_rfl) (by kernel_rfl) (by kernel_rfl) (fun _ _ _ h=>h) (Or.inl ⟨by rfl,?_⟩) (by assumption) ?_;rotate_left
     ·intro w hSw;(try dsimp only at hSw);(try obtain⟨s0,s1,s2,s3,s4,s5⟩:=hSw);(first|(go_simp;done)|(go_simp;with_reducible rfl))
     try simp only [pkA]
     refine z06 (i:=1) (oi:={ dst:=some 46,op:=Go.Op.load 22 (Go.Operand.tmp 45),type:=22,pos:=_,after:=_,guard:=none }) (v:=?_) rfl (by kernel_rfl) (by kernel_rfl) (by kernel_rfl) (by kernel_rfl) (fun _ _ _ h=>h) (Or.inl ⟨by rfl,?_⟩) (by assumption) ?_;rotate_left
     ·intro w hSw;(try dsimp only at hSw);(try obtain⟨s0,s1,s2,s3,s4,s5⟩:=hSw);(first|(go_simp;done)|(go_simp;with_reducible rfl))
     try simp only [pkA]
     refine z06 (i:=2) (oi:={ dst:=some 47,op:=Go.Op.move (Go.Operand.tmp 6),type:=22,pos:=_,after:=_,guard:=none }) (v:=?_) rfl (by kernel_rfl) (by kernel_rfl) (by kernel_rfl) (by kernel_rfl) (fun _ _ _ h=>h) (Or.inl ⟨by rfl,?_⟩) (by assumption) ?_;rotate_left
     ·intro w hSw;(try dsimp only at hSw);(try obtain⟨s0,s1,s2,s3,s4,s5⟩:=hSw);(first|(go_simp;done)|(go_simp;with_reducible rfl))
     try simp only [pkA]
     refine z06 (i:=3) (oi:={ dst:=some 48,op:=Go.Op.indexAddr 22 (Go.Operand.tmp 47) (Go.Operand.const (Go.Value.int Go.IntKind.i64 0)),type:=0,pos:=_,after:=_,guard:=none }) (v:=?_) rfl (by kernel_rfl) (by kernel_rfl) (by kernel_rfl) (by kernel_rfl) (fun _ _ _ h=>h) (Or.inl ⟨by rfl,?_⟩) (by assumption) ?_;rotate_left
     ·intro w hSw;(try dsimp only at hSw);(try obtain⟨s0,s1,s2,s3,s4,s5⟩:=hSw);(first|(go_simp;done)|(go_simp;with_reducible rfl))
     try simp only [pkA]
     refine z06 (i:=4) (oi:={ dst:=some 49,op:=Go.Op.fieldAddr 24 (Go.Operand.tmp 48) 2,type:=0,pos:=_,after:=_,guard:=none }) (v:=?_) rfl (by kernel_rfl) (by kernel_rfl) (by kernel_rfl) (by kernel_rfl) (fun _ _ _ h=>h) (Or.inl ⟨by rfl,?_⟩) (by assumption) ?_;rotate_left
     ·intro w hSw;(try dsimp only at hSw);(try obtain⟨s0,s1,s2,s3,s4,s5⟩:=hSw);(first|(go_simp;done)|(go_simp;with_reducible rfl))
     try simp only [pkA]
     refine z06 (i:=5) (oi:={ dst:=some 50,op:=Go.Op.load 9 (Go.Operand.tmp 49),type:=9,pos:=_,after:=_,guard:=none }) (v:=?_) rfl (by kernel_rfl) (by kernel_rfl) (by kernel_rfl) (by kernel_rfl) (fun _ _ _ h=>h) (Or.inl ⟨by rfl,?_⟩) (by assumption) ?_;rotate_left
     ·intro w hSw;(try dsimp only at hSw);(try obtain⟨s0,s1,s2,s3,s4,s5⟩:=hSw);(first|(go_simp;done)|(go_simp;with_reducible rfl))
     try simp only [pkA]
     refine z06 (i:=7) (oi:={ dst:=some 52,op:=Go.Op.move (Go.Operand.tmp 6),type:=22,pos:=_,after:=_,guard:=none }) (v:=?_) rfl (by kernel_rfl) (by kernel_rfl) (by kernel_rfl) (by kernel_rfl) (fun _ _ _ h=>h) (Or.inl ⟨by rfl,?_⟩) (by assumption) ?_;rotate_left
     ·intro w hSw;(try dsimp only at hSw);(try obtain⟨s0,s1,s2,s3,s4,s5⟩:=hSw);(first|(go_simp;done)|(go_simp;with_reducible rfl))
     try simp only [pkA]
     refine z06 (i:=8) (oi:={ dst:=some 53,op:=Go.Op.indexAddr 22 (Go.Operand.tmp 52) (Go.Operand.const (Go.Value.int Go.IntKind.i64 1)),type:=0,pos:=_,after:=_,guard:=none }) (v:=?_) rfl (by kernel_rfl) (by kernel_rfl) (by kernel_rfl) (by kernel_rfl) (fun _ _ _ h=>h) (Or.inl ⟨by rfl,?_⟩) (by assumption) ?_;rotate_left
     ·intro w hSw;(try dsimp only at hSw);(try obtain⟨s0,s1,s2,s3,s4,s5⟩:=hSw);(first|(go_simp;done)|(go_simp;with_reducible rfl))
     try simp only [pkA]
     refine z06 (i:=9) (oi:={ dst:=some 54,op:=Go.Op.load 24 (Go.Operand.tmp 53),type:=24,pos:=_,after:=_,guard:=none }) (v:=?_) rfl (by kernel_rfl) (by kernel_rfl) (by kernel_rfl) (by kernel_rfl) (fun _ _ _ h=>h) (Or.inl ⟨by rfl,?_⟩) (by assumption) ?_;rotate_left
     ·intro w hSw;(try dsimp only at hSw);(try obtain⟨s0,s1,s2,s3,s4,s5⟩:=hSw);(first|(go_simp;done)|(go_simp;with_reducible rfl))
     try simp only [pkA]
     refine z5i (i:=6) (o:={ dst:=some 51,op:=Go.Op.call { callee:=Go.Callee.value (Go.Operand.func 34),args:=#[Go.Operand.tmp 50],argTypes:=#[9] },type:=24,pos:=_,after:=_,guard:=none }) (by kernel_rfl) rfl (by decide) (fun K hK=>?_);go_simp;(go_at_call 34;refine(z5k (S p) _).mono ?_;rintro e w7 ⟨rfl,hc7⟩;have hx7:=HXD.out.call hc7)
     refine hK.out _ _ (hx7.held HCL.out) (fun hHeld=>?_);clear hK K;try simp only [pkA]
     refine z5i (i:=10) (o:={ dst:=some 55,op:=Go.Op.buildSlice 22 2 #[(0,Go.Operand.tmp 51),(1,Go.Operand.tmp 54)],type:=22,pos:=_,after:=_,guard:=none }) (by kernel_rfl) rfl (by decide) (fun K hK=>?_);go_simp;refine hK.out _ _ ((hx7.call ((Chg.refl NoS w7).alloc _)).held HCL.out) (fun hHeld=>?_);clear hK K;try simp only [pkA]
     refine z5i (i:=11) (o:={ dst:=some 56,op:=Go.Op.call { callee:=Go.Callee.builtin Go.Builtin.append,args:=#[Go.Operand.tmp 46,Go.Operand.tmp 55],argTypes:=#[22,22] },type:=22,pos:=_,after:=_,guard:=none }) (by kernel_rfl) rfl (by decide) (fun K hK=>?_);(refine z9s (w:=w) (wr:=w7) (new:=[⟨5,0,S p,none,0,0⟩,⟨xk,xn,xs,xA,xl,xc⟩]) (tn:=[nmT (S p),x]) (m:=2) (cx:=2) (X:=some ⟨w7.heap.size,0,none⟩) (A:=A3) (n:=N) (c:=c3) rfl (.tmp 46) (.tmp 55) rfl rfl rfl hx7.bx.row ((Chg.refl NoS w7).alloc _) (by omega) (by omega) (y5g (e:=⟨5,0,S p,none,0,0⟩) (f:=⟨xk,xn,xs,xA,xl,xc⟩) (Blk.new w7 _ _)) rfl rfl (v2p HNM.out HVX.out) ?_;intro A4 c4 w8 hg8 hk8;have hx8:=(hx7.call ((Chg.refl NoS w7).alloc _)).app hg8 hk8)
     refine hK.out _ _ (hx8.held HCL.out) (fun hHeld=>?_);clear hK K;try simp only [pkA]
     refine z06 (i:=12) (oi:={ dst:=some 57,op:=Go.Op.fieldAddr 24 (Go.Operand.tmp 4) 3,type:=0,pos:=_,after:=_,guard:=none }) (v:=?_) rfl (by kernel_rfl) (by kernel_rfl) (by kernel_rfl) (by kernel_rfl) (fun _ _ _ h=>h) (Or.inl ⟨by rfl,?_⟩) (by assumption) ?_;rotate_left
     ·intro w hSw;(try dsimp only at hSw);(try obtain⟨s0,s1,s2,s3,s4,s5⟩:=hSw);(first|(go_simp;done)|(go_simp;with_reducible rfl))
     try simp only [pkA]
     refine z60 (o:={ dst:=none,op:=Go.Op.store 22 (Go.Operand.tmp 57) (Go.Operand.tmp 56),type:=0,pos:=_,after:=_,guard:=none }) (by kernel_rfl) rfl (by kernel_rfl) (fun K hK=>?_);have z3:=hx8.bx.b.blk.frozen 3;have q3:=hx8.bx.b.blk.cell 3;simp at q3;go_simp;refine hK.out _ _ ?_;clear hK K;try simp only [pkA]
     have HDN:=kf hx8.put;clear z3 q3 hx7 hk8 hg8;go_wp2_with fail;go_roundw
     case rel=>exact⟨q+1,_,ts++[nmT (S p),x],N+2,A4,c4,by omega,by go_num,by omega,HDN,HEN⟩
     case measure=>simp [intOf];omega
  ·obtain rfl:q=m:=by omega
   have HTS:Hid (ts=emF S V Q):=by
    have h:=HEM.out;rwa [List.drop_of_length_le (by rw [HQL.out];exact Nat.le_refl _),emF,List.append_nil] at h
   have q0:=HDX.out.bx.b.blk.cell 0;have q1:=HDX.out.bx.b.blk.cell 1;have q2:=HDX.out.bx.b.blk.cell 2;have q3:=HDX.out.bx.b.blk.cell 3;have z0:=HDX.out.bx.o.blk.frozen 0;have z1:=HDX.out.bx.o.blk.frozen 1;have z2:=HDX.out.bx.o.blk.frozen 2;have z3:=HDX.out.bx.o.blk.frozen 3;have y0:=HDX.out.bx.o.blk.cell 0;have y1:=HDX.out.bx.o.blk.cell 1;have y2:=HDX.out.bx.o.blk.cell 2;have y3:=HDX.out.bx.o.blk.cell 3;simp at q0 q1 q2 q3 y0 y1 y2 y3;go_wp2_with fail;try simp only [Exit.noGoto_ret]
   clear y0 y1 y2 y3;obtain⟨hb,hvv,hcc⟩:=HDX.out.bx.fin (k:=7) (n:=0) (s:=⟨#[]⟩) rfl (by unfold maxLen;omega) (by decide) (by decide) (by decide) _ rfl;have r0:=hb.blk.cell 0;have r1:=hb.blk.cell 1;have r2:=hb.blk.cell 2;have r3:=hb.blk.cell 3;simp at r0 r1 r2 r3;refine bodyPost_ret (v:=.agg #[.int .i64 7,.int .i64 0,.string ⟨#[]⟩,.slice A3 N c3]) (by simp [results,Tryz.results17,go_sem,r0,r1,r2,r3]) rfl ?_;exact⟨es,A3,N,c3,rfl,by rw [HDT.out,<- HTS.out];exact hvv,by omega⟩
theorem z48 [LVI] (A:Option Addr) (len cap:Nat) (w:World) (hA:A=none->len=0/\cap=0) (h1:len<=1) :
  Calls Tryz.prog 17 #[.slice A len cap] w (y8n w []):=by
 have t1:(len:Int).tdiv 2=0:=by rw [Int.tdiv_eq_ediv_of_nonneg (by omega)];omega
 have t2:(len:Int) / 2=0:=by omega
 have j1:(0:Int)<=cap:=by omega
 have HCK:=kf (fun W=>z5q W A 0 cap);have HSN:=kf (fun(A1:Option Addr) (c1:Nat) (W:World)=>z7t A1 c1 (.func (.func 32) #[] #[]) W);have HC1:=kf ((Chg.refl NoS w).alloc (.cells #[.int .i64 0,.int .i64 0,.string ⟨#[]⟩,.slice none 0 0] 24));have HO:=kf (⟨Blk.new w 24 #[.int .i64 0,.int .i64 0,.string ⟨#[]⟩,.slice none 0 0],Nat.le_refl _⟩:PB w _ _ _);have hbs:=(Blk.new (w.alloc (.cells #[.int .i64 0,.int .i64 0,.string ⟨#[]⟩,.slice none 0 0] 24)) 22 #[.slice A 0 cap]).alloc (.cells #[.int .i64 2] 3);have hbn:=Blk.new ((w.alloc (.cells #[.int .i64 0,.int .i64 0,.string ⟨#[]⟩,.slice none 0 0] 24)).alloc (.cells #[.slice A 0 cap] 22)) 3 #[.int .i64 2];simp only [World.size_alloc] at hbs hbn;have HCC:=kf (z4b 0 _ _ 0 0 cap A _ (by omega) (fun h=>absurd h (by omega)) (by omega) (hbs.cell 0) (hbn.cell 0));clear hbs hbn;cases A with
 |none =>
  obtain⟨rfl,rfl⟩:=hA rfl;go_enter Tryz.func17,Tryz.ntmps17
  go_upto_region 5 with(first
   |(go_at_call 30;refine(HCK.out _).mono ?_;rintro e w3 ⟨rfl,rfl⟩)
   |(go_at_call 29;refine HCC.out.mono ?_;rintro e w4 ⟨v,rfl,hrow,hb4⟩;obtain⟨A1,c1,rfl,_⟩:=z0t hrow;have HC4:=kf (((HC1.out.alloc _).alloc _).trans (Chg.of_below (S:=NoS) hb4) (fun _ _ e=>e));have HO4:=kf (((HO.out.alloc _).alloc _).call (Chg.of_below (S:=NoS) hb4));clear hrow hb4)
   |(go_at_call 31;refine(HSN.out _ _ _).mono ?_;rintro e w5 ⟨rfl,h5⟩;subst h5))
  have HX:Hid (Bx w (w5.alloc (.cells #[.int .i64 7,.int .i64 0,.string ⟨#[]⟩,.slice none 0 0] 24)) w5.heap.size w.heap.size #[.int .i64 7,.int .i64 0,.string ⟨#[]⟩,.slice none 0 0] #[.int .i64 0,.int .i64 0,.string ⟨#[]⟩,.slice none 0 0] [] [] 0 none 0) :=
   ⟨⟨Blk.new _ _ _,HC4.out.size⟩,⟨HO4.out.blk.alloc _,HO4.out.new⟩,GV.start (HC4.out.alloc _),fun e=>(by cases e),fun e=>(by cases e),fun e=>by have:=HO4.out.blk.lt;omega⟩
  go_loopw [20] (fun v wr=>v=.int .i64 0/\wr=w5.alloc (.cells #[.int .i64 7,.int .i64 0,.string ⟨#[]⟩,.slice none 0 0] 24)) (fun _ _=>0)
  case atStart=>exact⟨rfl,rfl⟩
  case round =>
   obtain⟨rfl,hwr⟩:=hrel;rw [<- hwr] at HX;obtain⟨g4,hg4⟩:∃ g,g=w5.heap.size:=⟨_,rfl⟩
   rw [<- hg4] at HX ⊢;clear hwr hg4;have q0:=HX.out.b.blk.cell 0;have q1:=HX.out.b.blk.cell 1;have q2:=HX.out.b.blk.cell 2;have q3:=HX.out.b.blk.cell 3;have z0:=HX.out.o.blk.frozen 0;have z1:=HX.out.o.blk.frozen 1;have z2:=HX.out.o.blk.frozen 2;have z3:=HX.out.o.blk.frozen 3;have y0:=HX.out.o.blk.cell 0;have y1:=HX.out.o.blk.cell 1;have y2:=HX.out.o.blk.cell 2;have y3:=HX.out.o.blk.cell 3;simp at q0 q1 q2 q3 y0 y1 y2 y3;go_wp2_with fail;try simp only [Exit.noGoto_ret]
   clear y0 y1 y2 y3;obtain⟨hb,hvv,hcc⟩:=HX.out.fin (k:=7) (n:=0) (s:=⟨#[]⟩) rfl (by unfold maxLen;omega) (by decide) (by decide) (by decide) _ rfl;have r0:=hb.blk.cell 0;have r1:=hb.blk.cell 1;have r2:=hb.blk.cell 2;have r3:=hb.blk.cell 3;simp at r0 r1 r2 r3;refine bodyPost_ret (v:=.agg #[.int .i64 7,.int .i64 0,.string ⟨#[]⟩,.slice none 0 0]) (by simp [results,Tryz.results17,go_sem,r0,r1,r2,r3]) rfl ?_;exact⟨[],none,0,0,rfl,hvv,by omega⟩
 |some ad =>
  go_enter Tryz.func17,Tryz.ntmps17
  go_upto_region 5 with(first
   |(go_at_call 30;refine(HCK.out _).mono ?_;rintro e w3 ⟨rfl,rfl⟩)
   |(go_at_call 29;refine HCC.out.mono ?_;rintro e w4 ⟨v,rfl,hrow,hb4⟩;obtain⟨A1,c1,rfl,_⟩:=z0t hrow;have HC4:=kf (((HC1.out.alloc _).alloc _).trans (Chg.of_below (S:=NoS) hb4) (fun _ _ e=>e));have HO4:=kf (((HO.out.alloc _).alloc _).call (Chg.of_below (S:=NoS) hb4));clear hrow hb4)
   |(go_at_call 31;refine(HSN.out _ _ _).mono ?_;rintro e w5 ⟨rfl,h5⟩;subst h5))
  have HX:Hid (Bx w (w5.alloc (.cells #[.int .i64 7,.int .i64 0,.string ⟨#[]⟩,.slice none 0 0] 24)) w5.heap.size w.heap.size #[.int .i64 7,.int .i64 0,.string ⟨#[]⟩,.slice none 0 0] #[.int .i64 0,.int .i64 0,.string ⟨#[]⟩,.slice none 0 0] [] [] 0 none 0) :=
   ⟨⟨Blk.new _ _ _,HC4.out.size⟩,⟨HO4.out.blk.alloc _,HO4.out.new⟩,GV.start (HC4.out.alloc _),fun e=>(by cases e),fun e=>(by cases e),fun e=>by have:=HO4.out.blk.lt;omega⟩
  go_loopw [20] (fun v wr=>v=.int .i64 0/\wr=w5.alloc (.cells #[.int .i64 7,.int .i64 0,.string ⟨#[]⟩,.slice none 0 0] 24)) (fun _ _=>0)
  case atStart=>exact⟨rfl,rfl⟩
  case round =>
   obtain⟨rfl,hwr⟩:=hrel;rw [<- hwr] at HX;obtain⟨g4,hg4⟩:∃ g,g=w5.heap.size:=⟨_,rfl⟩
   rw [<- hg4] at HX ⊢;clear hwr hg4;have q0:=HX.out.b.blk.cell 0;have q1:=HX.out.b.blk.cell 1;have q2:=HX.out.b.blk.cell 2;have q3:=HX.out.b.blk.cell 3;have z0:=HX.out.o.blk.frozen 0;have z1:=HX.out.o.blk.frozen 1;have z2:=HX.out.o.blk.frozen 2;have z3:=HX.out.o.blk.frozen 3;have y0:=HX.out.o.blk.cell 0;have y1:=HX.out.o.blk.cell 1;have y2:=HX.out.o.blk.cell 2;have y3:=HX.out.o.blk.cell 3;simp at q0 q1 q2 q3 y0 y1 y2 y3;go_wp2_with fail;try simp only [Exit.noGoto_ret]
   clear y0 y1 y2 y3;obtain⟨hb,hvv,hcc⟩:=HX.out.fin (k:=7) (n:=0) (s:=⟨#[]⟩) rfl (by unfold maxLen;omega) (by decide) (by decide) (by decide) _ rfl;have r0:=hb.blk.cell 0;have r1:=hb.blk.cell 1;have r2:=hb.blk.cell 2;have r3:=hb.blk.cell 3;simp at r0 r1 r2 r3;refine bodyPost_ret (v:=.agg #[.int .i64 7,.int .i64 0,.string ⟨#[]⟩,.slice none 0 0]) (by simp [results,Tryz.results17,go_sem,r0,r1,r2,r3]) rfl ?_;exact⟨[],none,0,0,rfl,hvv,by omega⟩
theorem dictOf_k [LVI] (l:List VT) (es0:List VC) (A:Option Addr) (len cap:Nat) (w:World) (hl:l.length=len) (hel:es0.length=len) (hsr:Src w 4 A len cap (z04 es0)) (hvi:∀ (j:Nat) (t:VT) (e:VC),l[j]?=some t->es0[j]?=some e->LVI.VI t e) (hA:∀ a,A=some a->a.spot=none) (hcap:len<=cap) (h40:len<=500000) (hks:∀ t∈l,t.str.size<=maxLen) :
  Calls Tryz.prog 17 #[.slice A len cap] w (y8n w (z1p l)):=by
 by_cases h:len<=1
 ·rw [y1z (l:=l) (by rw [hl];exact h)];exact z48 A len cap w hsr.2.1 h
 ·cases A with
  |none=>have:=hsr.2.1 rfl;omega
  |some a =>
   obtain⟨b,off,k⟩:=a;have:=hA _ rfl;simp only [] at this;subst this;exact y20 l b off len cap w hl es0 hel hsr hvi hcap h40 (by omega) hks
end Go.Proofs.YtmibnkddappgiaaGreatDoor.KD
namespace Go.Proofs.YtmibnkddappgiaaGreatDoor
open Go.RowKit
def ob (A:Option Addr):Option Nat:=A.map Addr.block
theorem z28 (A:Option Addr) (n c:Nat):(Value.slice A n c).ownBlock=ob A:=by cases A<;>rfl
def Ins (O:Nat->Prop) (w:World) (t:VT) (e:VC):Prop:=∀ V,Chg O w V->ValIs V t e
theorem Ins.now {O:Nat->Prop} {w:World} {t:VT} {e:VC} (h:Ins O w t e):ValIs w t e:=h w (Chg.refl _ _)
theorem Ins.turn {O O':Nat->Prop} {w w':World} {t:VT} {e:VC} (h:Ins O w t e) (hc:Chg O w w') (hO:∀ i,i<w.heap.size->O' i->O i):Ins O' w' t e:=fun V hV=>h V (hc.trans hV hO)
theorem Ins.chg {O:Nat->Prop} {w w':World} {t:VT} {e:VC} (h:Ins O w t e) (hc:Chg NoS w w'):Ins O w' t e:=h.turn (hc.mono (fun _ _ e=>e.elim)) (fun _ _ h=>h)
theorem y55 {w:World} {t:VT} {e:VC} (h:ValIs w t e):e.k=t.kind/\e.n=t.num/\e.s=t.str:=by
 obtain⟨k,n,s,l⟩:=t;obtain⟨h1,h2,h3,_⟩:=h.inv;exact⟨h1,h2,h3⟩
theorem Ins.eq {O:Nat->Prop} {w:World} {t:VT} {e:VC} (h:Ins O w t e):e.k=t.kind/\e.n=t.num/\e.s=t.str:=y55 h.now
def InsB (w0:World) (O:Nat->Prop) (w:World) (t:VT) (e:VC):Prop:=Ins (fun i=>O i\/i<w0.heap.size) w t e
theorem InsB.now {w0:World} {O:Nat->Prop} {w:World} {t:VT} {e:VC} (h:InsB w0 O w t e):ValIs w t e:=Ins.now h
theorem InsB.turn {w0:World} {O O':Nat->Prop} {w w':World} {t:VT} {e:VC} (h:InsB w0 O w t e) (hc:Chg O w w') (hO:∀ i,i<w.heap.size->O' i->O i):InsB w0 O' w' t e:=Ins.turn h (hc.mono (fun _ _ e=>.inl e)) (fun i hi e=>e.imp (hO i hi) id)
theorem InsB.chg {w0:World} {O:Nat->Prop} {w w':World} {t:VT} {e:VC} (h:InsB w0 O w t e) (hc:Chg NoS w w'):InsB w0 O w' t e:=Ins.chg h hc
theorem InsB.eq {w0:World} {O:Nat->Prop} {w:World} {t:VT} {e:VC} (h:InsB w0 O w t e):e.k=t.kind/\e.n=t.num/\e.s=t.str:=y55 h.now
theorem z1y (O:Nat->Prop) (w:World) (k n:Int) (s:ByteArray) (hk:-9223372036854775808<=k/\k<=9223372036854775807) (hn:-9223372036854775808<=n/\n<=9223372036854775807) (hs:s.size<=maxLen):Ins O w (.mk k n s []) ⟨k,n,s,none,0,0⟩ :=
 fun V _=>.mk ⟨k,n,s,none,0,0⟩ [] ⟨hk,hn,hs,fun _=>⟨rfl,rfl⟩,Nat.le_refl _,Nat.zero_le _⟩ rfl (.nil _ _)
theorem v3r {w:World} {es:List VC} {ts:List VT} {n c:Nat} {A:Option Addr} (hsrc:Src w 4 A n c (z04 es)) (hl:es.length=n) (ht:ts.length=n) (is:∀ (j:Nat) (t:VT) (e:VC),ts[j]?=some t->es[j]?=some e->ValIs w t e):RowIs w A 0 ts:=by
 rcases A with _|ad
 ·have h0:=(hsrc.2.1 rfl).1;rw [h0] at ht;rw [List.eq_nil_of_length_eq_zero ht];exact .nil _ _
 ·have key:∀ (m j:Nat),j+m=n->RowIs w (some ad) j (ts.drop j):=by
   intro m;induction m with
   |zero =>
    intro j hj;rw [List.drop_of_length_le (by rw [ht];omega)];exact .nil _ _
   |succ m ih =>
    intro j hj;have hjt:j<ts.length:=by rw [ht];omega
    have hje:j<es.length:=by rw [hl];omega
    rw [List.drop_eq_getElem_cons hjt];refine .cons ad j _ _ es[j] (fun i hi=>?_) (is j _ _ (List.getElem?_eq_getElem hjt) (List.getElem?_eq_getElem hje)) (ih (j+1) (by omega));have h1:=z2n (List.getElem?_eq_getElem hje) hi;rw [List.getElem?_eq_getElem (show i<es[j].cells.length from hi)] at h1 ⊢;exact hsrc.2.2 ad rfl _ _ h1
  have:=key n 0 (by omega);rwa [List.drop_zero] at this
theorem y2z {w:World} {e:TypeId} {size n c:Nat} {A:Option Addr} {xs:List Value} (h:w.ownsRow 0 e size (.slice A n c) n xs):(A=none->n=0/\c=0)/\n<=c/\c<=maxLen/\∀ a,A=some a->a=⟨a.block,0,none⟩:=by
 rcases h.2 with⟨h1,h0⟩|⟨g',cap,cur,h1,hb,hh,h2,h3,_⟩
 ·simp only [Value.slice.injEq] at h1;obtain⟨rfl,_,rfl⟩:=h1;exact⟨fun _=>⟨h0,rfl⟩,by omega,by omega,fun a ha=>(by cases ha)⟩
 ·simp only [Value.slice.injEq] at h1;obtain⟨rfl,_,rfl⟩:=h1;exact⟨fun e=>(by cases e),h2,h3,fun a ha=>(by cases ha;rfl)⟩
theorem y1p {O:Nat->Prop} {w:World} {es:List VC} {ts:List VT} {n c:Nat} {A:Option Addr} {k v:Int} {s:ByteArray} (hown:w.ownsRow 0 24 4 (.slice A n c) n (z04 es)) (hb:∀ g,ob A=some g->¬O g) (hl:es.length=n) (ht:ts.length=n)
  (is:∀ (j:Nat) (t:VT) (e:VC),ts[j]?=some t->es[j]?=some e->Ins O w t e) (hk:-9223372036854775808<=k/\k<=9223372036854775807) (hv:-9223372036854775808<=v/\v<=9223372036854775807) (hs:s.size<=maxLen):Ins O w (.mk k v s ts) ⟨k,v,s,A,n,c⟩:=by
 intro V hV;have hg:=y2z hown;have h1:=z0p hown hV (fun g hg=>hb g (by rwa [z28] at hg));exact .mk ⟨k,v,s,A,n,c⟩ ts ⟨hk,hv,hs,hg.1,hg.2.1,Nat.le_trans hg.2.1 hg.2.2.1⟩ ht (v3r (z8h h1) hl ht (fun j t e h2 h3=>is j t e h2 h3 V hV))
abbrev v9h (O:Nat->Prop) (w:World):KD.LVI where
 VI:=Ins O w
 nm:=fun s hs=>z1y O w 5 0 s (by decide) (by decide) hs
 eq:=fun t e h=>h.eq
structure FrM where
 k:Int
 es:List VC
 ts:List VT
 A:Option Addr
 c:Nat
def FrM.vc (f:FrM):VC:=⟨f.k,0,⟨#[]⟩,f.A,f.ts.length,f.c⟩
structure FrOk (w0:World) (O:Nat->Prop) (w:World) (f:FrM):Prop where
 own:w.ownsRow 0 24 4 (.slice f.A f.ts.length f.c) f.ts.length (z04 f.es)
 len:f.es.length=f.ts.length
 is:∀ (j:Nat) (t:VT) (e:VC),f.ts[j]?=some t->f.es[j]?=some e->InsB w0 O w t e
 kb:f.k=6\/f.k=7
theorem FrOk.turn {w0:World} {O O' K:Nat->Prop} {w w':World} {f:FrM} (h:FrOk w0 O w f) (hc:Chg K w w') (hK:∀ i,i<w.heap.size->K i->O i) (hO:∀ i,i<w.heap.size->O' i->O i) (hf:∀ g,ob f.A=some g->¬K g):FrOk w0 O' w' f :=
 ⟨z0p h.own hc (fun g hg=>hf g (by rwa [z28] at hg)),h.len,fun j t e h1 h2=>(h.is j t e h1 h2).turn (hc.mono hK) hO,h.kb⟩
def stO (fs:List FrM):List (Int × List VT):=(fs.map fun f=>(f.k,f.ts)).reverse
theorem z0d (fs:List FrM) (f:FrM):stO (fs++[f])=(f.k,f.ts)::stO fs:=by simp [stO]
theorem y5f (fs:List FrM):(stO fs).length=fs.length:=by simp [stO]
structure Apart (O:Nat->Prop) (fs:List FrM) (S:Option Addr) (b:Nat):Prop where
 o:O b
 s:ob S≠some b
 f:∀ f∈fs,ob f.A≠some b
structure Stk (w0 w:World) (gs b1 b2:Nat) (c1 c2:Array Value) (fs:List FrM) (S:Option Addr) (c:Nat) (O:Nat->Prop):Prop where
 box:Blk w gs 137 #[.slice S fs.length c]
 row:w.ownsRow 0 24 4 (.slice S fs.length c) fs.length (z04 (fs.map FrM.vc))
 fr:∀ f∈fs,FrOk w0 O w f
 og:O gs
 os:∀ g,ob S=some g->O g
 of:∀ f∈fs,∀ g,ob f.A=some g->O g/\ob S≠some g
 ne:fs.Pairwise (fun f f'=>∀ g,ob f.A=some g->ob f'.A≠some g)
 new:∀ i,O i->w0.heap.size<=i
 lt:∀ i,O i->i<w.heap.size
 chg:Chg NoS w0 w
 h1:Blk w b1 24 c1
 h2:Blk w b2 24 c2
 a1:Apart O fs S b1
 a2:Apart O fs S b2
 n12:b1≠b2
section
variable {w0 w:World} {gs b1 b2 c:Nat} {c1 c2:Array Value} {fs:List FrM} {S:Option Addr} {O:Nat->Prop}
theorem Stk.gsS (h:Stk w0 w gs b1 b2 c1 c2 fs S c O):ob S≠some gs:=by
 have h1:=z1o h.row h.box (by decide);rwa [z28] at h1
theorem Stk.gsF (h:Stk w0 w gs b1 b2 c1 c2 fs S c O) {f:FrM} (hf:f∈fs):ob f.A≠some gs:=by
 have h1:=z1o (h.fr f hf).own h.box (by decide);rwa [z28] at h1
theorem Stk.gs1 (h:Stk w0 w gs b1 b2 c1 c2 fs S c O):gs≠b1:=Blk.ne_ h.box h.h1 (by decide)
theorem Stk.gs2 (h:Stk w0 w gs b1 b2 c1 c2 fs S c O):gs≠b2:=Blk.ne_ h.box h.h2 (by decide)
theorem Stk.far {w':World} {K:Nat->Prop} {c1' c2':Array Value} (h:Stk w0 w gs b1 b2 c1 c2 fs S c O) (hc:Chg K w w') (hK:∀ i,i<w.heap.size->K i->Apart O fs S i/\i≠gs) (k1:Blk w' b1 24 c1') (k2:Blk w' b2 24 c2'):Stk w0 w' gs b1 b2 c1' c2' fs S c O where
 box:=h.box.chg hc (fun e=>(hK _ h.box.lt e).2 rfl)
 row:=z0p h.row hc (fun g hg e=>by rw [z28] at hg;exact(hK g (h.lt g (h.os g hg)) e).1.s hg)
 fr:=fun f hf=>(h.fr f hf).turn hc (fun i hi e=>(hK i hi e).1.o) (fun _ _ e=>e) (fun g hg e=>(hK g (h.lt g (h.of f hf g hg).1) e).1.f f hf hg)
 og:=h.og
 os:=h.os
 of:=h.of
 ne:=h.ne
 new:=h.new
 lt:=fun i hi=>Nat.lt_of_lt_of_le (h.lt i hi) hc.size
 chg:=h.chg.trans hc (fun i hi e=>by
  have h1:=h.new i (hK i (Nat.lt_of_lt_of_le hi h.chg.size) e).1.o;omega)
 h1:=k1
 h2:=k2
 a1:=h.a1
 a2:=h.a2
 n12:=h.n12
theorem Stk.call {w':World} (h:Stk w0 w gs b1 b2 c1 c2 fs S c O) (hc:Chg NoS w w'):Stk w0 w' gs b1 b2 c1 c2 fs S c O:=h.far hc (fun _ _ e=>e.elim) (h.h1.chg hc (fun e=>e)) (h.h2.chg hc (fun e=>e))
theorem Stk.set1 {w':World} {c1':Array Value} (h:Stk w0 w gs b1 b2 c1 c2 fs S c O) (hc:Chg (fun i=>i=b1) w w') (k1:Blk w' b1 24 c1'):Stk w0 w' gs b1 b2 c1' c2 fs S c O :=
 h.far hc (fun i _ e=>by subst e;exact⟨h.a1,Ne.symm h.gs1⟩) k1 (h.h2.chg hc (Ne.symm h.n12))
theorem Stk.cells (h:Stk w0 w gs b1 b2 c1 c2 fs S c O):w.cell? ⟨gs,0,none⟩=some (.slice S fs.length c):=by have:=h.box.cell 0;simpa using this
theorem Stk.push {w1 W:World} {S':Option Addr} {c' g:Nat} {k:Int} (h:Stk w0 w gs b1 b2 c1 c2 fs S c O) (hk:k=6\/k=7) (hgr:w.grownBy w1 (Value.slice S fs.length c).ownBlock) (hS':ob S'=some g) (hat:ob S=some g\/g=w.heap.size) (hg1:g<w1.heap.size)
  (hW:Chg (fun i=>i=g\/i=gs) w1 W) (hbox:Blk W gs 137 #[.slice S' (fs.length+1) c']) (hrow:W.ownsRow 0 24 4 (.slice S' (fs.length+1) c') (fs.length+1) (z04 (fs.map FrM.vc++[⟨k,0,⟨#[]⟩,none,0,0⟩]))) :
  Stk w0 W gs b1 b2 c1 c2 (fs++[⟨k,[],[],none,0⟩]) S' c' (fun i=>O i\/i=g):=by
 have hK:Chg (fun i=>ob S=some i\/i=gs) w W:=by
  have e1:Chg (fun i=>ob S=some i\/i=gs) w w1:=(Chg.refl _ _).grown hgr (fun i e _=>.inl (by rwa [z28] at e));refine e1.trans hW (fun i hi e=>?_);rcases e with rfl|rfl
  ·rcases hat with e|e
   ·exact .inl e
   ·omega
  ·exact .inr rfl
 have hKO:∀ i,i<w.heap.size->(ob S=some i\/i=gs)->O i:=fun i _ e=>by
  rcases e with e|rfl
  ·exact h.os i e
  ·exact h.og
 have hOO:∀ i,i<w.heap.size->(O i\/i=g)->O i:=fun i hi e=>by
  rcases e with e|rfl
  ·exact e
  ·rcases hat with e|e
   ·exact h.os _ e
   ·omega
 have hgf:∀ f∈fs,ob f.A≠some g:=fun f hf e=>by
  rcases hat with e2|e2
  ·exact(h.of f hf g e).2 e2
  ·have:=h.lt g (h.of f hf g e).1;omega
 have hsz:w.heap.size<=W.heap.size:=hK.size
 have hgb:∀ {b:Nat},Apart O fs S b->b≠g:=fun {b} hb e=>by
  subst e;rcases hat with e2|e2
  ·exact hb.s e2
  ·have:=h.lt _ hb.o;omega
 have hfn:∀ g',ob (FrM.A ⟨k,[],[],none,0⟩)=some g'->False:=fun g' e=>by cases e
 have hap:∀ {b:Nat},Apart O fs S b->Apart (fun i=>O i\/i=g) (fs++[⟨k,[],[],none,0⟩]) S' b:=fun {b} hb =>
  ⟨.inl hb.o,fun e=>hgb hb (by rw [hS'] at e;exact(Option.some.inj e).symm),fun f hf e=>by
   rcases List.mem_append.1 hf with hf|hf
   ·exact hb.f f hf e
   ·rw [List.mem_singleton.1 hf] at e;exact hfn _ e⟩
 refine⟨by rw [List.length_append];exact hbox,by rw [List.length_append,List.map_append];exact hrow,fun f hf=>?_,.inl h.og,fun g' hg'=>.inr (by rw [hS'] at hg';exact(Option.some.inj hg').symm),fun f hf g' hg'=>?_,?_,fun i hi=>?_,fun i hi=>?_,?_,?_,?_,hap h.a1,hap h.a2,h.n12⟩
 ·rcases List.mem_append.1 hf with hf|hf
  ·refine(h.fr f hf).turn hK hKO hOO (fun g' hg' e=>?_);rcases e with e|rfl
   ·exact(h.of f hf g' hg').2 e
   ·exact h.gsF hf hg'
  ·rw [List.mem_singleton.1 hf];exact⟨z43 W 0 _ 4,rfl,fun j t e h1 _=>(by simp at h1),hk⟩
 ·rcases List.mem_append.1 hf with hf|hf
  ·exact⟨.inl (h.of f hf g' hg').1,fun e=>hgf f hf (by rw [hS'] at e;cases e;exact hg')⟩
  ·rw [List.mem_singleton.1 hf] at hg';exact(hfn _ hg').elim
 ·rw [List.pairwise_append];exact⟨h.ne,List.pairwise_singleton _ _,fun f _ f' hf' g' _ e=>by rw [List.mem_singleton.1 hf'] at e;exact hfn _ e⟩
 ·rcases hi with hi|rfl
  ·exact h.new i hi
  ·rcases hat with e|e
   ·exact h.new _ (h.os _ e)
   ·rw [e];exact h.chg.size
 ·rcases hi with hi|rfl
  ·exact Nat.lt_of_lt_of_le (h.lt i hi) hsz
  ·exact Nat.lt_of_lt_of_le hg1 hW.size
 ·exact h.chg.trans hK (fun i hi e=>by have:=h.new i (hKO i (Nat.lt_of_lt_of_le hi h.chg.size) e);omega)
 ·exact h.h1.chg hK (fun e=>by
   rcases e with e|e
   ·exact h.a1.s e
   ·exact h.gs1 e.symm)
 ·exact h.h2.chg hK (fun e=>by
   rcases e with e|e
   ·exact h.a2.s e
   ·exact h.gs2 e.symm)
theorem y9y {W:World} {e:TypeId} {size n m cc:Nat} {A:Option Addr} {xs:List Value} (h:W.ownsRow 0 e size (.slice A n cc) n xs) (hm:m<=n):W.ownsRow 0 e size (.slice A m cc) m (xs.take (m*size)):=by
 have hl:m*size<=n*size:=Nat.mul_le_mul_right _ hm;refine⟨by rw [List.length_take,h.1];omega,?_⟩;rcases h.2 with⟨h1,h0⟩|⟨g,cap,cur,h1,h2,h3,h4,h5,h6,h7⟩
 ·simp only [Value.slice.injEq] at h1;obtain⟨rfl,_,rfl⟩:=h1;exact .inl ⟨by rw [show m=0 by omega],by omega⟩
 ·simp only [Value.slice.injEq] at h1;obtain⟨rfl,_,rfl⟩:=h1;refine .inr ⟨g,cc,cur,rfl,h2,h3,by omega,h5,h6,?_⟩;rw [<- h7,List.take_take,Nat.min_eq_left hl]
theorem Stk.pop {W:World} {f:FrM} (h:Stk w0 w gs b1 b2 c1 c2 (fs++[f]) S c O) (hW:Chg (fun i=>i=gs) w W) (hbox:Blk W gs 137 #[.slice S fs.length c]) :
  Stk w0 W gs b1 b2 c1 c2 fs S c (fun i=>O i/\ob f.A≠some i)/\FrOk w0 (fun i=>O i/\ob f.A≠some i) W f:=by
 have hfm:f∈fs++[f]:=List.mem_append_right _ (List.mem_singleton_self _);have hsub:∀ {x:FrM},x∈fs->x∈fs++[f]:=fun hx=>List.mem_append_left _ hx;have hKO:∀ i,i<w.heap.size->i=gs->O i:=fun i _ e=>by rw [e];exact h.og
 have hap:∀ {b:Nat},Apart O (fs++[f]) S b->Apart (fun i=>O i/\ob f.A≠some i) fs S b:=fun {b} hb=>⟨⟨hb.o,hb.f f hfm⟩,hb.s,fun x hx=>hb.f x (hsub hx)⟩
 have hne:=(List.pairwise_append.1 h.ne)
 refine⟨⟨hbox,?_,fun x hx=>(h.fr x (hsub hx)).turn hW hKO (fun i _ e=>e.1) (fun g hg e=>h.gsF (hsub hx) (by rw [<- e];exact hg)),⟨h.og,h.gsF hfm⟩,fun g hg=>⟨h.os g hg,fun e=>(h.of f hfm g e).2 hg⟩,fun x hx g hg=>⟨⟨(h.of x (hsub hx) g hg).1,hne.2.2 x hx f (List.mem_singleton_self _) g hg⟩,(h.of x (hsub hx) g hg).2⟩,hne.1,fun i hi=>h.new i hi.1,fun i hi=>Nat.lt_of_lt_of_le (h.lt i hi.1) hW.size,h.chg.trans hW (fun i hi e=>by have:=h.new gs h.og;omega),h.h1.chg hW (Ne.symm h.gs1),h.h2.chg hW (Ne.symm h.gs2),hap h.a1,hap h.a2,h.n12⟩,(h.fr f hfm).turn hW hKO (fun i _ e=>e.1) (fun g hg e=>h.gsF hfm (by rw [<- e];exact hg))⟩;have hr:=h.row;rw [List.length_append,List.map_append,z3l] at hr;have h1:=y9y (m:=fs.length) hr (by simp);rw [List.take_append_of_le_length (by rw [z25,List.length_map];omega),List.take_of_length_le (by rw [z25,List.length_map];omega)] at h1;exact z0p h1 hW (fun g hg e=>h.gsS (by rw [z28] at hg;rw [<- e];exact hg))
theorem Stk.add {w1 W:World} {f:FrM} {t:VT} {e:VC} {A':Option Addr} {c' g:Nat} (h:Stk w0 w gs b1 b2 c1 c2 (fs++[f]) S c O) (hv:InsB w0 O w t e) (hgr:w.grownBy w1 (Value.slice f.A f.ts.length f.c).ownBlock) (hA':ob A'=some g) (hat:ob f.A=some g\/g=w.heap.size) (hg1:g<w1.heap.size)
  (hW:Chg (fun i=>i=g\/ob S=some i) w1 W) (hrow:W.ownsRow 0 24 4 (.slice A' (f.ts.length+1) c') (f.ts.length+1) (z04 (f.es++[e])))
  (hst:W.ownsRow 0 24 4 (.slice S (fs.length+1) c) (fs.length+1) (z04 (fs.map FrM.vc++[⟨f.k,0,⟨#[]⟩,A',f.ts.length+1,c'⟩]))) :
  Stk w0 W gs b1 b2 c1 c2 (fs++[⟨f.k,f.es++[e],f.ts++[t],A',c'⟩]) S c (fun i=>O i\/i=g):=by
 have hfm:f∈fs++[f]:=List.mem_append_right _ (List.mem_singleton_self _);have hsub:∀ {x:FrM},x∈fs->x∈fs++[f]:=fun hx=>List.mem_append_left _ hx;have hfo:=h.fr f hfm
 have hK:Chg (fun i=>ob f.A=some i\/ob S=some i) w W:=by
  have e1:Chg (fun i=>ob f.A=some i\/ob S=some i) w w1:=(Chg.refl _ _).grown hgr (fun i e _=>.inl (by rwa [z28] at e));refine e1.trans hW (fun i hi e=>?_);rcases e with rfl|e
  ·rcases hat with e|e
   ·exact .inl e
   ·omega
  ·exact .inr e
 have hKO:∀ i,i<w.heap.size->(ob f.A=some i\/ob S=some i)->O i:=fun i _ e=>by
  rcases e with e|e
  ·exact(h.of f hfm i e).1
  ·exact h.os i e
 have hOO:∀ i,i<w.heap.size->(O i\/i=g)->O i:=fun i hi e=>by
  rcases e with e|rfl
  ·exact e
  ·rcases hat with e|e
   ·exact(h.of f hfm _ e).1
   ·omega
 have hne:=(List.pairwise_append.1 h.ne)
 have hgf:∀ x∈fs,ob x.A≠some g:=fun x hx e=>by
  rcases hat with e2|e2
  ·exact hne.2.2 x hx f (List.mem_singleton_self _) g e e2
  ·have:=h.lt g (h.of x (hsub hx) g e).1;omega
 have hgS:ob S≠some g:=fun e=>by
  rcases hat with e2|e2
  ·exact(h.of f hfm g e2).2 e
  ·have:=h.lt g (h.os g e);omega
 have hgb:∀ {b:Nat},Apart O (fs++[f]) S b->b≠g:=fun {b} hb e=>by
  subst e;rcases hat with e2|e2
  ·exact hb.f f hfm e2
  ·have:=h.lt _ hb.o;omega
 have hggs:gs≠g:=fun e=>by
  subst e;rcases hat with e2|e2
  ·exact h.gsF hfm e2
  ·have:=h.lt _ h.og;omega
 have hsz:w.heap.size<=W.heap.size:=hK.size
 have hap:∀ {b:Nat},Apart O (fs++[f]) S b->Apart (fun i=>O i\/i=g) (fs++[⟨f.k,f.es++[e],f.ts++[t],A',c'⟩]) S b:=fun {b} hb =>
  ⟨.inl hb.o,hb.s,fun x hx e=>by
   rcases List.mem_append.1 hx with hx|hx
   ·exact hb.f x (hsub hx) e
   ·rw [List.mem_singleton.1 hx] at e;have e2:ob A'=some b:=e;rw [hA'] at e2;exact hgb hb (Option.some.inj e2).symm⟩
 have hbS:∀ {b:Nat} {T:TypeId} {cs:Array Value},Blk w b T cs->ob f.A≠some b->ob S≠some b->Blk W b T cs:=fun hb n1 n2=>hb.chg hK (fun e=>by
  rcases e with e|e
  ·exact n1 e
  ·exact n2 e)
 refine⟨?_,?_,fun x hx=>?_,.inl h.og,fun g' hg'=>.inl (h.os g' hg'),fun x hx g' hg'=>?_,?_,fun i hi=>?_,fun i hi=>?_,?_,?_,?_,hap h.a1,hap h.a2,h.n12⟩
 ·have hb:=h.box;rw [List.length_append] at hb ⊢;exact hbS hb (h.gsF hfm) h.gsS
 ·rw [List.length_append,List.map_append];have e1:(FrM.vc ⟨f.k,f.es++[e],f.ts++[t],A',c'⟩)=⟨f.k,0,⟨#[]⟩,A',f.ts.length+1,c'⟩:=by unfold FrM.vc;simp
  show W.ownsRow 0 _ 4 _ _ (z04 (fs.map FrM.vc++[FrM.vc ⟨f.k,f.es++[e],f.ts++[t],A',c'⟩]));rw [e1];exact hst
 ·rcases List.mem_append.1 hx with hx|hx
  ·refine(h.fr x (hsub hx)).turn hK hKO hOO (fun g' hg' e=>?_);rcases e with e|e
   ·exact hne.2.2 x hx f (List.mem_singleton_self _) g' hg' e
   ·exact(h.of x (hsub hx) g' hg').2 e
  ·rw [List.mem_singleton.1 hx];refine⟨by simp only [List.length_append];exact hrow,by simp only [List.length_append,hfo.len];rfl,fun j t' e' h1 h2=>?_,hfo.kb⟩;simp only [] at h1 h2;by_cases hj:j<f.ts.length
   ·rw [List.getElem?_append_left hj] at h1;rw [List.getElem?_append_left (by rw [hfo.len];exact hj)] at h2;exact(hfo.is j t' e' h1 h2).turn (hK.mono hKO) hOO
   ·rw [List.getElem?_append_right (by omega)] at h1;rw [List.getElem?_append_right (by rw [hfo.len];omega),hfo.len] at h2;obtain⟨q,hq⟩:∃ q,q=j-f.ts.length:=⟨_,rfl⟩
    rw [<- hq] at h1 h2;cases q with
    |zero =>
     simp at h1 h2;subst h1 h2;exact hv.turn (hK.mono hKO) hOO
    |succ q=>simp at h1
 ·rcases List.mem_append.1 hx with hx|hx
  ·exact⟨.inl (h.of x (hsub hx) g' hg').1,(h.of x (hsub hx) g' hg').2⟩
  ·rw [List.mem_singleton.1 hx] at hg';have e2:ob A'=some g':=hg';rw [hA'] at e2;cases e2
   exact⟨.inr rfl,hgS⟩
 ·rw [List.pairwise_append];refine⟨hne.1,List.pairwise_singleton _ _,fun x hx x' hx' g' hg' e=>?_⟩;rw [List.mem_singleton.1 hx'] at e;have e2:ob A'=some g':=e;rw [hA'] at e2;cases e2
  exact hgf x hx hg'
 ·rcases hi with hi|rfl
  ·exact h.new i hi
  ·rcases hat with e|e
   ·exact h.new _ (h.of f hfm _ e).1
   ·rw [e];exact h.chg.size
 ·rcases hi with hi|rfl
  ·exact Nat.lt_of_lt_of_le (h.lt i hi) hsz
  ·exact Nat.lt_of_lt_of_le hg1 hW.size
 ·exact h.chg.trans hK (fun i hi e=>by have:=h.new i (hKO i (Nat.lt_of_lt_of_le hi h.chg.size) e);omega)
 ·exact hbS h.h1 (h.a1.f f hfm) h.a1.s
 ·exact hbS h.h2 (h.a2.f f hfm) h.a2.s
end
def z35 (S:ByteArray):Int × Int × Int:=if S=⟨#[110,117,108,108]⟩ then(0,0,0) else if S=⟨#[102,97,108,115,101]⟩ then(0,1,0) else if S=⟨#[116,114,117,101]⟩ then(0,1,1) else(11,0,0)
theorem y6t (s:List Nat):(z7b s).1=(z35 (sb s)).1/\(z7b s).2=.mk (z35 (sb s)).2.1 (z35 (sb s)).2.2 ⟨#[]⟩ []:=by
 unfold z7b z35;split
 ·exact⟨rfl,rfl⟩
 ·split
  ·exact⟨rfl,rfl⟩
  ·split
   ·exact⟨rfl,rfl⟩
   ·exact⟨rfl,rfl⟩
theorem y48 (S:ByteArray) (w:World):Calls Tryz.prog 100 #[.string S] w fun e w'=>e=.returned (.tuple #[.agg #[.int .i64 (z35 S).2.1,.int .i64 (z35 S).2.2,.string ⟨#[]⟩,.slice none 0 0],.int .i64 (z35 S).1])/\Chg NoS w w':=by
 by_cases h1:S=⟨#[110,117,108,108]⟩
 ·subst h1;have HE:=kf (show z35 ⟨#[110,117,108,108]⟩=(0,0,0) from rfl);rw [HE.out];simp only [];go_enter Tryz.func100,Tryz.ntmps100;go_wp2_with fail;refine bodyPost_ret (v:=.tuple #[.agg #[.int .i64 0,.int .i64 0,.string ⟨#[]⟩,.slice none 0 0],.int .i64 0]) (by simp [results,Tryz.results100,go_sem]) rfl ?_;exact⟨rfl,(Chg.refl NoS w).alloc _⟩
 by_cases h2:S=⟨#[102,97,108,115,101]⟩
 ·subst h2;have HE:=kf (show z35 ⟨#[102,97,108,115,101]⟩=(0,1,0) from rfl);rw [HE.out];simp only [];go_enter Tryz.func100,Tryz.ntmps100;go_wp2_with fail;refine bodyPost_ret (v:=.tuple #[.agg #[.int .i64 1,.int .i64 0,.string ⟨#[]⟩,.slice none 0 0],.int .i64 0]) (by simp [results,Tryz.results100,go_sem]) rfl ?_;exact⟨rfl,(Chg.refl NoS w).alloc _⟩
 by_cases h3:S=⟨#[116,114,117,101]⟩
 ·subst h3;have HE:=kf (show z35 ⟨#[116,114,117,101]⟩=(0,1,1) from rfl);rw [HE.out];simp only [];go_enter Tryz.func100,Tryz.ntmps100;go_wp2_with fail;refine bodyPost_ret (v:=.tuple #[.agg #[.int .i64 1,.int .i64 1,.string ⟨#[]⟩,.slice none 0 0],.int .i64 0]) (by simp [results,Tryz.results100,go_sem]) rfl ?_;exact⟨rfl,(Chg.refl NoS w).alloc _⟩
 have h12:(S.toList==[110,117,108,108])=false:=by have h:=z10 h1;rw [show(ByteArray.mk #[110,117,108,108]).toList=[110,117,108,108] from by kernel_rfl] at h;simpa using h
 have h13:¬S.toList=[110,117,108,108]:=by simpa using h12
 have h22:(S.toList==[102,97,108,115,101])=false:=by have h:=z10 h2;rw [show(ByteArray.mk #[102,97,108,115,101]).toList=[102,97,108,115,101] from by kernel_rfl] at h;simpa using h
 have h23:¬S.toList=[102,97,108,115,101]:=by simpa using h22
 have h32:(S.toList==[116,114,117,101])=false:=by have h:=z10 h3;rw [show(ByteArray.mk #[116,114,117,101]).toList=[116,114,117,101] from by kernel_rfl] at h;simpa using h
 have h33:¬S.toList=[116,114,117,101]:=by simpa using h32
 have HE:=kf (show z35 S=(11,0,0) from by unfold z35;rw [if_neg h1,if_neg h2,if_neg h3]);rw [HE.out];simp only [];go_enter Tryz.func100,Tryz.ntmps100;go_wp2_with fail;refine bodyPost_ret (v:=.tuple #[.agg #[.int .i64 0,.int .i64 0,.string ⟨#[]⟩,.slice none 0 0],.int .i64 11]) (by simp [results,Tryz.results100,go_sem]) rfl ?_;exact⟨rfl,(Chg.refl NoS w).alloc _⟩
end Go.Proofs.YtmibnkddappgiaaGreatDoor
