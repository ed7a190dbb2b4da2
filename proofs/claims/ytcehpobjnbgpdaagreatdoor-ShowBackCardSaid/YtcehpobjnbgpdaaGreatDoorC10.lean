/- Merged by program. -/
import Derived.Test.YtcehpobjnbgpdaaGreatDoorC00
import Derived.Deep.CutRange
set_option linter.unusedVariables false
set_option linter.unusedSimpArgs false
namespace Go.Proofs.YtcehpobjnbgpdaaGreatDoor
open Go.RowKit
def PaTo (w:World) (l:List Nat) (e:Ending) (w':World):Prop:=e=.returned (.tuple #[.agg #[.int .i64 (numOf l).2.1,.int .i64 (numOf l).2.2,.string ⟨#[]⟩,.slice none 0 0],.int .i64 (numOf l).1])/\Chg NoS w w'
structure AtIs (l:List Nat) (a:Nat):Prop where
 le:a<=1
 in_:a<=l.length
 eq:signed l=(decide (a=1/\l.getD 0 0=45),l.drop a)
theorem at_nil {l:List Nat} (h:l.length=0):AtIs l 0:=by
 obtain rfl:=List.eq_nil_of_length_eq_zero h
 exact⟨by omega,by omega,by simp [signed]⟩
theorem at_sign {l:List Nat} (h:0<l.length) (hx:l.getD 0 0=43\/l.getD 0 0=45):AtIs l 1:=by
 rcases l with _|⟨c,l⟩
 ·simp at h
 ·refine⟨by omega,by simp,?_⟩
  have hx:c=43\/c=45:=hx
  rcases hx with rfl|rfl
  ·simp [signed]
  ·simp [signed]
theorem at_none {l:List Nat} (h:0<l.length) (h1:l.getD 0 0≠43) (h2:l.getD 0 0≠45):AtIs l 0:=by
 rcases l with _|⟨c,l⟩
 ·simp at h
 ·have h1:c≠43:=h1
  have h2:c≠45:=h2
  exact⟨by omega,by simp,by simp [signed,h1,h2]⟩
structure PIn (l:List Nat) (a k:Nat) (st:Ns) (pt:Int):Prop where
 ak:a<=k
 rd:nsAll ns0 ((l.drop a).take (k-a))=some st
 pt_none:st.fr=none->pt=-1
 pt_some:∀ j,st.fr=some j->∃ p:Nat,pt=(p:Nat)/\k=p+1+j
 nb:st.n<=21474836479
 db:st.digits<=k
section
variable {l:List Nat} {a k c:Nat} {st t:Ns} {pt:Int}
theorem PIn.start (l:List Nat) (a:Nat):PIn l a a ns0 (-1):=⟨Nat.le_refl _,by rw [Nat.sub_self];rfl,fun _=>rfl,fun j h=>(by cases h),by decide,by show 0<=a;omega⟩
theorem PIn.good (h:PIn l a k st pt):NsIn st:=ns0_in.all _ h.rd
theorem PIn.take (h:PIn l a k st pt) (hc:l[k]?=some c):(l.drop a).take (k+1-a)=(l.drop a).take (k-a)++[c]:=by
 have ha:=h.ak
 rw [show k+1-a=(k-a)+1 from by omega,take_snoc (by rw [List.getElem?_drop,show a+(k-a)=k from by omega];exact hc)]
theorem PIn.next (h:PIn l a k st pt) (hc:l[k]?=some c) (hs:nsStep st c=some t) {pt':Int} (h1:t.fr=none->pt'=-1) (h2:∀ j,t.fr=some j->∃ p:Nat,pt'=(p:Nat)/\k+1=p+1+j) (h3:t.n<=21474836479) (h4:t.digits<=k+1):PIn l a (k+1) t pt' :=
 ⟨by have:=h.ak;omega,by rw [h.take hc,nsAll_app,h.rd];show nsAll st [c]=some t;rw [nsAll,hs];rfl,h1,h2,h3,h4⟩
theorem PIn.bad (h:PIn l a k st pt) (hc:l[k]?=some c) (hs:nsStep st c=none) (ha:AtIs l a):numOf l=(11,0,0):=by
 have e:l.drop a=(l.drop a).take (k-a)++(c::l.drop (k+1)):=by
  have h1:=List.take_append_drop (k+1-a) (l.drop a)
  rw [h.take hc,List.drop_drop,show a+(k+1-a)=k+1 from by have:=h.ak;omega,List.append_assoc] at h1
  exact h1.symm
 have hn:nsAll ns0 (l.drop a)=none:=by
  rw [e,nsAll_app,h.rd]
  show nsAll st (c::l.drop (k+1))=none
  rw [nsAll,hs]
 unfold numOf
 rw [ha.eq]
 simp only [hn]
theorem PIn.end_ (h:PIn l a k st pt) (hk:k=l.length) (ha:AtIs l a):nsAll ns0 (signed l).2=some st:=by
 rw [ha.eq]
 have h1:=h.rd
 rwa [List.take_of_length_le (by rw [List.length_drop];omega)] at h1
theorem PIn.nod (h:PIn l a k st pt) (hk:k=l.length) (ha:AtIs l a) (hd:st.digits=0):numOf l=(11,0,0):=by
 have h1:=h.end_ hk ha
 unfold numOf
 simp only [h1,if_pos hd]
theorem PIn.rng (h:PIn l a k st pt) (hk:k=l.length) (ha:AtIs l a) (hd:st.digits≠0) (hr:st.over=true\/(st.fr≠none/\st.n=2147483647/\0<st.parts)):numOf l=(5,0,0):=by
 have h1:=h.end_ hk ha
 unfold numOf
 simp only [h1,if_neg hd,if_pos hr]
theorem PIn.ok (h:PIn l a k st pt) (hk:k=l.length) (ha:AtIs l a) (hd:st.digits≠0) (hr:¬(st.over=true\/(st.fr≠none/\st.n=2147483647/\0<st.parts))) {K:Nat} {v X:Int} (hK:K=if st.fr=none then 2 else 3) (hv:v=if st.fr=none then(st.n:Int) else((1000000*st.n+st.parts:Nat):Int)) (hX:X=if a=1/\l.getD 0 0=45 then 0-v else v):numOf l=(0,K,X):=by
 have h1:=h.end_ hk ha
 have h2:(signed l).1=decide (a=1/\l.getD 0 0=45):=by rw [ha.eq]
 unfold numOf
 simp only [h1,if_neg hd,if_neg hr,h2,decide_eq_true_eq]
 rw [<- hv,hX,hK]
end
theorem PaTo.of {w w':World} {l:List Nat} {e x:Int} {k:Nat} (h:numOf l=(e,k,x)) (hc:Chg NoS w w'):PaTo w l (.returned (.tuple #[.agg #[.int .i64 (k:Nat),.int .i64 x,.string ⟨#[]⟩,.slice none 0 0],.int .i64 e])) w':=by
 unfold PaTo
 rw [h]
 exact⟨rfl,hc⟩
theorem by_end {b i j:Nat} (hi1:1<=i) (hi:i<=j+1) (hi7:i<=7) (he:¬(i<j+1/\i<7)) (hb:b=100000 / 10 ^ (i-1)):b=100000 / 10 ^ min j 6:=by
 rw [hb,show i-1=min j 6 from by omega]
theorem by_next {b i:Nat} (hi1:1<=i) (hb:b=100000 / 10 ^ (i-1)):b / 10=100000 / 10 ^ (i+1-1):=by
 rw [hb,Nat.div_div_eq_div_mul,<- Nat.pow_succ,show(i-1).succ=i+1-1 from by omega]
theorem step_none_fr {st:Ns} {c:Nat} (h46:¬(c=46/\st.fr=none)) (hd:¬isD c):nsStep st c=none:=by
 unfold nsStep
 rw [if_neg h46,if_neg hd]
set_option maxHeartbeats 4000000 in
set_option maxRecDepth 100000 in
theorem rparse_any (s:ByteArray) (w:World) (hl:s.size<=500000):Calls Tryz.prog 74 #[.string s] w (PaTo w (sl s)):=by
 obtain⟨n,hn⟩:∃ n,s.size=n:=⟨_,rfl⟩
 have hln:(sl s).length=n:=by rw [sl_len,hn]
 have HAT:=kf (fun k (h:k<n)=>(fun h2=>sl_at s k h2:∀ h2:k<s.size,(s[k]'h2).toNat=(sl s).getD k 0))
 have HGT:=kf (fun k (h:k<n)=>sl_get (s:=s) (k:=k) (by rw [hn];exact h))
 have HLT:=kf (sl_lt s)
 rw [hn] at hl
 obtain⟨l,hll⟩:∃ l,l=sl s:=⟨_,rfl⟩
 rw [<- hll] at hln HAT HGT HLT ⊢
 have HLN:=kf hln
 clear hll hln
 have HB:=kf (Blk.new w 24 #[.int .i64 0,.int .i64 0,.string ⟨#[]⟩,.slice none 0 0])
 have HC:=kf ((Chg.refl NoS w).alloc (.cells #[.int .i64 0,.int .i64 0,.string ⟨#[]⟩,.slice none 0 0] 24))
 obtain⟨W,hW⟩:∃ W,W=w.alloc (.cells #[.int .i64 0,.int .i64 0,.string ⟨#[]⟩,.slice none 0 0] 24):=⟨_,rfl⟩
 rw [<- hW] at HB HC
 go_enter Tryz.func74,Tryz.ntmps74
 go_upto_region 2 with fail
 rw [<- hW]
 clear hW
 go_cut [26] from 14 to 26 (fun va wx=>∃ bb:Bool,va=.bool bb/\Hid (AtIs l (if bb then 1 else 0))/\Hid (wx=W))
 case first =>
  by_cases h0:n=0
  ·subst h0
   have HA:=kf (at_nil HLN.out)
   go_wp2_with fail
   go_meet
   exact⟨false,rfl,HA.out,rfl⟩
  ·have hx0:=HAT.out 0 (by omega)
   obtain⟨x,hx⟩:∃ x,l.getD 0 0=x:=⟨_,rfl⟩
   rw [hx] at hx0
   have HX:=kf hx
   have d0:decide ((0:Int)<n)=true:=by simp;omega
   have d0':decide (0<n)=true:=by simp;omega
   have hn0:0<n:=by omega
   have hn0I:(0:Int)<n:=by omega
   clear h0 hx
   by_cases h43:x=43
   ·subst h43
    have HA:=kf (at_sign (l:=l) (by rw [HLN.out];exact hn0) (.inl HX.out))
    go_wp2_with fail
    go_meet
    exact⟨true,rfl,HA.out,rfl⟩
   ·have u43:((x:Int)==43)=false:=by simp;omega
    by_cases h45:x=45
    ·subst h45
     have HA:=kf (at_sign (l:=l) (by rw [HLN.out];exact hn0) (.inr HX.out))
     go_wp2_with fail
     go_meet
     exact⟨true,rfl,HA.out,rfl⟩
    ·have u45:((x:Int)==45)=false:=by simp;omega
     have HA:=kf (at_none (l:=l) (by rw [HLN.out];exact hn0) (by rw [HX.out];exact h43) (by rw [HX.out];exact h45))
     clear h43 h45
     go_wp2_with fail
     go_meet
     exact⟨false,rfl,HA.out,rfl⟩
 case rest =>
  obtain⟨bb,rfl,HA0,HW⟩:=hcut
  obtain rfl:=HW.out
  obtain⟨a,ha⟩:∃ a:Nat,a=if bb then 1 else 0:=⟨_,rfl⟩
  rw [<- ha] at HA0
  have HA:=HA0
  have q0:=HB.out.cell 0
  have q1:=HB.out.cell 1
  have q2:=HB.out.cell 2
  have q3:=HB.out.cell 3
  have z0:=HB.out.frozen 0
  have z1:=HB.out.frozen 1
  have z2:=HB.out.frozen 2
  have z3:=HB.out.frozen 3
  simp at q0 q1 q2 q3
  have han:a<=n:=by rw [<- HLN.out];exact HA.out.in_
  cases bb
  all_goals
   simp only [Bool.false_eq_true,if_false,if_true] at ha
   have HEA:=kf ha
   clear ha
   go_wp2_with fail
   go_loop [5,6,7,8,9,10] (fun vn vp vd vt vo vk=>∃ (k n0 p0 d0:Nat) (fr:Option Nat) (ov:Bool) (pt:Int),k<=n/\n0<=21474836479/\p0<=1000000/\d0<=500000/\-1<=pt/\pt<=500000/\vk=.int .i64 (k:Nat)/\vn=.int .i64 (n0:Nat)/\vp=.int .i64 (p0:Nat)/\vd=.int .i64 (d0:Nat)/\vt=.int .i64 pt/\vo=.bool ov/\Hid (PIn l a k ⟨n0,p0,d0,fr,ov⟩ pt)) (fun _ _ _ _ _ vk=>n-(intOf vk).toNat)
   case atStart=>exact⟨a,0,0,0,none,false,-1,han,by omega,by omega,by omega,by omega,by omega,by rw [HEA.out];rfl,by go_num,by go_num,by go_num,rfl,rfl,PIn.start l a⟩
   case round =>
    obtain⟨k,n0,p0,d0,fr,ov,pt,hk,hn0,hp0,hd0,hpt1,hpt2,rfl,rfl,rfl,rfl,rfl,rfl,HP⟩:=hrel
    have hgood:=HP.out.good
    by_cases hlt:k<n
    ·have hik:(k:Int)<n:=by omega
     have hx:=HAT.out k hlt
     have hg:=HGT.out k hlt
     obtain⟨c,hc⟩:∃ c,l.getD k 0=c:=⟨_,rfl⟩
     rw [hc] at hx hg
     have hc256:c<256:=HLT.out c (List.mem_of_getElem? hg)
     have HG:=kf hg
     have hdk:d0<=k:=HP.out.db
     clear hc hg
     by_cases hd:isD c
     ·have u46:((c:Int)==46)=false:=by unfold isD at hd;simp;omega
      have e48:decide ((48:Int)<=c)=true:=by unfold isD at hd;simp;omega
      have e48':decide (48<=c)=true:=by unfold isD at hd;simp;omega
      have e57:decide ((c:Int)<=57)=true:=by unfold isD at hd;simp;omega
      have e57':decide (c<=57)=true:=by unfold isD at hd;simp;omega
      have hc48:48<=c/\c<=57:=hd
      have HD:=kf hd
      have hne46:¬(c=46/\fr=none):=by unfold isD at hd;omega
      clear hd
      rcases fr with _|j
      ·have hpt:=HP.out.pt_none rfl
       subst hpt
       rcases ov with _|_
       ·-- not too great so far
        obtain⟨n1,hn1⟩:∃ n1,n1=10*n0+(c-48):=⟨_,rfl⟩
        have en1:(10:Int)*(n0:Int)+(c:Int)-48=(n1:Int):=by omega
        have hng:n0<=2147483647:=hgood.n rfl
        have hn1b:n1<=21474836479:=by omega
        have HST:Hid (nsStep ⟨n0,p0,d0,none,false⟩ c=some ⟨n1,p0,d0+1,none,decide (2147483647<n1)⟩):=by
         show _=_
         unfold nsStep
         rw [if_neg hne46,if_pos HD.out]
         simp [hn1]
        clear hn1 hne46 hgood
        by_cases hov:2147483647<n1
        ·have dv:decide ((2147483647:Int)<n1)=true:=by simp;omega
         have dv':decide (2147483647<n1)=true:=by simp;omega
         have HNX:=kf (HP.out.next HG.out HST.out (pt':=-1) (fun _=>rfl) (fun j h=>by cases h) hn1b (show d0+1<=k+1 by omega))
         rw [dv'] at HNX
         go_wp2_with fail
         go_round
         case rel=>exact⟨k+1,n1,p0,d0+1,none,true,-1,by omega,hn1b,hp0,by omega,by omega,by omega,by go_num,rfl,rfl,by go_num,rfl,rfl,HNX.out⟩
         case measure=>simp [intOf];omega
        ·have dv:decide ((2147483647:Int)<n1)=false:=by simp;omega
         have dv':decide (2147483647<n1)=false:=by simp;omega
         have HNX:=kf (HP.out.next HG.out HST.out (pt':=-1) (fun _=>rfl) (fun j h=>by cases h) hn1b (show d0+1<=k+1 by omega))
         rw [dv'] at HNX
         go_wp2_with fail
         go_round
         case rel=>exact⟨k+1,n1,p0,d0+1,none,false,-1,by omega,hn1b,hp0,by omega,by omega,by omega,by go_num,rfl,rfl,by go_num,rfl,rfl,HNX.out⟩
         case measure=>simp [intOf];omega
       ·have HST:Hid (nsStep ⟨n0,p0,d0,none,true⟩ c=some ⟨n0,p0,d0+1,none,true⟩):=by
         show _=_
         unfold nsStep
         rw [if_neg hne46,if_pos HD.out]
         simp
        have HNX:=kf (HP.out.next HG.out HST.out (pt':=-1) (fun _=>rfl) (fun j h=>by cases h) hn0 (show d0+1<=k+1 by omega))
        clear hne46 hgood
        go_wp2_with fail
        go_round
        case rel=>exact⟨k+1,n0,p0,d0+1,none,true,-1,by omega,hn0,hp0,by omega,by omega,by omega,by go_num,rfl,rfl,by go_num,rfl,rfl,HNX.out⟩
        case measure=>simp [intOf];omega
      ·obtain⟨p,rfl,hkp⟩:=HP.out.pt_some j rfl
       have ep:decide ((p:Int)<0)=false:=by simp
       obtain⟨j1,hj1⟩:∃ j1,j1=j+1:=⟨_,rfl⟩
       have ekp:(k:Int)-(p:Int)=(j1:Int):=by omega
       obtain⟨dg,hdg⟩:∃ dg,dg=c-48:=⟨_,rfl⟩
       have edg:(c:Int)-48=(dg:Int):=by omega
       have hdg9:dg<=9:=by omega
       have HJ:=kf (⟨hj1,hdg⟩:j1=j+1/\dg=c-48)
       have HKP:=kf hkp
       have HST:=kf (fun b (h:b=100000 / 10 ^ min j 6)=>(show nsStep ⟨n0,p0,d0,some j,ov⟩ c=some ⟨n0,p0+b*dg,d0+1,some (j+1),ov⟩ by
        unfold nsStep
        rw [if_neg hne46,if_pos HD.out,h,HJ.out.2]))
       have HGOOD:=kf hgood
       clear hj1 hdg hkp hne46 hgood
       go_wp2_with fail
       go_loop [11,12] (fun vb vi=>∃ (b i:Nat),1<=i/\i<=7/\b<=100000/\vb=.int .i64 (b:Nat)/\vi=.int .i64 (i:Nat)/\Hid (i<=j1/\b=100000 / 10 ^ (i-1))) (fun _ vi=>7-(intOf vi).toNat)
       case atStart=>exact⟨100000,1,by omega,by omega,by omega,rfl,by go_num,⟨by have:=HJ.out.1;omega,rfl⟩⟩
       case round =>
        obtain⟨b,i,hi1,hi7,hb,rfl,rfl,HBI⟩:=hrel
        by_cases hcont:i<j1/\i<7
        ·obtain⟨hij,hi6⟩:=hcont
         have f1:decide ((i:Int)<j1)=true:=by simp;omega
         have f1':decide (i<j1)=true:=by simp;omega
         have f2:decide ((i:Int)<7)=true:=by simp;omega
         have f2':decide (i<7)=true:=by simp;omega
         obtain⟨b2,hb2⟩:∃ b2,b2=b / 10:=⟨_,rfl⟩
         have eb2:(b:Int) / 10=(b2:Int):=by omega
         have hb2b:b2<=100000:=by omega
         have HB2:=kf hb2
         clear hb2
         go_wp2_with fail
         go_round
         case rel=>exact⟨b2,i+1,by omega,by omega,hb2b,rfl,by go_num,⟨by omega,by rw [HB2.out];exact by_next hi1 HBI.out.2⟩⟩
         case measure=>simp [intOf];omega
        ·have HBE:Hid (b=100000 / 10 ^ min j 6):=by_end hi1 (by have:=HBI.out.1;have:=HJ.out.1;omega) hi7 (by rw [<- HJ.out.1];exact hcont) HBI.out.2
         obtain⟨bd,hbd⟩:∃ bd,bd=b*dg:=⟨_,rfl⟩
         have ebd:(b:Int)*(dg:Int)=(bd:Int):=by rw [hbd];exact(Int.natCast_mul b dg).symm
         have hstp:=HST.out b HBE.out
         rw [<- hbd] at hstp
         have hp1:p0+bd<=1000000:=by
          have h1:=(HGOOD.out.step hstp).some_ (j+1) rfl
          have h2:p0+bd+10 ^ (6-min (j+1) 6)<=1000000:=h1
          exact Nat.le_trans (Nat.le_add_right _ _) h2
         have HNX:=kf (HP.out.next HG.out hstp (pt':=(p:Nat)) (fun h=>by cases h) (fun j' h=>by injection h with h;subst h;exact⟨p,rfl,by have:=HKP.out;omega⟩) hn0 (show d0+1<=k+1 by omega))
         have hpk:(p:Int)<=500000:=hpt2
         clear hbd hstp
         by_cases hij:i<j1
         ·have f1:decide ((i:Int)<j1)=true:=by simp;omega
          have f1':decide (i<j1)=true:=by simp;omega
          have f2:decide ((i:Int)<7)=false:=by simp;omega
          have f2':decide (i<7)=false:=by simp;omega
          clear hcont
          go_wp2_with fail
          go_round
          case rel=>exact⟨k+1,n0,p0+bd,d0+1,some (j+1),ov,(p:Nat),by omega,hn0,hp1,by omega,by omega,hpk,by go_num,rfl,by go_num,by go_num,rfl,rfl,HNX.out⟩
          case measure=>simp [intOf];omega
         ·have f1:decide ((i:Int)<j1)=false:=by simp;omega
          have f1':decide (i<j1)=false:=by simp;omega
          clear hcont
          go_wp2_with fail
          go_round
          case rel=>exact⟨k+1,n0,p0+bd,d0+1,some (j+1),ov,(p:Nat),by omega,hn0,hp1,by omega,by omega,hpk,by go_num,rfl,by go_num,by go_num,rfl,rfl,HNX.out⟩
          case measure=>simp [intOf];omega
     ·by_cases h46:c=46/\fr=none
      ·obtain⟨rfl,rfl⟩:=h46
       have hpt:=HP.out.pt_none rfl
       subst hpt
       have HST:Hid (nsStep ⟨n0,p0,d0,none,ov⟩ 46=some ⟨n0,p0,d0,some 0,ov⟩):=by
        show _=_
        unfold nsStep
        rw [if_pos ⟨rfl,rfl⟩]
       have HNX:=kf (HP.out.next HG.out HST.out (pt':=(k:Nat)) (fun h=>by cases h) (fun j' h=>by injection h with h;subst h;exact⟨k,rfl,rfl⟩) hn0 (show d0<=k+1 by omega))
       clear hgood hd
       go_wp2_with fail
       go_round
       case rel=>exact⟨k+1,n0,p0,d0,some 0,ov,(k:Nat),by omega,hn0,hp0,hd0,by omega,by omega,by go_num,rfl,rfl,rfl,rfl,rfl,HNX.out⟩
       case measure=>simp [intOf];omega
      ·have HBAD:=kf (HP.out.bad HG.out (step_none_fr h46 hd) HA.out)
       by_cases hc46:c=46
       ·subst hc46
        rcases fr with _|j
        ·exact absurd ⟨rfl,rfl⟩ h46
        ·obtain⟨p,rfl,hkp⟩:=HP.out.pt_some j rfl
         have ep:decide ((p:Int)<0)=false:=by simp
         clear h46 hd hkp hgood
         go_wp2_with fail
         try simp only [Exit.noGoto_ret]
         have hb:=((((HB.out.set_ 0 (.int .i64 0)).set_ 1 (.int .i64 0)).set_ 2 (.string ⟨#[]⟩)).set_ 3 (.slice none 0 0))
         have r0:=hb.cell 0
         have r1:=hb.cell 1
         have r2:=hb.cell 2
         have r3:=hb.cell 3
         simp at r0 r1 r2 r3
         refine bodyPost_ret (v:=.tuple #[.agg #[.int .i64 0,.int .i64 0,.string ⟨#[]⟩,.slice none 0 0],.int .i64 11]) (by simp [results,Tryz.results74,go_sem,r0,r1,r2,r3]) rfl ?_
         exact PaTo.of HBAD.out ((((HC.out.setCell (p:=⟨w.heap.size,0,none⟩) (fun h=>absurd h (Nat.lt_irrefl _)) _).setCell (p:=⟨w.heap.size,1,none⟩) (fun h=>absurd h (Nat.lt_irrefl _)) _).setCell (p:=⟨w.heap.size,2,none⟩) (fun h=>absurd h (Nat.lt_irrefl _)) _).setCell (p:=⟨w.heap.size,3,none⟩) (fun h=>absurd h (Nat.lt_irrefl _)) _)
       ·have u46:((c:Int)==46)=false:=by simp;omega
        by_cases h48:c<48
        ·have e48:decide ((48:Int)<=c)=false:=by simp;omega
         have e48':decide (48<=c)=false:=by simp;omega
         clear h46 hd hc46 hgood
         go_wp2_with fail
         try simp only [Exit.noGoto_ret]
         have hb:=((((HB.out.set_ 0 (.int .i64 0)).set_ 1 (.int .i64 0)).set_ 2 (.string ⟨#[]⟩)).set_ 3 (.slice none 0 0))
         have r0:=hb.cell 0
         have r1:=hb.cell 1
         have r2:=hb.cell 2
         have r3:=hb.cell 3
         simp at r0 r1 r2 r3
         refine bodyPost_ret (v:=.tuple #[.agg #[.int .i64 0,.int .i64 0,.string ⟨#[]⟩,.slice none 0 0],.int .i64 11]) (by simp [results,Tryz.results74,go_sem,r0,r1,r2,r3]) rfl ?_
         exact PaTo.of HBAD.out ((((HC.out.setCell (p:=⟨w.heap.size,0,none⟩) (fun h=>absurd h (Nat.lt_irrefl _)) _).setCell (p:=⟨w.heap.size,1,none⟩) (fun h=>absurd h (Nat.lt_irrefl _)) _).setCell (p:=⟨w.heap.size,2,none⟩) (fun h=>absurd h (Nat.lt_irrefl _)) _).setCell (p:=⟨w.heap.size,3,none⟩) (fun h=>absurd h (Nat.lt_irrefl _)) _)
        ·have e48:decide ((48:Int)<=c)=true:=by simp;omega
         have e48':decide (48<=c)=true:=by simp;omega
         have e57:decide ((c:Int)<=57)=false:=by unfold isD at hd;simp;omega
         have e57':decide (c<=57)=false:=by unfold isD at hd;simp;omega
         clear h46 hd hc46 hgood
         go_wp2_with fail
         try simp only [Exit.noGoto_ret]
         have hb:=((((HB.out.set_ 0 (.int .i64 0)).set_ 1 (.int .i64 0)).set_ 2 (.string ⟨#[]⟩)).set_ 3 (.slice none 0 0))
         have r0:=hb.cell 0
         have r1:=hb.cell 1
         have r2:=hb.cell 2
         have r3:=hb.cell 3
         simp at r0 r1 r2 r3
         refine bodyPost_ret (v:=.tuple #[.agg #[.int .i64 0,.int .i64 0,.string ⟨#[]⟩,.slice none 0 0],.int .i64 11]) (by simp [results,Tryz.results74,go_sem,r0,r1,r2,r3]) rfl ?_
         exact PaTo.of HBAD.out ((((HC.out.setCell (p:=⟨w.heap.size,0,none⟩) (fun h=>absurd h (Nat.lt_irrefl _)) _).setCell (p:=⟨w.heap.size,1,none⟩) (fun h=>absurd h (Nat.lt_irrefl _)) _).setCell (p:=⟨w.heap.size,2,none⟩) (fun h=>absurd h (Nat.lt_irrefl _)) _).setCell (p:=⟨w.heap.size,3,none⟩) (fun h=>absurd h (Nat.lt_irrefl _)) _)
    ·-- the loop is over
     have e1:decide ((k:Int)<n)=false:=by simp;omega
     have e1':decide (k<n)=false:=by simp;omega
     have hdk:d0<=k:=HP.out.db
     have HKL:Hid (k=l.length):=by show k=l.length;rw [HLN.out];omega
     by_cases hd0:d0=0
     ·subst hd0
      have HN:=kf (HP.out.nod HKL.out HA.out rfl)
      clear hgood
      go_wp2_with fail
      try simp only [Exit.noGoto_ret]
      have hb:=((((HB.out.set_ 0 (.int .i64 0)).set_ 1 (.int .i64 0)).set_ 2 (.string ⟨#[]⟩)).set_ 3 (.slice none 0 0))
      have r0:=hb.cell 0
      have r1:=hb.cell 1
      have r2:=hb.cell 2
      have r3:=hb.cell 3
      simp at r0 r1 r2 r3
      refine bodyPost_ret (v:=.tuple #[.agg #[.int .i64 0,.int .i64 0,.string ⟨#[]⟩,.slice none 0 0],.int .i64 11]) (by simp [results,Tryz.results74,go_sem,r0,r1,r2,r3]) rfl ?_
      exact PaTo.of HN.out ((((HC.out.setCell (p:=⟨w.heap.size,0,none⟩) (fun h=>absurd h (Nat.lt_irrefl _)) _).setCell (p:=⟨w.heap.size,1,none⟩) (fun h=>absurd h (Nat.lt_irrefl _)) _).setCell (p:=⟨w.heap.size,2,none⟩) (fun h=>absurd h (Nat.lt_irrefl _)) _).setCell (p:=⟨w.heap.size,3,none⟩) (fun h=>absurd h (Nat.lt_irrefl _)) _)
     ·have u0:((d0:Int)==0)=false:=by simp;omega
      have hn0':0<n:=by omega
      have HD0:=kf hd0
      clear hd0
      cases ov
      case true =>
       have HN:=kf (HP.out.rng HKL.out HA.out HD0.out (.inl rfl))
       clear hgood
       go_wp2_with fail
       try simp only [Exit.noGoto_ret]
       have hb:=((((HB.out.set_ 0 (.int .i64 0)).set_ 1 (.int .i64 0)).set_ 2 (.string ⟨#[]⟩)).set_ 3 (.slice none 0 0))
       have r0:=hb.cell 0
       have r1:=hb.cell 1
       have r2:=hb.cell 2
       have r3:=hb.cell 3
       simp at r0 r1 r2 r3
       refine bodyPost_ret (v:=.tuple #[.agg #[.int .i64 0,.int .i64 0,.string ⟨#[]⟩,.slice none 0 0],.int .i64 5]) (by simp [results,Tryz.results74,go_sem,r0,r1,r2,r3]) rfl ?_
       exact PaTo.of HN.out ((((HC.out.setCell (p:=⟨w.heap.size,0,none⟩) (fun h=>absurd h (Nat.lt_irrefl _)) _).setCell (p:=⟨w.heap.size,1,none⟩) (fun h=>absurd h (Nat.lt_irrefl _)) _).setCell (p:=⟨w.heap.size,2,none⟩) (fun h=>absurd h (Nat.lt_irrefl _)) _).setCell (p:=⟨w.heap.size,3,none⟩) (fun h=>absurd h (Nat.lt_irrefl _)) _)
      case false =>
       have hng:n0<=2147483647:=hgood.n rfl
       clear hgood
       rcases fr with _|j
       ·have hpt:=HP.out.pt_none rfl
        subst hpt
        have HOK:=kf (fun(X:Int) (hX:X=if a=1/\l.getD 0 0=45 then 0-(n0:Int) else(n0:Int))=>HP.out.ok HKL.out HA.out HD0.out (by rintro(h|h)<;>first|exact absurd h Bool.false_ne_true|exact h.1 rfl) (K:=2) (v:=(n0:Int)) rfl rfl hX)
        have hgg:w.heap.size<wc.heap.size:=HB.out.lt
        have HB2:=kf (HB.out.alloc (.cells #[.int .i64 2,.int .i64 (n0:Nat),.string ⟨#[]⟩,.slice none 0 0] 24))
        have HV2:=kf (Blk.new wc 24 #[.int .i64 2,.int .i64 (n0:Nat),.string ⟨#[]⟩,.slice none 0 0])
        have HC2:=kf (HC.out.alloc (.cells #[.int .i64 2,.int .i64 (n0:Nat),.string ⟨#[]⟩,.slice none 0 0] 24))
        go_upto_region 33 with fail
        obtain⟨W2,hW2⟩:∃ W2,W2=wc.alloc (.cells #[.int .i64 2,.int .i64 (n0:Nat),.string ⟨#[]⟩,.slice none 0 0] 24):=⟨_,rfl⟩
        rw [<- hW2] at HB2 HV2 HC2 ⊢
        obtain⟨g,hgs⟩:∃ g,g=wc.heap.size:=⟨_,rfl⟩
        rw [<- hgs] at HV2 hgg ⊢
        clear hW2 hgs q0 q1 q2 q3 z0 z1 z2 z3
        have hgn:w.heap.size≠g:=Nat.ne_of_lt hgg
        have hNS:∀ i,¬((⟨g,i,none⟩:Addr).block<w.heap.size):=fun i h=>absurd h (Nat.lt_asymm hgg)
        have q0:=HB2.out.cell 0
        have q1:=HB2.out.cell 1
        have q2:=HB2.out.cell 2
        have q3:=HB2.out.cell 3
        have y0:=HV2.out.cell 0
        have y1:=HV2.out.cell 1
        have y2:=HV2.out.cell 2
        have y3:=HV2.out.cell 3
        have z0:=HB2.out.frozen 0
        have z1:=HB2.out.frozen 1
        have z2:=HB2.out.frozen 2
        have z3:=HB2.out.frozen 3
        have v0:=HV2.out.frozen 0
        have v1:=HV2.out.frozen 1
        have v2:=HV2.out.frozen 2
        have v3:=HV2.out.frozen 3
        simp at q0 q1 q2 q3 y0 y1 y2 y3
        obtain⟨x,hx⟩:∃ x,l.getD 0 0=x:=⟨_,rfl⟩
        have hx0:=HAT.out 0 hn0'
        rw [hx] at hx0
        have HX:=kf hx
        have hn0I:(0:Int)<n:=by omega
        clear hx
        by_cases h45:x=45
        ·subst h45
         go_upto_region 37 with fail
         clear q0 q1 q2 q3 y0 y1 y2 y3 z0 z1 z2 z3 v0 v1 v2 v3
         first
         |(obtain⟨W4,hW4⟩:∃ W4,W4=W2.setCell ⟨g,1,none⟩ (.int .i64 (-(n0:Nat))):=⟨_,rfl⟩
           have HB4:=kf (HB2.out.far (p:=⟨g,1,none⟩) hgn (.int .i64 (-(n0:Nat))))
           have HV4:=kf (HV2.out.set_ 1 (.int .i64 (-(n0:Nat))))
           have HC4:=kf (HC2.out.setCell (p:=⟨g,1,none⟩) (hNS 1) (.int .i64 (-(n0:Nat))))
           rw [<- hW4] at HB4 HV4 HC4 ⊢
           clear hW4
           have q0:=HB4.out.cell 0
           have q1:=HB4.out.cell 1
           have q2:=HB4.out.cell 2
           have q3:=HB4.out.cell 3
           have y0:=HV4.out.cell 0
           have y1:=HV4.out.cell 1
           have y2:=HV4.out.cell 2
           have y3:=HV4.out.cell 3
           have z0:=HB4.out.frozen 0
           have z1:=HB4.out.frozen 1
           have z2:=HB4.out.frozen 2
           have z3:=HB4.out.frozen 3
           have v0:=HV4.out.frozen 0
           have v1:=HV4.out.frozen 1
           have v2:=HV4.out.frozen 2
           have v3:=HV4.out.frozen 3
           simp at q0 q1 q2 q3 y0 y1 y2 y3
           go_wp2_with fail
           try simp only [Exit.noGoto_ret]
           have hb:=((((HB4.out.set_ 0 (.int .i64 2)).set_ 1 (.int .i64 (-(n0:Nat)))).set_ 2 (.string ⟨#[]⟩)).set_ 3 (.slice none 0 0))
           have r0:=hb.cell 0
           have r1:=hb.cell 1
           have r2:=hb.cell 2
           have r3:=hb.cell 3
           simp at r0 r1 r2 r3
           refine bodyPost_ret (v:=.tuple #[.agg #[.int .i64 2,.int .i64 (-(n0:Nat)),.string ⟨#[]⟩,.slice none 0 0],.int .i64 0]) (by simp [results,Tryz.results74,go_sem,r0,r1,r2,r3]) rfl ?_
           exact PaTo.of (HOK.out _ (by rw [HEA.out,HX.out];simp)) ((((HC4.out.setCell (p:=⟨w.heap.size,0,none⟩) (fun h=>absurd h (Nat.lt_irrefl _)) _).setCell (p:=⟨w.heap.size,1,none⟩) (fun h=>absurd h (Nat.lt_irrefl _)) _).setCell (p:=⟨w.heap.size,2,none⟩) (fun h=>absurd h (Nat.lt_irrefl _)) _).setCell (p:=⟨w.heap.size,3,none⟩) (fun h=>absurd h (Nat.lt_irrefl _)) _))
         |(have q0:=HB2.out.cell 0
           have q1:=HB2.out.cell 1
           have q2:=HB2.out.cell 2
           have q3:=HB2.out.cell 3
           have y0:=HV2.out.cell 0
           have y1:=HV2.out.cell 1
           have y2:=HV2.out.cell 2
           have y3:=HV2.out.cell 3
           have z0:=HB2.out.frozen 0
           have z1:=HB2.out.frozen 1
           have z2:=HB2.out.frozen 2
           have z3:=HB2.out.frozen 3
           have v0:=HV2.out.frozen 0
           have v1:=HV2.out.frozen 1
           have v2:=HV2.out.frozen 2
           have v3:=HV2.out.frozen 3
           simp at q0 q1 q2 q3 y0 y1 y2 y3
           go_wp2_with fail
           try simp only [Exit.noGoto_ret]
           have hb:=((((HB2.out.set_ 0 (.int .i64 2)).set_ 1 (.int .i64 (n0:Nat))).set_ 2 (.string ⟨#[]⟩)).set_ 3 (.slice none 0 0))
           have r0:=hb.cell 0
           have r1:=hb.cell 1
           have r2:=hb.cell 2
           have r3:=hb.cell 3
           simp at r0 r1 r2 r3
           refine bodyPost_ret (v:=.tuple #[.agg #[.int .i64 2,.int .i64 (n0:Nat),.string ⟨#[]⟩,.slice none 0 0],.int .i64 0]) (by simp [results,Tryz.results74,go_sem,r0,r1,r2,r3]) rfl ?_
           exact PaTo.of (HOK.out _ (by rw [HEA.out,HX.out];simp)) ((((HC2.out.setCell (p:=⟨w.heap.size,0,none⟩) (fun h=>absurd h (Nat.lt_irrefl _)) _).setCell (p:=⟨w.heap.size,1,none⟩) (fun h=>absurd h (Nat.lt_irrefl _)) _).setCell (p:=⟨w.heap.size,2,none⟩) (fun h=>absurd h (Nat.lt_irrefl _)) _).setCell (p:=⟨w.heap.size,3,none⟩) (fun h=>absurd h (Nat.lt_irrefl _)) _))
        ·have u45:((x:Int)==45)=false:=by simp;omega
         have u45':¬(a=1/\l.getD 0 0=45):=by rw [HX.out];exact fun h=>h45 h.2
         have HU:=kf u45'
         clear u45' h45
         go_upto_region 37 with fail
         clear q0 q1 q2 q3 y0 y1 y2 y3 z0 z1 z2 z3 v0 v1 v2 v3
         have q0:=HB2.out.cell 0
         have q1:=HB2.out.cell 1
         have q2:=HB2.out.cell 2
         have q3:=HB2.out.cell 3
         have y0:=HV2.out.cell 0
         have y1:=HV2.out.cell 1
         have y2:=HV2.out.cell 2
         have y3:=HV2.out.cell 3
         have z0:=HB2.out.frozen 0
         have z1:=HB2.out.frozen 1
         have z2:=HB2.out.frozen 2
         have z3:=HB2.out.frozen 3
         have v0:=HV2.out.frozen 0
         have v1:=HV2.out.frozen 1
         have v2:=HV2.out.frozen 2
         have v3:=HV2.out.frozen 3
         simp at q0 q1 q2 q3 y0 y1 y2 y3
         go_wp2_with fail
         try simp only [Exit.noGoto_ret]
         have hb:=((((HB2.out.set_ 0 (.int .i64 2)).set_ 1 (.int .i64 (n0:Nat))).set_ 2 (.string ⟨#[]⟩)).set_ 3 (.slice none 0 0))
         have r0:=hb.cell 0
         have r1:=hb.cell 1
         have r2:=hb.cell 2
         have r3:=hb.cell 3
         simp at r0 r1 r2 r3
         refine bodyPost_ret (v:=.tuple #[.agg #[.int .i64 2,.int .i64 (n0:Nat),.string ⟨#[]⟩,.slice none 0 0],.int .i64 0]) (by simp [results,Tryz.results74,go_sem,r0,r1,r2,r3]) rfl ?_
         exact PaTo.of (HOK.out _ (by rw [if_neg HU.out])) ((((HC2.out.setCell (p:=⟨w.heap.size,0,none⟩) (fun h=>absurd h (Nat.lt_irrefl _)) _).setCell (p:=⟨w.heap.size,1,none⟩) (fun h=>absurd h (Nat.lt_irrefl _)) _).setCell (p:=⟨w.heap.size,2,none⟩) (fun h=>absurd h (Nat.lt_irrefl _)) _).setCell (p:=⟨w.heap.size,3,none⟩) (fun h=>absurd h (Nat.lt_irrefl _)) _)
       ·obtain⟨p,rfl,hkp⟩:=HP.out.pt_some j rfl
        have ep:decide ((0:Int)<=p)=true:=by simp
        by_cases hG:n0=2147483647
        ·have gG:((n0:Int)==2147483647)=true:=by subst hG;rfl
         by_cases hp0':0<p0
         ·have c1:decide ((0:Int)<p0)=true:=by simp;omega
          have c1':decide (0<p0)=true:=by simp;omega
          have HN:=kf (HP.out.rng HKL.out HA.out HD0.out (.inr ⟨by simp,hG,hp0'⟩))
          clear hkp
          go_wp2_with fail
          try simp only [Exit.noGoto_ret]
          have hb:=((((HB.out.set_ 0 (.int .i64 0)).set_ 1 (.int .i64 0)).set_ 2 (.string ⟨#[]⟩)).set_ 3 (.slice none 0 0))
          have r0:=hb.cell 0
          have r1:=hb.cell 1
          have r2:=hb.cell 2
          have r3:=hb.cell 3
          simp at r0 r1 r2 r3
          refine bodyPost_ret (v:=.tuple #[.agg #[.int .i64 0,.int .i64 0,.string ⟨#[]⟩,.slice none 0 0],.int .i64 5]) (by simp [results,Tryz.results74,go_sem,r0,r1,r2,r3]) rfl ?_
          exact PaTo.of HN.out ((((HC.out.setCell (p:=⟨w.heap.size,0,none⟩) (fun h=>absurd h (Nat.lt_irrefl _)) _).setCell (p:=⟨w.heap.size,1,none⟩) (fun h=>absurd h (Nat.lt_irrefl _)) _).setCell (p:=⟨w.heap.size,2,none⟩) (fun h=>absurd h (Nat.lt_irrefl _)) _).setCell (p:=⟨w.heap.size,3,none⟩) (fun h=>absurd h (Nat.lt_irrefl _)) _)
         ·have c1:decide ((0:Int)<p0)=false:=by simp;omega
          have c1':decide (0<p0)=false:=by simp;omega
          have hno:¬(n0=2147483647/\0<p0):=fun h=>hp0' h.2
          clear hkp hp0' hG
          have HNR:Hid (¬((⟨n0,p0,d0,some j,false⟩:Ns).over=true\/((⟨n0,p0,d0,some j,false⟩:Ns).fr≠none/\(⟨n0,p0,d0,some j,false⟩:Ns).n=2147483647/\0<(⟨n0,p0,d0,some j,false⟩:Ns).parts))):=by
           rintro(h|h)
           ·exact absurd h Bool.false_ne_true
           ·exact hno ⟨h.2.1,h.2.2⟩
          clear hno
          have hgg:w.heap.size<wc.heap.size:=HB.out.lt
          have HB2:=kf (HB.out.alloc (.cells #[.int .i64 2,.int .i64 (n0:Nat),.string ⟨#[]⟩,.slice none 0 0] 24))
          have HV2:=kf (Blk.new wc 24 #[.int .i64 2,.int .i64 (n0:Nat),.string ⟨#[]⟩,.slice none 0 0])
          have HC2:=kf (HC.out.alloc (.cells #[.int .i64 2,.int .i64 (n0:Nat),.string ⟨#[]⟩,.slice none 0 0] 24))
          go_upto_region 33 with fail
          obtain⟨W2,hW2⟩:∃ W2,W2=wc.alloc (.cells #[.int .i64 2,.int .i64 (n0:Nat),.string ⟨#[]⟩,.slice none 0 0] 24):=⟨_,rfl⟩
          rw [<- hW2] at HB2 HV2 HC2 ⊢
          obtain⟨g,hgs⟩:∃ g,g=wc.heap.size:=⟨_,rfl⟩
          rw [<- hgs] at HV2 hgg ⊢
          clear hW2 hgs q0 q1 q2 q3 z0 z1 z2 z3
          have hgn:w.heap.size≠g:=Nat.ne_of_lt hgg
          have hNS:∀ i,¬((⟨g,i,none⟩:Addr).block<w.heap.size):=fun i h=>absurd h (Nat.lt_asymm hgg)
          have q0:=HB2.out.cell 0
          have q1:=HB2.out.cell 1
          have q2:=HB2.out.cell 2
          have q3:=HB2.out.cell 3
          have y0:=HV2.out.cell 0
          have y1:=HV2.out.cell 1
          have y2:=HV2.out.cell 2
          have y3:=HV2.out.cell 3
          have z0:=HB2.out.frozen 0
          have z1:=HB2.out.frozen 1
          have z2:=HB2.out.frozen 2
          have z3:=HB2.out.frozen 3
          have v0:=HV2.out.frozen 0
          have v1:=HV2.out.frozen 1
          have v2:=HV2.out.frozen 2
          have v3:=HV2.out.frozen 3
          simp at q0 q1 q2 q3 y0 y1 y2 y3
          obtain⟨v,hv⟩:∃ v:Nat,v=1000000*n0+p0:=⟨_,rfl⟩
          have ev:(1000000:Int)*(n0:Int)+(p0:Int)=(v:Int):=by omega
          have hvb:v<=2147483648000000:=by omega
          have HOK:=kf (fun(X:Int) (hX:X=if a=1/\l.getD 0 0=45 then 0-(v:Int) else(v:Int))=>HP.out.ok HKL.out HA.out HD0.out HNR.out (K:=3) (v:=(v:Int)) rfl (by rw [hv];rfl) hX)
          clear hv
          go_upto_region 35 with fail
          clear q0 q1 q2 q3 y0 y1 y2 y3 z0 z1 z2 z3 v0 v1 v2 v3
          obtain⟨W3,hW3⟩:∃ W3,W3=(((W2.setCell ⟨g,0,none⟩ (.int .i64 3)).setCell ⟨g,1,none⟩ (.int .i64 (v:Nat))).setCell ⟨g,2,none⟩ (.string ⟨#[]⟩)).setCell ⟨g,3,none⟩ (.slice none 0 0):=⟨_,rfl⟩
          have HB3:=kf ((((HB2.out.far (p:=⟨g,0,none⟩) hgn (.int .i64 3)).far (p:=⟨g,1,none⟩) hgn (.int .i64 (v:Nat))).far (p:=⟨g,2,none⟩) hgn (.string ⟨#[]⟩)).far (p:=⟨g,3,none⟩) hgn (.slice none 0 0))
          have HV3:=kf ((((HV2.out.set_ 0 (.int .i64 3)).set_ 1 (.int .i64 (v:Nat))).set_ 2 (.string ⟨#[]⟩)).set_ 3 (.slice none 0 0))
          have HC3:=kf ((((HC2.out.setCell (p:=⟨g,0,none⟩) (hNS 0) (.int .i64 3)).setCell (p:=⟨g,1,none⟩) (hNS 1) (.int .i64 (v:Nat))).setCell (p:=⟨g,2,none⟩) (hNS 2) (.string ⟨#[]⟩)).setCell (p:=⟨g,3,none⟩) (hNS 3) (.slice none 0 0))
          rw [<- hW3] at HB3 HV3 HC3 ⊢
          clear hW3
          have q0:=HB3.out.cell 0
          have q1:=HB3.out.cell 1
          have q2:=HB3.out.cell 2
          have q3:=HB3.out.cell 3
          have y0:=HV3.out.cell 0
          have y1:=HV3.out.cell 1
          have y2:=HV3.out.cell 2
          have y3:=HV3.out.cell 3
          have z0:=HB3.out.frozen 0
          have z1:=HB3.out.frozen 1
          have z2:=HB3.out.frozen 2
          have z3:=HB3.out.frozen 3
          have v0:=HV3.out.frozen 0
          have v1:=HV3.out.frozen 1
          have v2:=HV3.out.frozen 2
          have v3:=HV3.out.frozen 3
          simp at q0 q1 q2 q3 y0 y1 y2 y3
          obtain⟨x,hx⟩:∃ x,l.getD 0 0=x:=⟨_,rfl⟩
          have hx0:=HAT.out 0 hn0'
          rw [hx] at hx0
          have HX:=kf hx
          have hn0I:(0:Int)<n:=by omega
          clear hx
          by_cases h45:x=45
          ·subst h45
           go_upto_region 37 with fail
           clear q0 q1 q2 q3 y0 y1 y2 y3 z0 z1 z2 z3 v0 v1 v2 v3
           first
           |(obtain⟨W4,hW4⟩:∃ W4,W4=W3.setCell ⟨g,1,none⟩ (.int .i64 (-(v:Nat))):=⟨_,rfl⟩
             have HB4:=kf (HB3.out.far (p:=⟨g,1,none⟩) hgn (.int .i64 (-(v:Nat))))
             have HV4:=kf (HV3.out.set_ 1 (.int .i64 (-(v:Nat))))
             have HC4:=kf (HC3.out.setCell (p:=⟨g,1,none⟩) (hNS 1) (.int .i64 (-(v:Nat))))
             rw [<- hW4] at HB4 HV4 HC4 ⊢
             clear hW4
             have q0:=HB4.out.cell 0
             have q1:=HB4.out.cell 1
             have q2:=HB4.out.cell 2
             have q3:=HB4.out.cell 3
             have y0:=HV4.out.cell 0
             have y1:=HV4.out.cell 1
             have y2:=HV4.out.cell 2
             have y3:=HV4.out.cell 3
             have z0:=HB4.out.frozen 0
             have z1:=HB4.out.frozen 1
             have z2:=HB4.out.frozen 2
             have z3:=HB4.out.frozen 3
             have v0:=HV4.out.frozen 0
             have v1:=HV4.out.frozen 1
             have v2:=HV4.out.frozen 2
             have v3:=HV4.out.frozen 3
             simp at q0 q1 q2 q3 y0 y1 y2 y3
             go_wp2_with fail
             try simp only [Exit.noGoto_ret]
             have hb:=((((HB4.out.set_ 0 (.int .i64 3)).set_ 1 (.int .i64 (-(v:Nat)))).set_ 2 (.string ⟨#[]⟩)).set_ 3 (.slice none 0 0))
             have r0:=hb.cell 0
             have r1:=hb.cell 1
             have r2:=hb.cell 2
             have r3:=hb.cell 3
             simp at r0 r1 r2 r3
             refine bodyPost_ret (v:=.tuple #[.agg #[.int .i64 3,.int .i64 (-(v:Nat)),.string ⟨#[]⟩,.slice none 0 0],.int .i64 0]) (by simp [results,Tryz.results74,go_sem,r0,r1,r2,r3]) rfl ?_
             exact PaTo.of (HOK.out _ (by rw [HEA.out,HX.out];simp)) ((((HC4.out.setCell (p:=⟨w.heap.size,0,none⟩) (fun h=>absurd h (Nat.lt_irrefl _)) _).setCell (p:=⟨w.heap.size,1,none⟩) (fun h=>absurd h (Nat.lt_irrefl _)) _).setCell (p:=⟨w.heap.size,2,none⟩) (fun h=>absurd h (Nat.lt_irrefl _)) _).setCell (p:=⟨w.heap.size,3,none⟩) (fun h=>absurd h (Nat.lt_irrefl _)) _))
           |(have q0:=HB3.out.cell 0
             have q1:=HB3.out.cell 1
             have q2:=HB3.out.cell 2
             have q3:=HB3.out.cell 3
             have y0:=HV3.out.cell 0
             have y1:=HV3.out.cell 1
             have y2:=HV3.out.cell 2
             have y3:=HV3.out.cell 3
             have z0:=HB3.out.frozen 0
             have z1:=HB3.out.frozen 1
             have z2:=HB3.out.frozen 2
             have z3:=HB3.out.frozen 3
             have v0:=HV3.out.frozen 0
             have v1:=HV3.out.frozen 1
             have v2:=HV3.out.frozen 2
             have v3:=HV3.out.frozen 3
             simp at q0 q1 q2 q3 y0 y1 y2 y3
             go_wp2_with fail
             try simp only [Exit.noGoto_ret]
             have hb:=((((HB3.out.set_ 0 (.int .i64 3)).set_ 1 (.int .i64 (v:Nat))).set_ 2 (.string ⟨#[]⟩)).set_ 3 (.slice none 0 0))
             have r0:=hb.cell 0
             have r1:=hb.cell 1
             have r2:=hb.cell 2
             have r3:=hb.cell 3
             simp at r0 r1 r2 r3
             refine bodyPost_ret (v:=.tuple #[.agg #[.int .i64 3,.int .i64 (v:Nat),.string ⟨#[]⟩,.slice none 0 0],.int .i64 0]) (by simp [results,Tryz.results74,go_sem,r0,r1,r2,r3]) rfl ?_
             exact PaTo.of (HOK.out _ (by rw [HEA.out,HX.out];simp)) ((((HC3.out.setCell (p:=⟨w.heap.size,0,none⟩) (fun h=>absurd h (Nat.lt_irrefl _)) _).setCell (p:=⟨w.heap.size,1,none⟩) (fun h=>absurd h (Nat.lt_irrefl _)) _).setCell (p:=⟨w.heap.size,2,none⟩) (fun h=>absurd h (Nat.lt_irrefl _)) _).setCell (p:=⟨w.heap.size,3,none⟩) (fun h=>absurd h (Nat.lt_irrefl _)) _))
          ·have u45:((x:Int)==45)=false:=by simp;omega
           have u45':¬(a=1/\l.getD 0 0=45):=by rw [HX.out];exact fun h=>h45 h.2
           have HU:=kf u45'
           clear u45' h45
           go_upto_region 37 with fail
           clear q0 q1 q2 q3 y0 y1 y2 y3 z0 z1 z2 z3 v0 v1 v2 v3
           have q0:=HB3.out.cell 0
           have q1:=HB3.out.cell 1
           have q2:=HB3.out.cell 2
           have q3:=HB3.out.cell 3
           have y0:=HV3.out.cell 0
           have y1:=HV3.out.cell 1
           have y2:=HV3.out.cell 2
           have y3:=HV3.out.cell 3
           have z0:=HB3.out.frozen 0
           have z1:=HB3.out.frozen 1
           have z2:=HB3.out.frozen 2
           have z3:=HB3.out.frozen 3
           have v0:=HV3.out.frozen 0
           have v1:=HV3.out.frozen 1
           have v2:=HV3.out.frozen 2
           have v3:=HV3.out.frozen 3
           simp at q0 q1 q2 q3 y0 y1 y2 y3
           go_wp2_with fail
           try simp only [Exit.noGoto_ret]
           have hb:=((((HB3.out.set_ 0 (.int .i64 3)).set_ 1 (.int .i64 (v:Nat))).set_ 2 (.string ⟨#[]⟩)).set_ 3 (.slice none 0 0))
           have r0:=hb.cell 0
           have r1:=hb.cell 1
           have r2:=hb.cell 2
           have r3:=hb.cell 3
           simp at r0 r1 r2 r3
           refine bodyPost_ret (v:=.tuple #[.agg #[.int .i64 3,.int .i64 (v:Nat),.string ⟨#[]⟩,.slice none 0 0],.int .i64 0]) (by simp [results,Tryz.results74,go_sem,r0,r1,r2,r3]) rfl ?_
           exact PaTo.of (HOK.out _ (by rw [if_neg HU.out])) ((((HC3.out.setCell (p:=⟨w.heap.size,0,none⟩) (fun h=>absurd h (Nat.lt_irrefl _)) _).setCell (p:=⟨w.heap.size,1,none⟩) (fun h=>absurd h (Nat.lt_irrefl _)) _).setCell (p:=⟨w.heap.size,2,none⟩) (fun h=>absurd h (Nat.lt_irrefl _)) _).setCell (p:=⟨w.heap.size,3,none⟩) (fun h=>absurd h (Nat.lt_irrefl _)) _)
        ·have gG:((n0:Int)==2147483647)=false:=by simp;omega
         have hno:¬(n0=2147483647/\0<p0):=fun h=>hG h.1
         clear hkp hG
         have HNR:Hid (¬((⟨n0,p0,d0,some j,false⟩:Ns).over=true\/((⟨n0,p0,d0,some j,false⟩:Ns).fr≠none/\(⟨n0,p0,d0,some j,false⟩:Ns).n=2147483647/\0<(⟨n0,p0,d0,some j,false⟩:Ns).parts))):=by
          rintro(h|h)
          ·exact absurd h Bool.false_ne_true
          ·exact hno ⟨h.2.1,h.2.2⟩
         clear hno
         have hgg:w.heap.size<wc.heap.size:=HB.out.lt
         have HB2:=kf (HB.out.alloc (.cells #[.int .i64 2,.int .i64 (n0:Nat),.string ⟨#[]⟩,.slice none 0 0] 24))
         have HV2:=kf (Blk.new wc 24 #[.int .i64 2,.int .i64 (n0:Nat),.string ⟨#[]⟩,.slice none 0 0])
         have HC2:=kf (HC.out.alloc (.cells #[.int .i64 2,.int .i64 (n0:Nat),.string ⟨#[]⟩,.slice none 0 0] 24))
         go_upto_region 33 with fail
         obtain⟨W2,hW2⟩:∃ W2,W2=wc.alloc (.cells #[.int .i64 2,.int .i64 (n0:Nat),.string ⟨#[]⟩,.slice none 0 0] 24):=⟨_,rfl⟩
         rw [<- hW2] at HB2 HV2 HC2 ⊢
         obtain⟨g,hgs⟩:∃ g,g=wc.heap.size:=⟨_,rfl⟩
         rw [<- hgs] at HV2 hgg ⊢
         clear hW2 hgs q0 q1 q2 q3 z0 z1 z2 z3
         have hgn:w.heap.size≠g:=Nat.ne_of_lt hgg
         have hNS:∀ i,¬((⟨g,i,none⟩:Addr).block<w.heap.size):=fun i h=>absurd h (Nat.lt_asymm hgg)
         have q0:=HB2.out.cell 0
         have q1:=HB2.out.cell 1
         have q2:=HB2.out.cell 2
         have q3:=HB2.out.cell 3
         have y0:=HV2.out.cell 0
         have y1:=HV2.out.cell 1
         have y2:=HV2.out.cell 2
         have y3:=HV2.out.cell 3
         have z0:=HB2.out.frozen 0
         have z1:=HB2.out.frozen 1
         have z2:=HB2.out.frozen 2
         have z3:=HB2.out.frozen 3
         have v0:=HV2.out.frozen 0
         have v1:=HV2.out.frozen 1
         have v2:=HV2.out.frozen 2
         have v3:=HV2.out.frozen 3
         simp at q0 q1 q2 q3 y0 y1 y2 y3
         obtain⟨v,hv⟩:∃ v:Nat,v=1000000*n0+p0:=⟨_,rfl⟩
         have ev:(1000000:Int)*(n0:Int)+(p0:Int)=(v:Int):=by omega
         have hvb:v<=2147483648000000:=by omega
         have HOK:=kf (fun(X:Int) (hX:X=if a=1/\l.getD 0 0=45 then 0-(v:Int) else(v:Int))=>HP.out.ok HKL.out HA.out HD0.out HNR.out (K:=3) (v:=(v:Int)) rfl (by rw [hv];rfl) hX)
         clear hv
         go_upto_region 35 with fail
         clear q0 q1 q2 q3 y0 y1 y2 y3 z0 z1 z2 z3 v0 v1 v2 v3
         obtain⟨W3,hW3⟩:∃ W3,W3=(((W2.setCell ⟨g,0,none⟩ (.int .i64 3)).setCell ⟨g,1,none⟩ (.int .i64 (v:Nat))).setCell ⟨g,2,none⟩ (.string ⟨#[]⟩)).setCell ⟨g,3,none⟩ (.slice none 0 0):=⟨_,rfl⟩
         have HB3:=kf ((((HB2.out.far (p:=⟨g,0,none⟩) hgn (.int .i64 3)).far (p:=⟨g,1,none⟩) hgn (.int .i64 (v:Nat))).far (p:=⟨g,2,none⟩) hgn (.string ⟨#[]⟩)).far (p:=⟨g,3,none⟩) hgn (.slice none 0 0))
         have HV3:=kf ((((HV2.out.set_ 0 (.int .i64 3)).set_ 1 (.int .i64 (v:Nat))).set_ 2 (.string ⟨#[]⟩)).set_ 3 (.slice none 0 0))
         have HC3:=kf ((((HC2.out.setCell (p:=⟨g,0,none⟩) (hNS 0) (.int .i64 3)).setCell (p:=⟨g,1,none⟩) (hNS 1) (.int .i64 (v:Nat))).setCell (p:=⟨g,2,none⟩) (hNS 2) (.string ⟨#[]⟩)).setCell (p:=⟨g,3,none⟩) (hNS 3) (.slice none 0 0))
         rw [<- hW3] at HB3 HV3 HC3 ⊢
         clear hW3
         have q0:=HB3.out.cell 0
         have q1:=HB3.out.cell 1
         have q2:=HB3.out.cell 2
         have q3:=HB3.out.cell 3
         have y0:=HV3.out.cell 0
         have y1:=HV3.out.cell 1
         have y2:=HV3.out.cell 2
         have y3:=HV3.out.cell 3
         have z0:=HB3.out.frozen 0
         have z1:=HB3.out.frozen 1
         have z2:=HB3.out.frozen 2
         have z3:=HB3.out.frozen 3
         have v0:=HV3.out.frozen 0
         have v1:=HV3.out.frozen 1
         have v2:=HV3.out.frozen 2
         have v3:=HV3.out.frozen 3
         simp at q0 q1 q2 q3 y0 y1 y2 y3
         obtain⟨x,hx⟩:∃ x,l.getD 0 0=x:=⟨_,rfl⟩
         have hx0:=HAT.out 0 hn0'
         rw [hx] at hx0
         have HX:=kf hx
         have hn0I:(0:Int)<n:=by omega
         clear hx
         by_cases h45:x=45
         ·subst h45
          go_upto_region 37 with fail
          clear q0 q1 q2 q3 y0 y1 y2 y3 z0 z1 z2 z3 v0 v1 v2 v3
          first
          |(obtain⟨W4,hW4⟩:∃ W4,W4=W3.setCell ⟨g,1,none⟩ (.int .i64 (-(v:Nat))):=⟨_,rfl⟩
            have HB4:=kf (HB3.out.far (p:=⟨g,1,none⟩) hgn (.int .i64 (-(v:Nat))))
            have HV4:=kf (HV3.out.set_ 1 (.int .i64 (-(v:Nat))))
            have HC4:=kf (HC3.out.setCell (p:=⟨g,1,none⟩) (hNS 1) (.int .i64 (-(v:Nat))))
            rw [<- hW4] at HB4 HV4 HC4 ⊢
            clear hW4
            have q0:=HB4.out.cell 0
            have q1:=HB4.out.cell 1
            have q2:=HB4.out.cell 2
            have q3:=HB4.out.cell 3
            have y0:=HV4.out.cell 0
            have y1:=HV4.out.cell 1
            have y2:=HV4.out.cell 2
            have y3:=HV4.out.cell 3
            have z0:=HB4.out.frozen 0
            have z1:=HB4.out.frozen 1
            have z2:=HB4.out.frozen 2
            have z3:=HB4.out.frozen 3
            have v0:=HV4.out.frozen 0
            have v1:=HV4.out.frozen 1
            have v2:=HV4.out.frozen 2
            have v3:=HV4.out.frozen 3
            simp at q0 q1 q2 q3 y0 y1 y2 y3
            go_wp2_with fail
            try simp only [Exit.noGoto_ret]
            have hb:=((((HB4.out.set_ 0 (.int .i64 3)).set_ 1 (.int .i64 (-(v:Nat)))).set_ 2 (.string ⟨#[]⟩)).set_ 3 (.slice none 0 0))
            have r0:=hb.cell 0
            have r1:=hb.cell 1
            have r2:=hb.cell 2
            have r3:=hb.cell 3
            simp at r0 r1 r2 r3
            refine bodyPost_ret (v:=.tuple #[.agg #[.int .i64 3,.int .i64 (-(v:Nat)),.string ⟨#[]⟩,.slice none 0 0],.int .i64 0]) (by simp [results,Tryz.results74,go_sem,r0,r1,r2,r3]) rfl ?_
            exact PaTo.of (HOK.out _ (by rw [HEA.out,HX.out];simp)) ((((HC4.out.setCell (p:=⟨w.heap.size,0,none⟩) (fun h=>absurd h (Nat.lt_irrefl _)) _).setCell (p:=⟨w.heap.size,1,none⟩) (fun h=>absurd h (Nat.lt_irrefl _)) _).setCell (p:=⟨w.heap.size,2,none⟩) (fun h=>absurd h (Nat.lt_irrefl _)) _).setCell (p:=⟨w.heap.size,3,none⟩) (fun h=>absurd h (Nat.lt_irrefl _)) _))
          |(have q0:=HB3.out.cell 0
            have q1:=HB3.out.cell 1
            have q2:=HB3.out.cell 2
            have q3:=HB3.out.cell 3
            have y0:=HV3.out.cell 0
            have y1:=HV3.out.cell 1
            have y2:=HV3.out.cell 2
            have y3:=HV3.out.cell 3
            have z0:=HB3.out.frozen 0
            have z1:=HB3.out.frozen 1
            have z2:=HB3.out.frozen 2
            have z3:=HB3.out.frozen 3
            have v0:=HV3.out.frozen 0
            have v1:=HV3.out.frozen 1
            have v2:=HV3.out.frozen 2
            have v3:=HV3.out.frozen 3
            simp at q0 q1 q2 q3 y0 y1 y2 y3
            go_wp2_with fail
            try simp only [Exit.noGoto_ret]
            have hb:=((((HB3.out.set_ 0 (.int .i64 3)).set_ 1 (.int .i64 (v:Nat))).set_ 2 (.string ⟨#[]⟩)).set_ 3 (.slice none 0 0))
            have r0:=hb.cell 0
            have r1:=hb.cell 1
            have r2:=hb.cell 2
            have r3:=hb.cell 3
            simp at r0 r1 r2 r3
            refine bodyPost_ret (v:=.tuple #[.agg #[.int .i64 3,.int .i64 (v:Nat),.string ⟨#[]⟩,.slice none 0 0],.int .i64 0]) (by simp [results,Tryz.results74,go_sem,r0,r1,r2,r3]) rfl ?_
            exact PaTo.of (HOK.out _ (by rw [HEA.out,HX.out];simp)) ((((HC3.out.setCell (p:=⟨w.heap.size,0,none⟩) (fun h=>absurd h (Nat.lt_irrefl _)) _).setCell (p:=⟨w.heap.size,1,none⟩) (fun h=>absurd h (Nat.lt_irrefl _)) _).setCell (p:=⟨w.heap.size,2,none⟩) (fun h=>absurd h (Nat.lt_irrefl _)) _).setCell (p:=⟨w.heap.size,3,none⟩) (fun h=>absurd h (Nat.lt_irrefl _)) _))
         ·have u45:((x:Int)==45)=false:=by simp;omega
          have u45':¬(a=1/\l.getD 0 0=45):=by rw [HX.out];exact fun h=>h45 h.2
          have HU:=kf u45'
          clear u45' h45
          go_upto_region 37 with fail
          clear q0 q1 q2 q3 y0 y1 y2 y3 z0 z1 z2 z3 v0 v1 v2 v3
          have q0:=HB3.out.cell 0
          have q1:=HB3.out.cell 1
          have q2:=HB3.out.cell 2
          have q3:=HB3.out.cell 3
          have y0:=HV3.out.cell 0
          have y1:=HV3.out.cell 1
          have y2:=HV3.out.cell 2
          have y3:=HV3.out.cell 3
          have z0:=HB3.out.frozen 0
          have z1:=HB3.out.frozen 1
          have z2:=HB3.out.frozen 2
          have z3:=HB3.out.frozen 3
          have v0:=HV3.out.frozen 0
          have v1:=HV3.out.frozen 1
          have v2:=HV3.out.frozen 2
          have v3:=HV3.out.frozen 3
          simp at q0 q1 q2 q3 y0 y1 y2 y3
          go_wp2_with fail
          try simp only [Exit.noGoto_ret]
          have hb:=((((HB3.out.set_ 0 (.int .i64 3)).set_ 1 (.int .i64 (v:Nat))).set_ 2 (.string ⟨#[]⟩)).set_ 3 (.slice none 0 0))
          have r0:=hb.cell 0
          have r1:=hb.cell 1
          have r2:=hb.cell 2
          have r3:=hb.cell 3
          simp at r0 r1 r2 r3
          refine bodyPost_ret (v:=.tuple #[.agg #[.int .i64 3,.int .i64 (v:Nat),.string ⟨#[]⟩,.slice none 0 0],.int .i64 0]) (by simp [results,Tryz.results74,go_sem,r0,r1,r2,r3]) rfl ?_
          exact PaTo.of (HOK.out _ (by rw [if_neg HU.out])) ((((HC3.out.setCell (p:=⟨w.heap.size,0,none⟩) (fun h=>absurd h (Nat.lt_irrefl _)) _).setCell (p:=⟨w.heap.size,1,none⟩) (fun h=>absurd h (Nat.lt_irrefl _)) _).setCell (p:=⟨w.heap.size,2,none⟩) (fun h=>absurd h (Nat.lt_irrefl _)) _).setCell (p:=⟨w.heap.size,3,none⟩) (fun h=>absurd h (Nat.lt_irrefl _)) _)
end Go.Proofs.YtcehpobjnbgpdaaGreatDoor
