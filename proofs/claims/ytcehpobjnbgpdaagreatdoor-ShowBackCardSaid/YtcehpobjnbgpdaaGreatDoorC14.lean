/- Merged by program. -/
import Derived.Test.YtcehpobjnbgpdaaGreatDoorC09
import Derived.OwnWalk
import Derived.Deep.RegionLaw
import Derived.BigRegion
set_option linter.unusedVariables false
set_option linter.unusedSimpArgs false
namespace Go.Proofs.YtcehpobjnbgpdaaGreatDoor
open Go.RowKit
def TxTo (w:World) (R:Int × List Nat × Nat) (e:Ending) (w':World):Prop :=
 ∃ (A:Option Addr) (c m:Nat),m=R.2.1.length/\e=.returned (.tuple #[.slice A m c,.int .i64 (R.2.2:Nat),.int .i64 R.1])/\GR 5 w w' (lcells R.2.1) m A c
theorem TxTo.err {w w':World} {R:Int × List Nat × Nat} {er:Int} (h:R=(er,[],0)) (hc:Chg NoS w w'):TxTo w R (.returned (.tuple #[.slice none 0 0,.int .i64 0,.int .i64 er])) w':=by
 subst h
 exact⟨none,0,0,rfl,rfl,GR.none hc⟩
section
variable {last:Bool} {deep k:Nat} {out l:List Nat}
theorem txt_92e (h:(escO last l).1≠0):txtO last deep out k (92::l)=((escO last l).1,[],0):=by rw [txtO_cons,if_pos rfl,if_pos h]
theorem txt_92 (h:(escO last l).1=0):txtO last deep out k (92::l)=txtO last deep (out++(escO last l).2.1.toList) (k+1+(escO last l).2.2) (l.drop (escO last l).2.2):=by
 rw [txtO_cons,if_pos rfl,if_neg (fun e=>e h)]
theorem txt_13m (h:l=[]) (h2:last=false):txtO last deep out k (13::l)=(6,[],0):=by
 rw [txtO_cons,if_neg (show ¬13=92 by decide),if_pos rfl,if_pos ⟨h,h2⟩]
theorem txt_13b (h:l≠[]) (h2:l.head?=some 10):txtO last deep out k (13::l)=txtO last deep (out++[10]) (k+2) (l.drop 1):=by
 rw [txtO_cons,if_neg (show ¬13=92 by decide),if_pos rfl,if_neg (fun e=>h e.1),if_pos h2]
theorem txt_13n (h:¬(l=[]/\last=false)) (h2:¬l.head?=some 10):txtO last deep out k (13::l)=txtO last deep (out++[10]) (k+1) l:=by
 rw [txtO_cons,if_neg (show ¬13=92 by decide),if_pos rfl,if_neg h,if_neg h2]
theorem txt_40:txtO last deep out k (40::l)=txtO last (deep+1) (out++[40]) (k+1) l:=by
 rw [txtO_cons,if_neg (show ¬40=92 by decide),if_neg (show ¬40=13 by decide),if_pos rfl]
theorem txt_41e (h:deep=1):txtO last deep out k (41::l)=(0,out,k+1):=by
 rw [txtO_cons,if_neg (show ¬41=92 by decide),if_neg (show ¬41=13 by decide),if_neg (show ¬41=40 by decide),if_pos rfl,if_pos h]
theorem txt_41 (h:deep≠1):txtO last deep out k (41::l)=txtO last (deep-1) (out++[41]) (k+1) l:=by
 rw [txtO_cons,if_neg (show ¬41=92 by decide),if_neg (show ¬41=13 by decide),if_neg (show ¬41=40 by decide),if_pos rfl,if_neg h]
theorem txt_x {x:Nat} (h1:x≠92) (h2:x≠13) (h3:x≠40) (h4:x≠41):txtO last deep out k (x::l)=txtO last deep (out++[x]) (k+1) l:=by
 rw [txtO_cons,if_neg h1,if_neg h2,if_neg h3,if_neg h4]
end
theorem escV_err {p:Nat} {r:Int × Option Nat × Nat} {er:Int} (h:r=(er,none,0)) (he:er≠0):escV p r=.tuple #[.int .u8 0,.int .i64 0,.bool false,.int .i64 er]:=by
 subst h
 unfold escV
 simp only []
 rw [if_neg he]
 rfl
theorem escO_two (last:Bool) (l:List Nat):(escO last l).1=0\/escO last l=((escO last l).1,none,0):=by
 cases l with
 |nil=>exact .inr rfl
 |cons c l =>
  rw [escO_cons]
  repeat' split
  all_goals first
   |exact .inl rfl
   |exact .inr rfl
theorem escO_errs {last:Bool} {l:List Nat} (h:(escO last l).1≠0):escO last l=((escO last l).1,none,0):=(escO_two last l).resolve_left h
def TxIn (last:Bool) (p:Nat) (bs:List Nat) (w wr:World) (k deep m c2:Nat) (out:List Nat) (A2:Option Addr):Prop :=
 m=out.length/\GR 5 w wr (lcells out) m A2 c2/\txtO last 1 [] p (bs.drop p)=txtO last deep out k (bs.drop k)
set_option maxHeartbeats 4000000 in
set_option maxRecDepth 100000 in
theorem rtext_in (bs:List Nat) (A:Option Addr) (c p:Nat) (last:Bool) (w:World) (hS:Src w 1 A bs.length c (lcells bs)) (hl:bs.length<=1000000) (hc:bs.length<=c) (hp:p<=bs.length) (hb:∀ x∈bs,x<256) :
  Calls Tryz.prog 72 #[.slice A bs.length c,.int .i64 (p:Nat),.bool last] w (TxTo w (txtO last 1 [] p (bs.drop p))):=by
 have HS:=kf hS
 have HB:=kf hb
 have HESC:=kf (fun(W:World) (h:Chg NoS w W) (q:Nat) (hq:q<=bs.length)=>resc_any bs A c q last W (Src.below (w0:=w) hS h) hl hc hq hb)
 obtain⟨n,hn⟩:∃ n,n=bs.length:=⟨_,rfl⟩
 have HN:=kf hn
 rw [<- hn] at hl hp hc HESC ⊢
 clear hS hn hb
 go_enter Tryz.func72,Tryz.ntmps72
 go_upto_region 3 with fail
 go_loopw [1,9,10] (fun vp vo vd wr=>∃ (k deep m c2:Nat) (out:List Nat) (A2:Option Addr),k<=n/\1<=deep/\deep<=k+1/\m<=k/\vp=.int .i64 (k:Nat)/\vo=.slice A2 m c2/\vd=.int .i64 (deep:Nat)/\Hid (TxIn last p bs w wr k deep m c2 out A2)) (fun vp _ _ _=>n-(intOf vp).toNat)
 case atStart=>exact⟨p,1,0,0,[],none,hp,by omega,by omega,by omega,rfl,rfl,rfl,kf ⟨rfl,GR.start w,rfl⟩⟩
 case round =>
  obtain⟨k,deep,m,c2,out,A2,hk,hd1,hd2,hm,rfl,rfl,rfl,HI⟩:=hrel
  by_cases h1:k<n
  ·obtain⟨x,hx,hd⟩:=drop_at (bs:=bs) (k:=k) (by rw [<- HN.out];exact h1)
   obtain⟨b,off,rfl,hcell⟩:=lcell HS.out HI.out.2.1.chg (by rw [<- HN.out];omega)
   have c0:=hcell k x hx
   have HCELL:=kf hcell
   have HR:=kf (show txtO last 1 [] p (bs.drop p)=txtO last deep out k (x::bs.drop (k+1)) from by rw [<- hd];exact HI.out.2.2)
   have i1:(k:Int)<n:=by omega
   clear hcell hx hd
   by_cases h92:x=92
   ·subst h92
    have hE:=HESC.out wr HI.out.2.1.chg (k+1) (by omega)
    rw [show((k+1:Nat):Int)=(k:Int)+1 from by omega] at hE
    have HE:=kf hE
    clear hE
    have hle:=escO_le last (bs.drop (k+1))
    rw [List.length_drop,<- HN.out] at hle
    by_cases he:(escO last (bs.drop (k+1))).1=0
    ·have HT:=kf (txt_92 (deep:=deep) (k:=k) (out:=out) he)
     obtain⟨q,hq⟩:∃ q,q=(escO last (bs.drop (k+1))).2.2:=⟨_,rfl⟩
     have HQ:=kf hq
     rw [<- hq] at hle
     cases ho:(escO last (bs.drop (k+1))).2.1 with
     |none =>
      have HV:=kf (show escV (k+1) (escO last (bs.drop (k+1)))=.tuple #[.int .u8 0,.int .i64 ((k+1+q:Nat):Int),.bool false,.int .i64 0] from by unfold escV;rw [ho,he,hq];rfl)
      have HO:=kf ho
      rw [HV.out] at HE
      clear he ho hq
      go_wp2_with (go_at_call 113;refine HE.out.mono ?_;rintro e w3 ⟨rfl,rfl⟩)
      go_roundw
      case rel=>exact⟨k+1+q,deep,m,c2,out,A2,by omega,hd1,by omega,by omega,congrArg (Value.int .i64) (by omega),rfl,rfl,kf ⟨HI.out.1,HI.out.2.1,by rw [HR.out,HT.out,HO.out,<- HQ.out,List.drop_drop];simp⟩⟩
      case measure=>simp [intOf];omega
     |some y =>
      have HV:=kf (show escV (k+1) (escO last (bs.drop (k+1)))=.tuple #[.int .u8 (y:Nat),.int .i64 ((k+1+q:Nat):Int),.bool true,.int .i64 0] from by unfold escV;rw [ho,he,hq];rfl)
      have HO:=kf ho
      rw [HV.out] at HE
      clear he ho hq
      go_wp2_with (first
       |(go_at_call 113;refine HE.out.mono ?_;rintro e w3 ⟨rfl,rfl⟩)
       |(at_builtin;refine app8 (w:=w) (wr:=wr) (out:=out) (y:=y) rfl (.tmp 41) (.tmp 43) rfl rfl rfl HI.out.2.1 (by omega) ((Chg.refl _ _).alloc _) (by simp) ?_;intro A3 c3 w3 hg3;have HG3:=kf hg3;clear hg3))
      go_roundw
      case rel=>exact⟨k+1+q,deep,m+1,c3,out++[y],A3,by omega,hd1,by omega,by omega,congrArg (Value.int .i64) (by omega),rfl,rfl,kf ⟨by rw [List.length_append,<- HI.out.1];rfl,HG3.out,by rw [HR.out,HT.out,HO.out,<- HQ.out,List.drop_drop];rfl⟩⟩
      case measure=>simp [intOf];omega
    ·have HT:=kf (txt_92e (deep:=deep) (k:=k) (out:=out) he)
     have hV:=escV_err (p:=k+1) (escO_errs he) he
     obtain⟨er,her⟩:∃ er,er=(escO last (bs.drop (k+1))).1:=⟨_,rfl⟩
     rw [hV,<- her] at HE
     rw [<- her] at HT he
     have v2:(er != 0)=true:=by simpa using he
     have v3:(er==0)=false:=by simpa using he
     clear he hV her hle
     go_wp2_with (go_at_call 113;refine HE.out.mono ?_;rintro e w3 ⟨rfl,rfl⟩)
     go_ret3
     exact TxTo.err (by rw [HR.out,HT.out]) HI.out.2.1.chg
   by_cases h13:x=13
   ·subst h13
    have d0:((deep:Int)==0)=false:=by simp;omega
    clear h92
    by_cases h1n:k+1=n
    ·have HE:=kf (show bs.drop (k+1)=[] from List.drop_of_length_le (by rw [<- HN.out];omega))
     have j1:(n:Int)<=(k:Int)+1:=by omega
     cases last
     ·have HT:=kf (txt_13m (last:=false) (deep:=deep) (k:=k) (out:=out) HE.out rfl)
      go_wp2_with fail
      go_ret3
      exact TxTo.err (by rw [HR.out,HT.out]) HI.out.2.1.chg
     ·have HT:=kf (txt_13n (last:=true) (deep:=deep) (k:=k) (out:=out) (l:=bs.drop (k+1)) (fun e=>by cases e.2) (by rw [HE.out];simp))
      go_wp2_with (at_builtin;refine app8 (w:=w) (wr:=wr) (out:=out) (y:=10) rfl (.tmp 89) (.tmp 91) rfl rfl rfl HI.out.2.1 (by omega) ((Chg.refl _ _).alloc _) (by simp) ?_;intro A3 c3 w3 hg3;have HG3:=kf hg3;clear hg3)
      go_roundw
      case rel=>exact⟨k+1,deep,m+1,c3,out++[10],A3,by omega,hd1,by omega,by omega,by go_num,rfl,rfl,kf ⟨by rw [List.length_append,<- HI.out.1];rfl,HG3.out,by rw [HR.out,HT.out]⟩⟩
      case measure=>simp [intOf];omega
    ·obtain⟨y,hy,hd5⟩:=drop_at (bs:=bs) (k:=k+1) (by rw [<- HN.out];omega)
     have c5:=HCELL.out (k+1) y hy
     have HD5:=kf hd5
     have i2:(k:Int)+1<n:=by omega
     have i3:k+1<n:=by omega
     have i4:¬((n:Int)<=(k:Int)+1):=by omega
     have hne:bs.drop (k+1)≠[]:=by rw [hd5];simp
     clear hy
     by_cases h10:y=10
     ·subst h10
      have HT:=kf (txt_13b (last:=last) (deep:=deep) (k:=k) (out:=out) hne (by rw [hd5];rfl))
      clear hne hd5 h1n
      go_wp2_with (at_builtin;refine app8 (w:=w) (wr:=wr) (out:=out) (y:=10) rfl (.tmp 89) (.tmp 91) rfl rfl rfl HI.out.2.1 (by omega) ((Chg.refl _ _).alloc _) (by simp) ?_;intro A3 c3 w3 hg3;have HG3:=kf hg3;clear hg3)
      go_roundw
      case rel=>exact⟨k+2,deep,m+1,c3,out++[10],A3,by omega,hd1,by omega,by omega,congrArg (Value.int .i64) (by omega),rfl,rfl,kf ⟨by rw [List.length_append,<- HI.out.1];rfl,HG3.out,by rw [HR.out,HT.out,List.drop_drop]⟩⟩
      case measure=>simp [intOf];omega
     ·have e0:((y:Int)==10)=false:=by simp;omega
      have e1:((y:Int) != 10)=true:=by simp;omega
      have HT:=kf (txt_13n (last:=last) (deep:=deep) (k:=k) (out:=out) (fun e=>hne e.1) (by rw [hd5];simpa using h10))
      clear hne hd5 h1n h10
      go_wp2_with (at_builtin;refine app8 (w:=w) (wr:=wr) (out:=out) (y:=10) rfl (.tmp 89) (.tmp 91) rfl rfl rfl HI.out.2.1 (by omega) ((Chg.refl _ _).alloc _) (by simp) ?_;intro A3 c3 w3 hg3;have HG3:=kf hg3;clear hg3)
      go_roundw
      case rel=>exact⟨k+1,deep,m+1,c3,out++[10],A3,by omega,hd1,by omega,by omega,by go_num,rfl,rfl,kf ⟨by rw [List.length_append,<- HI.out.1];rfl,HG3.out,by rw [HR.out,HT.out]⟩⟩
      case measure=>simp [intOf];omega
   by_cases h40:x=40
   ·subst h40
    have HT:=kf (txt_40 (last:=last) (deep:=deep) (k:=k) (out:=out) (l:=bs.drop (k+1)))
    have d0:((deep:Int)+1==0)=false:=by simp;omega
    clear h92 h13
    go_wp2_with (at_builtin;refine app8 (w:=w) (wr:=wr) (out:=out) (y:=40) rfl (.tmp 89) (.tmp 91) rfl rfl rfl HI.out.2.1 (by omega) ((Chg.refl _ _).alloc _) (by simp) ?_;intro A3 c3 w3 hg3;have HG3:=kf hg3;clear hg3)
    go_roundw
    case rel=>exact⟨k+1,deep+1,m+1,c3,out++[40],A3,by omega,by omega,by omega,by omega,by go_num,rfl,by go_num,kf ⟨by rw [List.length_append,<- HI.out.1];rfl,HG3.out,by rw [HR.out,HT.out]⟩⟩
    case measure=>simp [intOf];omega
   by_cases h41:x=41
   ·subst h41
    clear h92 h13 h40
    by_cases hd:deep=1
    ·subst hd
     have HT:=kf (txt_41e (last:=last) (deep:=1) (k:=k) (out:=out) (l:=bs.drop (k+1)) rfl)
     go_wp2_with fail
     go_ret3
     refine⟨A2,c2,m,by rw [HR.out,HT.out];exact HI.out.1,by rw [HR.out,HT.out];rfl,by rw [HR.out,HT.out];exact HI.out.2.1⟩
    ·have HT:=kf (txt_41 (last:=last) (k:=k) (out:=out) (l:=bs.drop (k+1)) hd)
     have d0:((deep:Int)-1==0)=false:=by simp;omega
     have HDD:=kf hd
     clear hd
     go_wp2_with (at_builtin;refine app8 (w:=w) (wr:=wr) (out:=out) (y:=41) rfl (.tmp 89) (.tmp 91) rfl rfl rfl HI.out.2.1 (by omega) ((Chg.refl _ _).alloc _) (by simp) ?_;intro A3 c3 w3 hg3;have HG3:=kf hg3;clear hg3)
     go_roundw
     case rel=>exact⟨k+1,deep-1,m+1,c3,out++[41],A3,by omega,by have:=HDD.out;omega,by omega,by omega,by go_num,rfl,congrArg (Value.int .i64) (by have:=HDD.out;omega),kf ⟨by rw [List.length_append,<- HI.out.1];rfl,HG3.out,by rw [HR.out,HT.out]⟩⟩
     case measure=>simp [intOf];omega
   have e1:((x:Int)==92)=false:=by simp;omega
   have e2:((x:Int)==13)=false:=by simp;omega
   have e3:((x:Int)==40)=false:=by simp;omega
   have e4:((x:Int)==41)=false:=by simp;omega
   have HT:=kf (txt_x (last:=last) (deep:=deep) (k:=k) (out:=out) (l:=bs.drop (k+1)) h92 h13 h40 h41)
   have d0:((deep:Int)==0)=false:=by simp;omega
   clear h92 h13 h40 h41
   go_wp2_with (at_builtin;refine app8 (w:=w) (wr:=wr) (out:=out) (y:=x) rfl (.tmp 89) (.tmp 91) rfl rfl rfl HI.out.2.1 (by omega) ((Chg.refl _ _).alloc _) (by simp) ?_;intro A3 c3 w3 hg3;have HG3:=kf hg3;clear hg3)
   go_roundw
   case rel=>exact⟨k+1,deep,m+1,c3,out++[x],A3,by omega,hd1,by omega,by omega,by go_num,rfl,rfl,kf ⟨by rw [List.length_append,<- HI.out.1];rfl,HG3.out,by rw [HR.out,HT.out]⟩⟩
   case measure=>simp [intOf];omega
  ·obtain rfl:k=n:=by omega
   have HC:=kf (fun W=>rcut_any last W)
   have HT:=kf (show txtO last 1 [] p (bs.drop p)=(cutE last,[],0) from by rw [HI.out.2.2,List.drop_of_length_le (by rw [<- HN.out];exact Nat.le_refl _),txtO_nil])
   go_wp2_with (go_at_call 112;refine(HC.out _).mono ?_;rintro e w' ⟨rfl,rfl⟩)
   go_ret3
   exact TxTo.err HT.out HI.out.2.1.chg
theorem pairs_odd:∀ ds:List Nat,ds.length%2=1->pairs (ds++[0])=pairs ds
 |[],h=>by simp at h
 |[a],_=>rfl
 |a::b::l,h=>by
  have:=pairs_odd l (by simp only [List.length_cons] at h;omega)
  rw [List.cons_append,List.cons_append,pairs,pairs,this]
theorem hexI_no {c:Nat} (h:hexD c=none):hexI c=-1:=by unfold hexI;rw [h]
theorem hexI_some {c d:Nat} (h:hexD c=some d):hexI c=(d:Nat):=by unfold hexI;rw [h]
def HxIn (last:Bool) (p:Nat) (bs:List Nat) (w wr:World) (k m c2:Nat) (ds:List Nat) (A2:Option Addr):Prop :=
 m=ds.length/\GR 3 w wr (dcells ds) m A2 c2/\(∀ d∈ds,d<16)/\hexO last [] p (bs.drop p)=hexO last ds k (bs.drop k)
set_option maxHeartbeats 4000000 in
set_option maxRecDepth 100000 in
theorem rhexes_in (bs:List Nat) (A:Option Addr) (c p:Nat) (last:Bool) (w:World) (hS:Src w 1 A bs.length c (lcells bs)) (hl:bs.length<=1000000) (hc:bs.length<=c) (hp:p<=bs.length) (hb:∀ x∈bs,x<256) :
  Calls Tryz.prog 71 #[.slice A bs.length c,.int .i64 (p:Nat),.bool last] w (TxTo w (hexO last [] p (bs.drop p))):=by
 have HS:=kf hS
 have HB:=kf hb
 obtain⟨n,hn⟩:∃ n,n=bs.length:=⟨_,rfl⟩
 have HN:=kf hn
 rw [<- hn] at hl hp hc ⊢
 clear hS hn hb
 go_enter Tryz.func71,Tryz.ntmps71
 go_upto_region 2 with fail
 go_loopw [1,9] (fun vp vo wr=>∃ (k m c2:Nat) (ds:List Nat) (A2:Option Addr),k<=n/\m<=k/\vp=.int .i64 (k:Nat)/\vo=.slice A2 m c2/\Hid (HxIn last p bs w wr k m c2 ds A2)) (fun vp _ _=>n-(intOf vp).toNat)
 case atStart=>exact⟨p,0,0,[],none,hp,by omega,rfl,rfl,kf ⟨rfl,GR.start w,(fun d h=>by cases h),rfl⟩⟩
 case round =>
  obtain⟨k,m,c2,ds,A2,hk,hm,rfl,rfl,HI⟩:=hrel
  by_cases h1:k<n
  ·obtain⟨x,hx,hd⟩:=drop_at (bs:=bs) (k:=k) (by rw [<- HN.out];exact h1)
   obtain⟨b,off,rfl,hcell⟩:=lcell HS.out HI.out.2.1.chg (by rw [<- HN.out];omega)
   have c0:=hcell k x hx
   have hx256:x<256:=HB.out x (List.mem_of_getElem? hx)
   have HR:=kf (show hexO last [] p (bs.drop p)=hexO last ds k (x::bs.drop (k+1)) from by rw [<- hd];exact HI.out.2.2.2)
   have i1:(k:Int)<n:=by omega
   have HSP:=kf (fun W=>rspace_any x W)
   have HHX:=kf (fun W=>rhex_any x hx256 W)
   clear hcell hx hd
   by_cases h62:x=62
   ·subst h62
    have HRX:=kf (show hexO last ds k (62::bs.drop (k+1))=(0,pairs ds,k+1) from by rw [hexO,if_pos rfl])
    by_cases hodd:m%2=1
    ·have o1:((m:Int)%2==1)=true:=by simp;omega
     have o2':((m:Int)%2 != 1)=false:=by simp;omega
     have HPD:=kf (show pairs ds=pairs (ds++[0]) from(pairs_odd ds (by rw [<- HI.out.1];exact hodd)).symm)
     go_upto_region 10 with(at_builtin;refine app64 (w:=w) (wr:=wr) (out:=ds) (y:=0) rfl (.tmp 29) (.tmp 30) rfl rfl rfl HI.out.2.1 (by omega) ((Chg.refl _ _).alloc _) (by simp) ?_;intro A3 c3 w5 hg3;have HGD:=kf hg3;clear hg3)
     obtain⟨D,hD⟩:∃ D,D=ds++[0]:=⟨_,rfl⟩
     obtain⟨M,hM⟩:∃ M,M=m+1:=⟨_,rfl⟩
     have HM:=kf (show M=D.length from by rw [hD,hM,List.length_append,<- HI.out.1];rfl)
     have HDL:=kf (show ∀ d∈D,d<16 from by rw [hD];intro d h;rcases List.mem_append.1 h with h|h;exact HI.out.2.2.1 d h;rw [List.mem_singleton] at h;omega)
     rw [<- hD,<- hM] at HGD
     rw [<- hD] at HPD
     try rw [<- hM]
     have e5:(m:Int)+1=(M:Nat):=by omega
     try rw [e5]
     have HCW:=kf HGD.out.chg
     have hM2:M%2=0:=by omega
     have hM9:M<=1000001:=by omega
     clear hD hM o1 o2' hodd c0 e5
     go_loopw [11,12] (fun vo vj wr2=>∃ (j m2 c4:Nat) (o2:List Nat) (A4:Option Addr),j<=M/\2*m2=j/\vo=.slice A4 m2 c4/\vj=.int .i64 (j:Nat)/\Hid (m2=o2.length/\GR 5 w5 wr2 (lcells o2) m2 A4 c4/\pairs D=o2++pairs (D.drop j))) (fun _ vj _=>M-(intOf vj).toNat)
     case atStart=>exact⟨0,0,0,[],none,by omega,rfl,rfl,rfl,kf ⟨rfl,GR.start w5,rfl⟩⟩
     case round =>
      obtain⟨j,m2,c4,o2,A4,hj,hm2,rfl,rfl,HJ⟩:=hrel
      by_cases h7:j<M
      ·obtain⟨x0,hx0,hd0⟩:=drop_at (bs:=D) (k:=j) (by rw [<- HM.out];exact h7)
       obtain⟨x1,hx1,hd1⟩:=drop_at (bs:=D) (k:=j+1) (by rw [<- HM.out];omega)
       obtain⟨bd,offd,rfl,hdc⟩:=dcell (src_own HGD.out.own) HJ.out.2.1.chg (by rw [<- HM.out];omega)
       have q0:=hdc j x0 hx0
       have q1:=hdc (j+1) x1 hx1
       have q2:=q1
       rw [show offd+(j+1)=offd+j+1 from by omega] at q2
       have l0:x0<16:=HDL.out x0 (List.mem_of_getElem? hx0)
       have l1:x1<16:=HDL.out x1 (List.mem_of_getElem? hx1)
       have i5:(j:Int)<M:=by omega
       have i6:(j:Int)+1<M:=by omega
       have i7:j+1<M:=by omega
       have HP:=kf (show pairs D=o2++[16*x0+x1]++pairs (D.drop (j+2)) from by rw [HJ.out.2.2,hd0,hd1,pairs,List.append_assoc];rfl)
       have hw:IntKind.u8.wrap (16*(x0:Int)+(x1:Int))=((16*x0+x1:Nat):Int):=by rw [IntKind.wrap_u8];omega
       have s1:IntKind.i64.wrap (16*(x0:Int))=16*(x0:Int):=by rw [IntKind.wrap_i64];omega
       have s2:IntKind.i64.wrap ((j:Int)+1)=(j:Int)+1:=by rw [IntKind.wrap_i64];omega
       have s3:IntKind.i64.wrap (16*(x0:Int)+(x1:Int))=16*(x0:Int)+(x1:Int):=by rw [IntKind.wrap_i64];omega
       have i8:(0:Int)<=(j:Int)+1:=by omega
       have i9:((j:Int)+1).toNat=j+1:=by omega
       clear hx0 hx1 hd0 hd1 hdc
       go_upto_region 12 with fail
       first
        |(go_loud (go_region_law (refine step8 (w:=w5) (wr:=wr) (out:=o2) (y:=16*x0+x1) (B:=wr.heap.size) (by rfl) (.tmp 38) (.tmp 51) (by rfl) (by rfl) (by rfl) HJ.out.2.1 (by omega) ((Chg.refl _ _).alloc _).drew (by simp) ?_;intro g6 c6 w6 hg6)))
        |fail "region"
       all_goals
        have HG6:=kf hg6
        clear hg6
        go_wp2_with fail
        go_roundw
        case rel=>exact⟨j+2,m2+1,c6,o2++[16*x0+x1],some ⟨g6,0,none⟩,by omega,by omega,rfl,by go_num,kf ⟨by rw [List.length_append,<- HJ.out.1];rfl,HG6.out,HP.out⟩⟩
        case measure=>simp [intOf];omega
      ·have hjM:j=M:=by omega
       have HP:=kf (show pairs D=o2 from by rw [HJ.out.2.2,hjM,List.drop_of_length_le (by rw [<- HM.out];exact Nat.le_refl _)];simp [pairs])
       go_wp2_with fail
       go_ret3
       refine⟨A4,c4,m2,by rw [HR.out,HRX.out,HPD.out,HP.out];exact HJ.out.1,by rw [HR.out,HRX.out];rfl,?_⟩
       rw [HR.out,HRX.out,HPD.out,HP.out]
       exact HJ.out.2.1.back HCW.out
    ·have o1:((m:Int)%2==1)=false:=by simp;omega
     have o2':((m:Int)%2 != 1)=true:=by simp;omega
     go_upto_region 10 with fail
     obtain⟨w5,hw5⟩:∃ w5,w5=wr:=⟨_,rfl⟩
     obtain⟨D,hD⟩:∃ D,D=ds:=⟨_,rfl⟩
     obtain⟨M,hM⟩:∃ M,M=m:=⟨_,rfl⟩
     have HPD:=kf (show pairs ds=pairs D from by rw [hD])
     have HM:=kf (show M=D.length from by rw [hD,hM];exact HI.out.1)
     have HDL:=kf (show ∀ d∈D,d<16 from by rw [hD];exact HI.out.2.2.1)
     have HGD:=kf (show GR 3 w w5 (dcells D) M A2 c2 from by rw [hD,hM,hw5];exact HI.out.2.1)
     rw [<- hM,<- hw5]
     have HCW:=kf HGD.out.chg
     have hM2:M%2=0:=by omega
     have hM9:M<=1000001:=by omega
     clear o1 o2' hodd c0 hw5 hD hM
     go_loopw [11,12] (fun vo vj wr2=>∃ (j m2 c4:Nat) (o2:List Nat) (A4:Option Addr),j<=M/\2*m2=j/\vo=.slice A4 m2 c4/\vj=.int .i64 (j:Nat)/\Hid (m2=o2.length/\GR 5 w5 wr2 (lcells o2) m2 A4 c4/\pairs D=o2++pairs (D.drop j))) (fun _ vj _=>M-(intOf vj).toNat)
     case atStart=>exact⟨0,0,0,[],none,by omega,rfl,rfl,rfl,kf ⟨rfl,GR.start w5,rfl⟩⟩
     case round =>
      obtain⟨j,m2,c4,o2,A4,hj,hm2,rfl,rfl,HJ⟩:=hrel
      by_cases h7:j<M
      ·obtain⟨x0,hx0,hd0⟩:=drop_at (bs:=D) (k:=j) (by rw [<- HM.out];exact h7)
       obtain⟨x1,hx1,hd1⟩:=drop_at (bs:=D) (k:=j+1) (by rw [<- HM.out];omega)
       obtain⟨bd,offd,rfl,hdc⟩:=dcell (src_own HGD.out.own) HJ.out.2.1.chg (by rw [<- HM.out];omega)
       have q0:=hdc j x0 hx0
       have q1:=hdc (j+1) x1 hx1
       have q2:=q1
       rw [show offd+(j+1)=offd+j+1 from by omega] at q2
       have l0:x0<16:=HDL.out x0 (List.mem_of_getElem? hx0)
       have l1:x1<16:=HDL.out x1 (List.mem_of_getElem? hx1)
       have i5:(j:Int)<M:=by omega
       have i6:(j:Int)+1<M:=by omega
       have i7:j+1<M:=by omega
       have HP:=kf (show pairs D=o2++[16*x0+x1]++pairs (D.drop (j+2)) from by rw [HJ.out.2.2,hd0,hd1,pairs,List.append_assoc];rfl)
       have hw:IntKind.u8.wrap (16*(x0:Int)+(x1:Int))=((16*x0+x1:Nat):Int):=by rw [IntKind.wrap_u8];omega
       have s1:IntKind.i64.wrap (16*(x0:Int))=16*(x0:Int):=by rw [IntKind.wrap_i64];omega
       have s2:IntKind.i64.wrap ((j:Int)+1)=(j:Int)+1:=by rw [IntKind.wrap_i64];omega
       have s3:IntKind.i64.wrap (16*(x0:Int)+(x1:Int))=16*(x0:Int)+(x1:Int):=by rw [IntKind.wrap_i64];omega
       have i8:(0:Int)<=(j:Int)+1:=by omega
       have i9:((j:Int)+1).toNat=j+1:=by omega
       clear hx0 hx1 hd0 hd1 hdc
       go_upto_region 12 with fail
       first
        |(go_loud (go_region_law (refine step8 (w:=w5) (wr:=wr) (out:=o2) (y:=16*x0+x1) (B:=wr.heap.size) (by rfl) (.tmp 38) (.tmp 51) (by rfl) (by rfl) (by rfl) HJ.out.2.1 (by omega) ((Chg.refl _ _).alloc _).drew (by simp) ?_;intro g6 c6 w6 hg6)))
        |fail "region"
       all_goals
        have HG6:=kf hg6
        clear hg6
        go_wp2_with fail
        go_roundw
        case rel=>exact⟨j+2,m2+1,c6,o2++[16*x0+x1],some ⟨g6,0,none⟩,by omega,by omega,rfl,by go_num,kf ⟨by rw [List.length_append,<- HJ.out.1];rfl,HG6.out,HP.out⟩⟩
        case measure=>simp [intOf];omega
      ·have hjM:j=M:=by omega
       have HP:=kf (show pairs D=o2 from by rw [HJ.out.2.2,hjM,List.drop_of_length_le (by rw [<- HM.out];exact Nat.le_refl _)];simp [pairs])
       go_wp2_with fail
       go_ret3
       refine⟨A4,c4,m2,by rw [HR.out,HRX.out,HPD.out,HP.out];exact HJ.out.1,by rw [HR.out,HRX.out];rfl,?_⟩
       rw [HR.out,HRX.out,HPD.out,HP.out]
       exact HJ.out.2.1.back HCW.out
   have e1:((x:Int)==62)=false:=by simp;omega
   have e2:((x:Int) != 62)=true:=by simp;omega
   by_cases hsp:isSp x=true
   ·have HRX:=kf (show hexO last ds k (x::bs.drop (k+1))=hexO last ds (k+1) (bs.drop (k+1)) from by rw [hexO,if_neg h62,if_pos hsp])
    rw [hsp] at HSP
    clear hsp h62
    go_wp2_with (go_at_call 110;refine(HSP.out _).mono ?_;rintro e w3 ⟨rfl,rfl⟩)
    go_roundw
    case rel=>exact⟨k+1,m,c2,ds,A2,by omega,by omega,by go_num,rfl,kf ⟨HI.out.1,HI.out.2.1,HI.out.2.2.1,by rw [HR.out,HRX.out]⟩⟩
    case measure=>simp [intOf];omega
   ·rw [show isSp x=false from by simpa using hsp] at HSP
    cases hh:hexD x with
    |none =>
     have HRX:=kf (show hexO last ds k (x::bs.drop (k+1))=(11,[],0) from by rw [hexO,if_neg h62,if_neg hsp,hh])
     rw [hexI_no hh] at HHX
     clear hsp h62 hh
     go_wp2_with (first
      |(go_at_call 110;refine(HSP.out _).mono ?_;rintro e w3 ⟨rfl,rfl⟩)
      |(go_at_call 111;refine(HHX.out _).mono ?_;rintro e w3 ⟨rfl,rfl⟩))
     go_ret3
     exact TxTo.err (by rw [HR.out,HRX.out]) HI.out.2.1.chg
    |some d =>
     have HRX:=kf (show hexO last ds k (x::bs.drop (k+1))=hexO last (ds++[d]) (k+1) (bs.drop (k+1)) from by rw [hexO,if_neg h62,if_neg hsp,hh])
     have hd16:=hexD_lt hh
     rw [hexI_some hh] at HHX
     clear hsp h62 hh
     go_wp2_with (first
      |(go_at_call 110;refine(HSP.out _).mono ?_;rintro e w3 ⟨rfl,rfl⟩)
      |(go_at_call 111;refine(HHX.out _).mono ?_;rintro e w3 ⟨rfl,rfl⟩)
      |(at_builtin;refine app64 (w:=w) (wr:=wr) (out:=ds) (y:=d) rfl (.tmp 60) (.tmp 63) rfl rfl rfl HI.out.2.1 (by omega) ((Chg.refl _ _).alloc _) (by simp) ?_;intro A3 c3 w5 hg3;have HG3:=kf hg3;clear hg3))
     go_roundw
     case rel=>exact⟨k+1,m+1,c3,ds++[d],A3,by omega,by omega,by go_num,rfl,kf ⟨by rw [List.length_append,<- HI.out.1];rfl,HG3.out,by intro y h;rcases List.mem_append.1 h with h|h;exact HI.out.2.2.1 y h;rw [List.mem_singleton] at h;omega,by rw [HR.out,HRX.out]⟩⟩
     case measure=>simp [intOf];omega
  ·obtain rfl:k=n:=by omega
   have HC:=kf (fun W=>rcut_any last W)
   have HT:=kf (show hexO last [] p (bs.drop p)=(cutE last,[],0) from by rw [HI.out.2.2.2,List.drop_of_length_le (by rw [<- HN.out];exact Nat.le_refl _),hexO])
   go_wp2_with (go_at_call 112;refine(HC.out _).mono ?_;rintro e w' ⟨rfl,rfl⟩)
   go_ret3
   exact TxTo.err HT.out HI.out.2.1.chg
end Go.Proofs.YtcehpobjnbgpdaaGreatDoor
