/- Merged by program. -/
import Derived.Test.YthejpkflcgjdoaaGreatDoorE02
import Derived.Test.YthejpkflcgjdoaaGreatDoorE03
import Derived.ScopeJumps
import Derived.OwnWalk
set_option linter.unusedVariables false
set_option linter.unusedSimpArgs false
namespace Go.Proofs.YthejpkflcgjdoaaGreatDoor
open Go.RowKit
theorem octs_none {k m:Nat} {l:List Nat} (h:l=[]\/∃ x r,l=x::r/\¬(48<=x/\x<=55)):octs (k+1) m l=(m,0):=by
 rcases h with rfl|⟨x,r,rfl,h⟩
 ·rfl
 ·rw [octs,if_neg h]
theorem octs_some {k m x:Nat} {r:List Nat} (h:48<=x/\x<=55):octs (k+1) m (x::r)=((octs k (8*m+(x-48)) r).1,(octs k (8*m+(x-48)) r).2+1):=by rw [octs,if_pos h]
theorem octs_mod:∀ (k:Nat) (l:List Nat) (m m':Nat),m%256=m'%256->(octs k m l).1%256=(octs k m' l).1%256/\(octs k m l).2=(octs k m' l).2:=by
 intro k
 induction k with
 |zero=>intro l m m' h;exact⟨h,rfl⟩
 |succ k ih =>
  intro l m m' h
  cases l with
  |nil=>exact⟨h,rfl⟩
  |cons x r =>
   by_cases hx:48<=x/\x<=55
   ·rw [octs_some hx,octs_some hx]
    have:=ih r (8*m+(x-48)) (8*m'+(x-48)) (by omega)
    exact⟨this.1,by simp only [];rw [this.2]⟩
   ·rw [octs_none (.inr ⟨x,r,rfl,hx⟩),octs_none (.inr ⟨x,r,rfl,hx⟩)]
    exact⟨h,rfl⟩
def OcIn (V w wr:World) (A:Option Addr) (bs:List Nat) (c:Nat) (last:Bool) (R p x:Nat) (out:List Nat) (j k z:Nat):Prop :=
 RD V w wr A bs.length c last R k out/\(octs 2 x (bs.drop p)).1%256=(octs (2-j) z (bs.drop k)).1%256/\p+(octs 2 x (bs.drop p)).2=k+(octs (2-j) z (bs.drop k)).2
set_option maxHeartbeats 2000000 in
set_option maxRecDepth 100000 in
theorem poctal_any {V w W:World} {A:Option Addr} {bs:List Nat} {c R p:Nat} {last:Bool} {out:List Nat} (h:RD V w W A bs.length c last R p out) (hS:Src w 1 A bs.length c (lcells bs)) (hl:bs.length<=1000000) (hc:bs.length<=c) (hp:p<=bs.length) (hb:∀ d∈bs,d<256) (x:Nat) (hx:x<8) :
  Calls Tryz.prog 206 #[.pointer (some ⟨R,0,none⟩),.int .u8 (x:Nat)] W fun e W'=>e=.returned (.int .u8 ((octs 2 x (bs.drop p)).1%256:Nat))/\RD V w W' A bs.length c last R (p+(octs 2 x (bs.drop p)).2) out:=by
 have HR:=h.new
 have HO:=kf (show OcIn V w W A bs c last R p x out 0 p x from⟨h,rfl,rfl⟩)
 have HCELL:=kf (fun(X:World) (hX:Chg NoS w X) (hn:0<bs.length)=>lcell hS hX hn)
 have HCELL0:=kf (fun(hn:0<bs.length)=>lcell hS (Chg.refl NoS w) hn)
 have HB:=kf hb
 obtain⟨n,hn⟩:∃ n,bs.length=n:=⟨_,rfl⟩
 have HN:=kf hn
 rw [hn] at hl hc hp
 clear h hS hn hb
 go_enter Tryz.func206,Tryz.ntmps206
 go_upto_region 2 with fail
 go_loopw [1,5] (fun vz vj wr=>∃ j k z:Nat,j<=2/\k<=n/\z<256/\vz=.int .u8 (z:Nat)/\vj=.int .i64 (j:Nat)/\Hid (OcIn V w wr A bs c last R p x out j k z)) (fun _ vj _=>2-(intOf vj).toNat)
 case atStart=>exact⟨0,p,x,by omega,hp,by omega,rfl,rfl,HO⟩
 case round =>
  obtain⟨j,k,z,hj,hk,hz,rfl,rfl,HI⟩:=hrel
  obtain⟨c2,c3,c4,f3⟩:=HI.out.1.cells
  rw [HN.out] at c2
  by_cases hj2:j=2
  ·subst hj2
   have HE:=kf HI.out.2
   go_wp2_with fail
   go_ret
   refine⟨?_,?_⟩
   ·rw [HE.out.1,show octs (2-2) z (bs.drop k)=(z,0) from rfl];simp only [];rw [Nat.mod_eq_of_lt hz];rfl
   ·rw [HE.out.2];exact HI.out.1
  obtain⟨i,hi⟩:∃ i,2-j=i+1:=⟨1-j,by omega⟩
  have j1:(j:Int)<2:=by omega
  by_cases hkn:k=n
  ·have HE:=kf (show octs (2-j) z (bs.drop k)=(z,0) from by rw [hi,octs_none (.inl (List.drop_of_length_le (by rw [HN.out];omega)))])
   have HE2:=kf HI.out.2
   subst hkn
   clear hi hj2
   go_upto_region 3 with fail
   go_quiet (fail)
   go_wp2_with fail
   go_ret
   refine⟨?_,?_⟩
   ·rw [HE2.out.1,HE.out];simp only [];rw [Nat.mod_eq_of_lt hz];rfl
   ·rw [HE2.out.2,HE.out];exact HI.out.1.drewN _
  obtain⟨y,hy,hd⟩:=drop_at (bs:=bs) (k:=k) (by rw [HN.out];omega)
  obtain⟨b,off,rfl,hcell⟩:=HCELL.out wr HI.out.1.chg (by rw [HN.out];omega)
  have c0:=hcell k y hy
  have hbR:b≠R:=by
   obtain⟨b',off',e,hc'⟩:=HCELL0.out (by rw [HN.out];omega)
   cases e
   have:=cell_lt (hc' k y hy)
   simp only at this
   omega
  have hy256:=HB.out y (List.mem_of_getElem? hy)
  have k1:(k:Int)<n:=by omega
  have k2:((k:Int)==n)=false:=by simp;omega
  have k3:(k==n)=false:=by simp;omega
  have HE2:=kf HI.out.2
  by_cases hoct:48<=y/\y<=55
  ·have HD:=kf (show octs (2-j) z (bs.drop k)=((octs i (8*z+(y-48)) (bs.drop (k+1))).1,(octs i (8*z+(y-48)) (bs.drop (k+1))).2+1) from by rw [hi,hd,octs_some hoct])
   have HI1:=kf (show 2-(j+1)=i from by omega)
   obtain⟨o1,o2⟩:=hoct
   obtain⟨t,ht⟩:∃ t,t=8*z%256:=⟨_,rfl⟩
   obtain⟨u,hu⟩:∃ u,u=y-48:=⟨_,rfl⟩
   obtain⟨v,hv⟩:∃ v,v=(t+u)%256:=⟨_,rfl⟩
   have w1:IntKind.u8.wrap (8*(z:Int))=(t:Int):=by rw [IntKind.wrap_u8];omega
   have w2:IntKind.u8.wrap ((y:Int)-48)=(u:Int):=by rw [IntKind.wrap_u8];omega
   have w3:IntKind.u8.wrap ((t:Int)+(u:Int))=(v:Int):=by rw [IntKind.wrap_u8];omega
   have HV:=kf (show(8*z+(y-48))%256=v%256 from by omega)
   have hv2:v<256:=by omega
   have m1:decide ((y:Int)<48)=false:=by simp;omega
   have m2:decide ((55:Int)<y)=false:=by simp;omega
   have m3:decide (y<48)=false:=by simp;omega
   have m4:decide (55<y)=false:=by simp;omega
   clear ht hu hv hi hj2 hkn hy hd hcell hy256 o1 o2
   go_upto_region 3 with fail
   go_quiet (fail)
   go_upto_region 4 with fail
   go_quiet (fail)
   go_wp2_with fail
   go_roundw
   case rel =>
    refine⟨j+1,k+1,v,by omega,by omega,hv2,rfl,by go_num,kf ⟨(HI.out.1.drewN _).at_ _,?_,?_⟩⟩
    ·rw [HE2.out.1,HD.out,HI1.out];exact(octs_mod i _ _ _ HV.out).1
    ·rw [HE2.out.2,HD.out,HI1.out,<- (octs_mod i (bs.drop (k+1)) _ _ HV.out).2];simp only [];omega
   case measure=>simp [intOf];omega
  ·have HE:=kf (show octs (2-j) z (bs.drop k)=(z,0) from by rw [hi,octs_none (.inr ⟨y,_,hd,hoct⟩)])
   clear hi hd hj2 hkn hcell hy
   by_cases hlo:y<48
   ·clear hoct
    have m1:decide ((y:Int)<48)=true:=by simp;omega
    have m3:decide (y<48)=true:=by simp;omega
    go_upto_region 3 with fail
    go_quiet (fail)
    go_wp2_with fail
    go_ret
    refine⟨?_,?_⟩
    ·rw [HE2.out.1,HE.out];simp only [];rw [Nat.mod_eq_of_lt hz];rfl
    ·rw [HE2.out.2,HE.out];exact HI.out.1.drewN _
   ·have hhi:55<y:=by omega
    clear hoct
    have m1:decide ((y:Int)<48)=false:=by simp;omega
    have m3:decide (y<48)=false:=by simp;omega
    have m2:decide ((55:Int)<y)=true:=by simp;omega
    have m4:decide (55<y)=true:=by simp;omega
    go_upto_region 3 with fail
    go_quiet (fail)
    go_wp2_with fail
    go_ret
    refine⟨?_,?_⟩
    ·rw [HE2.out.1,HE.out];simp only [];rw [Nat.mod_eq_of_lt hz];rfl
    ·rw [HE2.out.2,HE.out];exact HI.out.1.drewN _
open Go
def hops (K:Nat->Act->World->Prop) (Q:Exit->Act->World->Prop):Exit->Act->World->Prop
 |.goto l,a,w=>K l a w
 |e,a,w=>Q e a w
section
variable {K:Nat->Act->World->Prop} {Q:Exit->Act->World->Prop} {a:Act} {w:World}
end
theorem hops_mono {K K':Nat->Act->World->Prop} {Q:Exit->Act->World->Prop} (h:∀ l a w,K l a w->K' l a w):∀ e a w,hops K Q e a w->hops K' Q e a w:=by
 intro e a w hq
 cases e with
 |goto l'=>exact h _ _ _ hq
 |normal=>exact hq
 |exit id=>exact hq
 |ret=>exact hq
 |panic ch=>exact hq
 |outgrown=>exact hq
theorem wp_skip_seqs {P:Program} {x:Code} {Q:Exit->Act->World->Prop} {a:Act} {w:World} (h:x.wp P Q a w):(Code.seq .skip x).wp P Q a w :=
 wp_seq (wp_skip h)
theorem wp_scope_all {P:Program} {a:Act} {w:World} {Q:Exit->Act->World->Prop} {c:Code} (X:Nat->Code) (J:Nat->Nat->Act->World->Prop)
  (hf:∀ n l a w,J l n a w->findLabel c l=some (.seq .skip (X l)))
  (pass:∀ n l a w,J l n a w->(X l).wp P (hops (fun l' a' w'=>∃ m,m<n/\J l' m a' w') Q) a w)
  (first:(∀ n l a w,J l n a w->(X l).wp P (hops (fun l' a' w'=>∃ m,J l' m a' w') Q) a w)->c.wp P (hops (fun l' a' w'=>∃ m,J l' m a' w') Q) a w) :
  (Code.scope c).wp P Q a w:=by
 have first:=first (fun n l a w h=>Code.wp_mono (hops_mono (fun _ _ _ ⟨m,_,hm⟩=>⟨m,hm⟩)) (pass n l a w h))
 intro b k cs
 have two:∀ (r:Code) a w (K:Nat->Act->World->Prop),r.wp P (hops K Q) a w ->
   (∀ l a1 w1,K l a1 w1->∃ x,findLabel c l=some x/\∃ e a' w',Q e a' w'/\Arrives P (lone (b.at a1 (.code x::.inScope c::k)) cs w1) b k cs e a' w') ->
   ∃ e a' w',Q e a' w'/\Arrives P (lone (b.at a (.code r::.inScope c::k)) cs w) b k cs e a' w':=by
  intro r a w K hr hK
  obtain⟨e,a₁,w₁,hq,harr⟩:=hr b (.inScope c::k) cs
  cases e with
  |normal=>exact⟨.normal,a₁,w₁,hq,Steps.trans harr (.one step_inScope)⟩
  |exit id=>exact⟨.exit id,a₁,w₁,hq,fun k' hk=>harr k' (by simp [exitTo,hk])⟩
  |goto l' =>
   obtain⟨x,hx,e₂,a₂,w₂,hq₂,harr₂⟩:=hK l' a₁ w₁ hq
   have hg:gotoIn l' (.inScope c::k)=some (.code x::.inScope c::k):=by simp [gotoIn,hx]
   exact⟨e₂,a₂,w₂,hq₂,.of_steps (harr _ hg) harr₂⟩
  |ret=>exact⟨_,a₁,w₁,hq,harr⟩
  |panic ch=>exact⟨_,a₁,w₁,hq,harr⟩
  |outgrown=>exact⟨_,a₁,w₁,hq,harr⟩
 have key:∀ n l a w,J l n a w->∃ x,findLabel c l=some x/\∃ e a' w',Q e a' w'/\Arrives P (lone (b.at a (.code x::.inScope c::k)) cs w) b k cs e a' w':=by
  intro n
  induction n using Nat.strongRecOn with
  |_ n ih =>
   intro l a w hJ
   exact⟨_,hf n l a w hJ,two _ a w _ (wp_skip_seqs (pass n l a w hJ)) (fun l' a1 w1 ⟨m,hm,hJ'⟩=>ih m hm l' a1 w1 hJ')⟩
 obtain⟨e,a₁,w₁,hq,harr⟩:=two c a w _ first (fun l' a1 w1 ⟨m,hJ'⟩=>key m l' a1 w1 hJ')
 cases e with
 |normal=>exact⟨.normal,a₁,w₁,hq,.head step_scope harr⟩
 |exit id=>exact⟨.exit id,a₁,w₁,hq,fun k' hk=>.head step_scope (harr k' hk)⟩
 |goto l=>exact⟨.goto l,a₁,w₁,hq,fun k' hk=>.head step_scope (harr k' hk)⟩
 |ret=>exact⟨_,a₁,w₁,hq,.of_steps (.one step_scope) harr⟩
 |panic ch=>exact⟨_,a₁,w₁,hq,.of_steps (.one step_scope) harr⟩
 |outgrown=>exact⟨_,a₁,w₁,hq,.of_steps (.one step_scope) harr⟩
def Lab3 (J0 J1 J2:Nat->Act->World->Prop) (l n:Nat) (a:Act) (w:World):Prop:=(l=0/\J0 n a w)\/(l=1/\J1 n a w)\/(l=2/\J2 n a w)
theorem wp_scope3 {P:Program} {a:Act} {w:World} {Q:Exit->Act->World->Prop} {c x0 x1 x2:Code} (J0 J1 J2:Nat->Act->World->Prop)
  (h0:findLabel c 0=some (.seq .skip x0)) (h1:findLabel c 1=some (.seq .skip x1)) (h2:findLabel c 2=some (.seq .skip x2))
  (pass0:∀ n a w,J0 n a w->x0.wp P (hops (fun l' a' w'=>∃ m,m<n/\Lab3 J0 J1 J2 l' m a' w') Q) a w)
  (pass1:∀ n a w,J1 n a w->x1.wp P (hops (fun l' a' w'=>∃ m,m<n/\Lab3 J0 J1 J2 l' m a' w') Q) a w)
  (pass2:∀ n a w,J2 n a w->x2.wp P (hops (fun l' a' w'=>∃ m,m<n/\Lab3 J0 J1 J2 l' m a' w') Q) a w)
  (first:(∀ n a w,J0 n a w->x0.wp P (hops (fun l' a' w'=>∃ m,Lab3 J0 J1 J2 l' m a' w') Q) a w)->c.wp P (hops (fun l' a' w'=>∃ m,Lab3 J0 J1 J2 l' m a' w') Q) a w) :
  (Code.scope c).wp P Q a w:=by
 refine wp_scope_all (fun l=>if l=0 then x0 else if l=1 then x1 else x2) (Lab3 J0 J1 J2) ?_ ?_ ?_
 ·rintro n l a w (⟨rfl,_⟩|⟨rfl,_⟩|⟨rfl,_⟩)
  ·exact h0
  ·exact h1
  ·exact h2
 ·rintro n l a w (⟨rfl,h⟩|⟨rfl,h⟩|⟨rfl,h⟩)
  ·exact pass0 n a w h
  ·exact pass1 n a w h
  ·exact pass2 n a w h
 ·intro hp
  exact first (fun n a w h=>hp n 0 a w (.inl ⟨rfl,h⟩))
def Lab2 (J0 J1:Nat->Act->World->Prop) (l n:Nat) (a:Act) (w:World):Prop:=(l=0/\J0 n a w)\/(l=1/\J1 n a w)
theorem wp_scope2 {P:Program} {a:Act} {w:World} {Q:Exit->Act->World->Prop} {c x0 x1:Code} (J0 J1:Nat->Act->World->Prop)
  (h0:findLabel c 0=some (.seq .skip x0)) (h1:findLabel c 1=some (.seq .skip x1))
  (pass0:∀ n a w,J0 n a w->x0.wp P (hops (fun l' a' w'=>∃ m,m<n/\Lab2 J0 J1 l' m a' w') Q) a w)
  (pass1:∀ n a w,J1 n a w->x1.wp P (hops (fun l' a' w'=>∃ m,m<n/\Lab2 J0 J1 l' m a' w') Q) a w)
  (first:(∀ n a w,J0 n a w->x0.wp P (hops (fun l' a' w'=>∃ m,Lab2 J0 J1 l' m a' w') Q) a w)->(∀ n a w,J1 n a w->x1.wp P (hops (fun l' a' w'=>∃ m,Lab2 J0 J1 l' m a' w') Q) a w)->c.wp P (hops (fun l' a' w'=>∃ m,Lab2 J0 J1 l' m a' w') Q) a w) :
  (Code.scope c).wp P Q a w:=by
 refine wp_scope_all (fun l=>if l=0 then x0 else x1) (Lab2 J0 J1) ?_ ?_ ?_
 ·rintro n l a w (⟨rfl,_⟩|⟨rfl,_⟩)
  ·exact h0
  ·exact h1
 ·rintro n l a w (⟨rfl,h⟩|⟨rfl,h⟩)
  ·exact pass0 n a w h
  ·exact pass1 n a w h
 ·intro hp
  exact first (fun n a w h=>hp n 0 a w (.inl ⟨rfl,h⟩)) (fun n a w h=>hp n 1 a w (.inr ⟨rfl,h⟩))
def Lab1 (J0:Nat->Act->World->Prop) (l n:Nat) (a:Act) (w:World):Prop:=l=0/\J0 n a w
theorem wp_scope1 {P:Program} {a:Act} {w:World} {Q:Exit->Act->World->Prop} {c x0:Code} (J0:Nat->Act->World->Prop)
  (h0:findLabel c 0=some (.seq .skip x0))
  (pass0:∀ n a w,J0 n a w->x0.wp P (hops (fun l' a' w'=>∃ m,m<n/\Lab1 J0 l' m a' w') Q) a w)
  (first:(∀ n a w,J0 n a w->x0.wp P (hops (fun l' a' w'=>∃ m,Lab1 J0 l' m a' w') Q) a w)->c.wp P (hops (fun l' a' w'=>∃ m,Lab1 J0 l' m a' w') Q) a w) :
  (Code.scope c).wp P Q a w:=by
 refine wp_scope_all (fun _=>x0) (Lab1 J0) ?_ ?_ ?_
 ·rintro n l a w ⟨rfl,_⟩
  exact h0
 ·rintro n l a w ⟨rfl,h⟩
  exact pass0 n a w h
 ·intro hp
  exact first (fun n a w h=>hp n 0 a w ⟨rfl,h⟩)
theorem arr_slots (t:Array Value) (n:Nat) (h:t.size=n):t=((List.range n).map (fun i=>t.getD i undef)).toArray:=by
 apply Array.ext
 ·simp [h]
 ·intro i h1 h2
  simp [Array.getD,h1]
section
variable {last:Bool} {deep k:Nat} {out l:List Nat}
theorem txt_92e (h:(escO last l).1≠0):txtO last deep out k (92::l)=((escO last l).1,[],0):=by rw [txtO_cons,if_pos rfl,if_pos h]
theorem txt_92 (h:(escO last l).1=0):txtO last deep out k (92::l)=txtO last deep (out++(escO last l).2.1.toList) (k+1+(escO last l).2.2) (l.drop (escO last l).2.2):=by
 rw [txtO_cons,if_pos rfl,if_neg (fun e=>e h)]
theorem txt_13m (h:l=[]) (h2:last=false):txtO last deep out k (13::l)=(6,[],0):=by
 rw [txtO_cons,if_neg (show ¬13=92 by decide),if_pos rfl,if_pos ⟨h,h2⟩]
theorem txt_13b (h:l≠[]) (h2:l.head?=some 10):txtO last deep out k (13::l)=txtO last deep (out++[10]) (k+2) (l.drop 1):=by
 rw [txtO_cons,if_neg (show ¬13=92 by decide),if_pos rfl,if_neg (fun e=>h e.1),if_pos h2]
theorem txt_13n (h:¬(l=[]/\last=false)) (h2:¬l.head?=some 10):txtO last deep out k (13::l)=txtO last deep (out++[10]) (k+1) l:=by
 rw [txtO_cons,if_neg (show ¬13=92 by decide),if_pos rfl,if_neg h,if_neg h2]
theorem txt_40:txtO last deep out k (40::l)=txtO last (deep+1) (out++[40]) (k+1) l:=by
 rw [txtO_cons,if_neg (show ¬40=92 by decide),if_neg (show ¬40=13 by decide),if_pos rfl]
theorem txt_41e (h:deep=1):txtO last deep out k (41::l)=(0,out,k+1):=by
 rw [txtO_cons,if_neg (show ¬41=92 by decide),if_neg (show ¬41=13 by decide),if_neg (show ¬41=40 by decide),if_pos rfl,if_pos h]
theorem txt_41 (h:deep≠1):txtO last deep out k (41::l)=txtO last (deep-1) (out++[41]) (k+1) l:=by
 rw [txtO_cons,if_neg (show ¬41=92 by decide),if_neg (show ¬41=13 by decide),if_neg (show ¬41=40 by decide),if_pos rfl,if_neg h]
theorem txt_x {x:Nat} (h1:x≠92) (h2:x≠13) (h3:x≠40) (h4:x≠41):txtO last deep out k (x::l)=txtO last deep (out++[x]) (k+1) l:=by
 rw [txtO_cons,if_neg h1,if_neg h2,if_neg h3,if_neg h4]
end
section
variable {last:Bool} {deep k y:Nat} {out l:List Nat}
theorem cutE_ne (last:Bool):cutE last≠0:=by cases last<;>decide
theorem txt_13z:txtO last deep out k [13]=txtO last deep (out++[10]) (k+1) []:=by
 cases last
 ·rw [txt_13m rfl rfl,txtO_nil];rfl
 ·exact txt_13n (fun e=>by cases e.2) (by simp)
theorem txt_sz:txtO last deep out k [92]=(cutE last,[],0):=by
 rw [txt_92e (by exact cutE_ne last)];rfl
theorem txt_s10:txtO last deep out k (92::10::l)=txtO last deep out (k+2) l:=by
 have e:escO last (10::l)=(0,none,1):=rfl
 rw [txt_92 (by rw [e]),e]
 simp
theorem txt_s13z:txtO last deep out k [92,13]=txtO last deep out (k+2) []:=by
 cases last
 ·have e:escO false [13]=(6,none,0):=rfl
  rw [txt_92e (by rw [e];decide),e,txtO_nil];rfl
 ·have e:escO true [13]=(0,none,1):=rfl
  rw [txt_92 (by rw [e]),e]
  simp
theorem txt_s13b (h:l.head?=some 10):txtO last deep out k (92::13::l)=txtO last deep out (k+3) (l.drop 1):=by
 have e:escO last (13::l)=(0,none,2):=by
  rw [escO_cons]
  simp only [show ¬13=110 by decide,show ¬13=114 by decide,show ¬13=116 by decide,show ¬13=98 by decide,show ¬13=102 by decide,show ¬13=10 by decide,if_false,if_true]
  rw [if_neg (fun e=>by rw [e.1] at h;cases h),if_pos h]
 rw [txt_92 (by rw [e]),e]
 simp
theorem txt_s13n (h:¬l.head?=some 10) (h2:l≠[]):txtO last deep out k (92::13::l)=txtO last deep out (k+2) l:=by
 have e:escO last (13::l)=(0,none,1):=by
  rw [escO_cons]
  simp only [show ¬13=110 by decide,show ¬13=114 by decide,show ¬13=116 by decide,show ¬13=98 by decide,show ¬13=102 by decide,show ¬13=10 by decide,if_false,if_true]
  rw [if_neg (fun e=>h2 e.1),if_neg h]
 rw [txt_92 (by rw [e]),e]
 simp
theorem txt_soct (h:48<=y/\y<=55):txtO last deep out k (92::y::l)=txtO last deep (out++[(octs 2 (y-48) l).1%256]) (k+2+(octs 2 (y-48) l).2) (l.drop (octs 2 (y-48) l).2):=by
 have h3:octs 3 0 (y::l)=((octs 2 (y-48) l).1,(octs 2 (y-48) l).2+1):=by rw [octs_some h];simp
 have hle:=octs_le 2 (y-48) l
 obtain⟨m,hm⟩:∃ m,octs 2 (y-48) l=m:=⟨_,rfl⟩
 rw [hm] at h3 hle ⊢
 have e:escO last (y::l)=if m.2+1<3/\(y::l).length<=m.2+1/\last=false then(6,none,0) else(0,some (m.1%256),m.2+1):=by
  rw [escO_cons,if_neg (by omega),if_neg (by omega),if_neg (by omega),if_neg (by omega),if_neg (by omega),if_neg (by omega),if_neg (by omega),if_neg (by omega),h3]
 by_cases hc:m.2+1<3/\(y::l).length<=m.2+1/\last=false
 ·rw [if_pos hc] at e
  have hd:l.drop m.2=[]:=List.drop_of_length_le (by have:=hc.2.1;simp only [List.length_cons] at this;omega)
  rw [txt_92e (by rw [e];decide),e,hd,txtO_nil,hc.2.2]
  rfl
 ·rw [if_neg hc] at e
  rw [txt_92 (by rw [e]),e]
  simp only [Option.toList_some,List.drop_succ_cons]
  rw [show k+1+(m.2+1)=k+2+m.2 by omega]
theorem txt_sx (h10:y≠10) (h13:y≠13) (h:¬(48<=y/\y<=55)):txtO last deep out k (92::y::l)=txtO last deep (out++[mnt y]) (k+2) l:=by
 have e:escO last (y::l)=(0,some (mnt y),1):=by
  unfold mnt
  rw [escO_cons]
  repeat' split
  all_goals first
   |rfl
   |omega
 rw [txt_92 (by rw [e]),e]
 simp
end
def TkV (kind:Nat) (R:Int × List Nat):Value:=.tuple #[if R.1=0 then .agg #[.int .i64 (kind:Nat),.int .i64 0,.string (sb R.2),.slice none 0 0] else .agg #[.int .i64 0,.int .i64 0,.string ⟨#[]⟩,.slice none 0 0],.int .i64 R.1]
def PTo (V w:World) (R kind:Nat) (r:Int × List Nat × Nat) (e:Ending) (W:World):Prop:=e=.returned (TkV kind (r.1,r.2.1))/\∃ p,(r.1=0->p=r.2.2)/\RE V w W R p
def TxR (V w:World) (A:Option Addr) (bs:List Nat) (c:Nat) (last:Bool) (R g p:Nat) (k deep:Nat) (out:List Nat) (w':World):Prop :=
 RD V w w' A bs.length c last R k out/\Blk w' g 25 #[.int .i64 0,.int .i64 0,.string ⟨#[]⟩,.slice none 0 0]/\(∀ d∈out,d<256)
def TxJ0 (V w:World) (A:Option Addr) (bs:List Nat) (c:Nat) (last:Bool) (R g p:Nat) (n:Nat) (x:Act) (w':World):Prop :=
 x.defers=[]/\x.tmps.size=80/\x.tmps.getD 0 undef=.pointer (some ⟨R,0,none⟩)/\x.tmps.getD 2 undef=.pointer (some ⟨g,0,none⟩)/\∃ (k deep:Nat) (out:List Nat),x.tmps.getD 4 undef=.int .i64 (deep:Nat)/\n=2*(bs.length-k)+1/\k<=bs.length/\1<=deep/\deep<=k+1/\out.length<=k /\
  Hid (TxR V w A bs c last R g p k deep out w'/\txtO last 1 [] p (bs.drop p)=txtO last deep out k (bs.drop k))
def TxJ1 (V w:World) (A:Option Addr) (bs:List Nat) (c:Nat) (last:Bool) (R g p:Nat) (n:Nat) (x:Act) (w':World):Prop :=
 x.defers=[]/\x.tmps.size=80/\x.tmps.getD 0 undef=.pointer (some ⟨R,0,none⟩)/\x.tmps.getD 2 undef=.pointer (some ⟨g,0,none⟩)/\∃ (k deep:Nat) (out:List Nat),n=0 /\
  Hid (TxR V w A bs c last R g p k deep out w'/\txtO last 1 [] p (bs.drop p)=(cutE last,[],0))
def TxJ2 (V w:World) (A:Option Addr) (bs:List Nat) (c:Nat) (last:Bool) (R g p:Nat) (n:Nat) (x:Act) (w':World):Prop :=
 x.defers=[]/\x.tmps.size=80/\x.tmps.getD 0 undef=.pointer (some ⟨R,0,none⟩)/\x.tmps.getD 2 undef=.pointer (some ⟨g,0,none⟩)/\∃ (k deep:Nat) (out:List Nat),x.tmps.getD 4 undef=.int .i64 (deep:Nat)/\n=2*(bs.length-(k+1))+2/\k+1<=bs.length/\1<=deep/\deep<=k+1/\out.length<=k /\
  Hid (TxR V w A bs c last R g p (k+1) deep out w'/\txtO last 1 [] p (bs.drop p)=txtO last deep out k (92::bs.drop (k+1)))
theorem slots_80 {x:Act} {v0 v2:Value} {C:Act->Prop} (h1:x.defers=[]) (h2:x.tmps.size=80) (h3:x.tmps.getD 0 undef=v0) (h4:x.tmps.getD 2 undef=v2)
  (k:∀ f:Nat->Value,f 4=x.tmps.getD 4 undef->C { tmps:=#[v0,f 1,v2,f 3,f 4,f 5,f 6,f 7,f 8,f 9,f 10,f 11,f 12,f 13,f 14,f 15,f 16,f 17,f 18,f 19,f 20,f 21,f 22,f 23,f 24,f 25,f 26,f 27,f 28,f 29,f 30,f 31,f 32,f 33,f 34,f 35,f 36,f 37,f 38,f 39,f 40,f 41,f 42,f 43,f 44,f 45,f 46,f 47,f 48,f 49,f 50,f 51,f 52,f 53,f 54,f 55,f 56,f 57,f 58,f 59,f 60,f 61,f 62,f 63,f 64,f 65,f 66,f 67,f 68,f 69,f 70,f 71,f 72,f 73,f 74,f 75,f 76,f 77,f 78,f 79],defers:=[] }):C x:=by
 obtain⟨t,d⟩:=x
 simp only at h1 h2 h3 h4
 subst h1
 have h5:=k (fun i=>t.getD i undef) rfl
 rw [<- h3,<- h4] at h5
 rw [arr_slots t 80 h2]
 exact h5
def skT (bs:List Nat) (k:Nat):Nat:=if k<=bs.length then k+skp false (bs.drop k) else bs.length
def SkJ1 (w:World) (bs:List Nat) (A:Option Addr) (c:Nat) (r:Nat) (n:Nat) (x:Act) (w':World):Prop :=
 x.defers=[]/\x.tmps.size=49/\x.tmps.getD 0 undef=.slice A bs.length c/\∃ k:Nat,x.tmps.getD 1 undef=.int .i64 (k:Nat)/\n=3*(bs.length-k)+1/\w'=w/\Hid (r=skT bs k)
def SkJ0 (w:World) (bs:List Nat) (A:Option Addr) (c:Nat) (r:Nat) (n:Nat) (x:Act) (w':World):Prop :=
 x.defers=[]/\x.tmps.size=49/\x.tmps.getD 0 undef=.slice A bs.length c/\∃ k:Nat,x.tmps.getD 1 undef=.int .i64 (k:Nat)/\k<=bs.length/\w'=w/\(n=3*(bs.length-k)+2\/(n=3*(bs.length-k)/\Hid (bs[k]?=some 37)))/\Hid (r=k+skp true (bs.drop k))
theorem slots_49 {x:Act} {v0:Value} {C:Act->Prop} (h1:x.defers=[]) (h2:x.tmps.size=49) (h3:x.tmps.getD 0 undef=v0)
  (k:∀ f:Nat->Value,f 1=x.tmps.getD 1 undef->C { tmps:=#[v0,f 1,f 2,f 3,f 4,f 5,f 6,f 7,f 8,f 9,f 10,f 11,f 12,f 13,f 14,f 15,f 16,f 17,f 18,f 19,f 20,f 21,f 22,f 23,f 24,f 25,f 26,f 27,f 28,f 29,f 30,f 31,f 32,f 33,f 34,f 35,f 36,f 37,f 38,f 39,f 40,f 41,f 42,f 43,f 44,f 45,f 46,f 47,f 48],defers:=[] }):C x:=by
 obtain⟨t,d⟩:=x
 simp only at h1 h2 h3
 subst h1
 have h5:=k (fun i=>t.getD i undef) rfl
 rw [<- h3] at h5
 rw [arr_slots t 49 h2]
 exact h5
theorem skp_nl {y:Nat} {l:List Nat} (h:y=10\/y=13):skp true (y::l)=skp false (y::l):=skp_eol l h
set_option maxHeartbeats 4000000 in
set_option maxRecDepth 100000 in
theorem pskip_in (bs:List Nat) (A:Option Addr) (c p:Nat) (w:World) (hS:Src w 1 A bs.length c (lcells bs)) (hl:bs.length<=1000000) (hc:bs.length<=c) :
  Calls Tryz.prog 149 #[.slice A bs.length c,.int .i64 (p:Nat)] w fun e w'=>e=.returned (.int .i64 (skT bs p:Nat))/\w=w':=by
 have HCELL:=kf (fun(hn:0<bs.length)=>lcell hS (Chg.refl NoS w) hn)
 obtain⟨r,hr⟩:∃ r,r=skT bs p:=⟨_,rfl⟩
 have HR:=kf hr
 rw [<- hr]
 clear hS hr
 go_enter Tryz.func149,Tryz.ntmps149
 go_wp2
 refine wp_scope2 (SkJ0 w bs A c r) (SkJ1 w bs A c r) rfl rfl ?pass0 ?pass1 ?first
 case first =>
  intro _ hpass
  have HPass:=kf hpass
  clear hpass
  go_wp2
  go_step3
  rename_i hK
  refine hK _ _ (HPass.out _ _ _ ⟨rfl,rfl,rfl,p,rfl,rfl,rfl,HR⟩)
 case pass1 =>
  intro n x w1 hx
  obtain⟨h1,h2,h3,k,h4,rfl,rfl,HT⟩:=hx
  refine slots_49 h1 h2 h3 (C:=fun y=>Code.wp _ _ _ y w1) ?_
  intro f hf
  rw [h4] at hf
  simp only [hf]
  clear h1 h2 h3 h4 hf
  by_cases hkn:bs.length<=k
  ·have HE:=kf (show r=bs.length from by
    rw [HT.out,skT]
    split
    ·rw [List.drop_of_length_le hkn];show k+0=_;omega
    ·rfl)
   have d1:decide ((bs.length:Int)<=k)=true:=by simp;omega
   go_wp2_with fail
   simp only [hops]
   go_ret
   exact⟨ret_l64 (by rw [HE.out]),rfl⟩
  obtain⟨x,hx,hd⟩:=drop_at (bs:=bs) (k:=k) (by omega)
  obtain⟨b,off,rfl,hcell⟩:=HCELL.out (by omega)
  have c0:=hcell k x hx
  have d1:decide ((bs.length:Int)<=k)=false:=by simp;omega
  have d2:(k:Int)<bs.length:=by omega
  have HV:=kf (show r=k+skp false (x::bs.drop (k+1)) from by rw [HT.out,skT,if_pos (by omega),hd])
  have HX:=kf hx
  have HD:=kf hd
  have hkl:k<bs.length:=by omega
  clear hcell hx hd hkn
  by_cases h37:x=37
  ·subst h37
   go_wp2_with fail
   go_step3
   refine⟨3*(bs.length-k),by omega,.inl ⟨rfl,rfl,rfl,rfl,k,rfl,by omega,rfl,.inr ⟨rfl,HX⟩,kf ?_⟩⟩
   rw [HV.out,skp_37,HD.out]
  have e37:((x:Int)==37)=false:=by simp;omega
  have HSP:=kf (fun W=>pspace_any x W)
  by_cases hs:isSp x=true
  ·have HG:=kf hs
   rw [hs] at HSP
   clear hs
   go_wp2_with (go_at_call 151;refine(HSP.out _).mono ?_;rintro e w3 ⟨rfl,rfl⟩)
   go_step3
   exact⟨3*(bs.length-(k+1))+1,by omega,.inr ⟨rfl,rfl,rfl,rfl,k+1,rfl,rfl,rfl,kf (by rw [HV.out,skp_sp _ HG.out,skT,if_pos (by omega)];omega)⟩⟩
  ·have HG:=kf (show isSp x=false from by simpa using hs)
   rw [HG.out] at HSP
   clear hs
   go_wp2_with (go_at_call 151;refine(HSP.out _).mono ?_;rintro e w3 ⟨rfl,rfl⟩)
   simp only [hops]
   go_ret
   exact⟨ret_l64 (by rw [HV.out,skp_no _ HG.out h37];rfl),rfl⟩
 case pass0 =>
  intro n x w1 hx
  obtain⟨h1,h2,h3,k,h4,hk,rfl,HN,HT⟩:=hx
  refine slots_49 h1 h2 h3 (C:=fun y=>Code.wp _ _ _ y w1) ?_
  intro f hf
  rw [h4] at hf
  simp only [hf]
  clear h1 h2 h3 h4 hf
  by_cases hkn:k=bs.length
  ·subst hkn
   have hn:n=3*(bs.length-bs.length)+2:=by
    rcases HN with h|⟨_,h⟩
    ·exact h
    ·have:=(List.getElem?_eq_some_iff.1 h.out).1;omega
   go_wp2_with fail
   go_step3
   exact⟨3*(bs.length-bs.length)+1,by omega,.inr ⟨rfl,rfl,rfl,rfl,bs.length,rfl,rfl,rfl,kf (by rw [HT.out,skT,if_pos (Nat.le_refl _),List.drop_of_length_le (Nat.le_refl _)];rfl)⟩⟩
  obtain⟨x,hx,hd⟩:=drop_at (bs:=bs) (k:=k) (by omega)
  obtain⟨b,off,rfl,hcell⟩:=HCELL.out (by omega)
  have c0:=hcell k x hx
  have d2:(k:Int)<bs.length:=by omega
  have hkl:k<bs.length:=by omega
  have HV:=kf (show r=k+skp true (x::bs.drop (k+1)) from by rw [HT.out,hd])
  have HD:=kf hd
  have HX:=kf hx
  clear hcell hx hd
  by_cases hnl:x=10\/x=13
  ·have hn:n=3*(bs.length-k)+2:=by
    rcases HN with h|⟨_,h⟩
    ·exact h
    ·have e:=h.out
     rw [HX.out] at e
     injection e with e
     omega
   have HW:=kf (show r=skT bs k from by rw [HV.out,skp_nl hnl,skT,if_pos (by omega),HD.out])
   clear HN
   rcases hnl with rfl|rfl
   all_goals
    go_wp2_with fail
    go_step3
    exact⟨3*(bs.length-k)+1,by omega,.inr ⟨rfl,rfl,rfl,rfl,k,rfl,rfl,rfl,HW⟩⟩
  ·have e0:((x:Int) != 10)=true:=by simp;omega
   have e1:((x:Int) != 13)=true:=by simp;omega
   have HW:=kf (show r=k+1+skp true (bs.drop (k+1)) from by rw [HV.out,skp_com _ (by omega) (by omega)];omega)
   have hn:3*(bs.length-k)<=n:=by rcases HN with h|⟨h,_⟩<;>omega
   clear hnl HN
   go_wp2_with fail
   go_step3
   exact⟨3*(bs.length-(k+1))+2,by omega,.inl ⟨rfl,rfl,rfl,rfl,k+1,rfl,by omega,rfl,.inl rfl,HW⟩⟩
theorem pskip_any (bs:List Nat) (A:Option Addr) (c:Nat) (p:Int) (w:World) (hS:Src w 1 A bs.length c (lcells bs)) (hl:bs.length<=1000000) (hc:bs.length<=c) :
  Calls Tryz.prog 149 #[.slice A bs.length c,.int .i64 p] w fun e w'=>e=.returned (.int .i64 (skipO bs p:Nat))/\w=w':=by
 by_cases h0:p<0
 ·have HE:=kf (show skipO bs p=0 from if_pos h0)
  obtain⟨n,hn⟩:∃ n,n=bs.length:=⟨_,rfl⟩
  rw [<- hn] at hl ⊢
  clear hS hc hn
  go_enter Tryz.func149,Tryz.ntmps149
  go_wp2
  go_step3
  go_wp2_with fail
  (try simp only [Exit.noGoto_ret])
  go_ret
  exact⟨ret_l64 (by rw [HE.out];rfl),rfl⟩
 ·have h:=pskip_in bs A c p.toNat w hS hl hc
  rw [show((p.toNat:Nat):Int)=p from by omega] at h
  have e:skT bs p.toNat=skipO bs p:=by
   rw [skT,skipO,if_neg h0]
   by_cases h1:p<=bs.length
   ·rw [if_pos (by omega),if_pos h1]
   ·rw [if_neg (by omega),if_neg h1]
  rwa [e] at h
end Go.Proofs.YthejpkflcgjdoaaGreatDoor
