import Derived.Test.YtnhlalkeaaiefaaGreatDoorE09
import Derived.Test.YtnhlalkeaaiefaaGreatDoorE12
import Derived.Test.YtnhlalkeaaiefaaGreatDoorE13
set_option linter.unusedVariables false
set_option maxHeartbeats 64000000
set_option maxRecDepth 100000
set_option linter.unusedSimpArgs false
namespace Go.Proofs.YtnhlalkeaaiefaaGreatDoor
open Go
def z1t (K:Nat->Act->World->Prop) (Q:Exit->Act->World->Prop):Exit->Act->World->Prop
 |.goto l,a,w=>K l a w
 |e,a,w=>Q e a w
section
variable {K:Nat->Act->World->Prop} {Q:Exit->Act->World->Prop} {a:Act} {w:World}
end
theorem y7w {K K':Nat->Act->World->Prop} {Q:Exit->Act->World->Prop} (h:∀ l a w,K l a w->K' l a w):∀ e a w,z1t K Q e a w->z1t K' Q e a w:=by
 intro e a w hq;cases e with
 |goto l'=>exact h _ _ _ hq
 |normal=>exact hq
 |exit id=>exact hq
 |ret=>exact hq
 |panic ch=>exact hq
 |outgrown=>exact hq
theorem z9e {P:Program} {x:Code} {Q:Exit->Act->World->Prop} {a:Act} {w:World} (h:x.wp P Q a w):(Code.seq .skip x).wp P Q a w :=
 wp_seq (wp_skip h)
theorem z2y {P:Program} {a:Act} {w:World} {Q:Exit->Act->World->Prop} {c:Code} (X:Nat->Code) (J:Nat->Nat->Act->World->Prop)
  (hf:∀ n l a w,J l n a w->findLabel c l=some (.seq .skip (X l)))
  (pass:∀ n l a w,J l n a w->(X l).wp P (z1t (fun l' a' w'=>∃ m,m<n/\J l' m a' w') Q) a w)
  (first:(∀ n l a w,J l n a w->(X l).wp P (z1t (fun l' a' w'=>∃ m,J l' m a' w') Q) a w)->c.wp P (z1t (fun l' a' w'=>∃ m,J l' m a' w') Q) a w) :
  (Code.scope c).wp P Q a w:=by
 have first:=first (fun n l a w h=>Code.wp_mono (y7w (fun _ _ _ ⟨m,_,hm⟩=>⟨m,hm⟩)) (pass n l a w h))
 intro b k cs
 have two:∀ (r:Code) a w (K:Nat->Act->World->Prop),r.wp P (z1t K Q) a w ->
   (∀ l a1 w1,K l a1 w1->∃ x,findLabel c l=some x/\∃ e a' w',Q e a' w'/\Arrives P (lone (b.at a1 (.code x::.inScope c::k)) cs w1) b k cs e a' w') ->
   ∃ e a' w',Q e a' w'/\Arrives P (lone (b.at a (.code r::.inScope c::k)) cs w) b k cs e a' w':=by
  intro r a w K hr hK;obtain⟨e,a₁,w₁,hq,harr⟩:=hr b (.inScope c::k) cs;cases e with
  |normal=>exact⟨.normal,a₁,w₁,hq,Steps.trans harr (.one step_inScope)⟩
  |exit id=>exact⟨.exit id,a₁,w₁,hq,fun k' hk=>harr k' (by simp [exitTo,hk])⟩
  |goto l' =>
   obtain⟨x,hx,e₂,a₂,w₂,hq₂,harr₂⟩:=hK l' a₁ w₁ hq;have hg:gotoIn l' (.inScope c::k)=some (.code x::.inScope c::k):=by simp [gotoIn,hx]
   exact⟨e₂,a₂,w₂,hq₂,.of_steps (harr _ hg) harr₂⟩
  |ret=>exact⟨_,a₁,w₁,hq,harr⟩
  |panic ch=>exact⟨_,a₁,w₁,hq,harr⟩
  |outgrown=>exact⟨_,a₁,w₁,hq,harr⟩
 have key:∀ n l a w,J l n a w->∃ x,findLabel c l=some x/\∃ e a' w',Q e a' w'/\Arrives P (lone (b.at a (.code x::.inScope c::k)) cs w) b k cs e a' w':=by
  intro n;induction n using Nat.strongRecOn with
  |_ n ih =>
   intro l a w hJ;exact⟨_,hf n l a w hJ,two _ a w _ (z9e (pass n l a w hJ)) (fun l' a1 w1 ⟨m,hm,hJ'⟩=>ih m hm l' a1 w1 hJ')⟩
 obtain⟨e,a₁,w₁,hq,harr⟩:=two c a w _ first (fun l' a1 w1 ⟨m,hJ'⟩=>key m l' a1 w1 hJ')
 cases e with
 |normal=>exact⟨.normal,a₁,w₁,hq,.head step_scope harr⟩
 |exit id=>exact⟨.exit id,a₁,w₁,hq,fun k' hk=>.head step_scope (harr k' hk)⟩
 |goto l=>exact⟨.goto l,a₁,w₁,hq,fun k' hk=>.head step_scope (harr k' hk)⟩
 |ret=>exact⟨_,a₁,w₁,hq,.of_steps (.one step_scope) harr⟩
 |panic ch=>exact⟨_,a₁,w₁,hq,.of_steps (.one step_scope) harr⟩
 |outgrown=>exact⟨_,a₁,w₁,hq,.of_steps (.one step_scope) harr⟩
def v5y (J0 J1 J2:Nat->Act->World->Prop) (l n:Nat) (a:Act) (w:World):Prop:=(l=0/\J0 n a w)\/(l=1/\J1 n a w)\/(l=2/\J2 n a w)
theorem y5l {P:Program} {a:Act} {w:World} {Q:Exit->Act->World->Prop} {c x0 x1 x2:Code} (J0 J1 J2:Nat->Act->World->Prop)
  (h0:findLabel c 0=some (.seq .skip x0)) (h1:findLabel c 1=some (.seq .skip x1)) (h2:findLabel c 2=some (.seq .skip x2))
  (pass0:∀ n a w,J0 n a w->x0.wp P (z1t (fun l' a' w'=>∃ m,m<n/\v5y J0 J1 J2 l' m a' w') Q) a w)
  (pass1:∀ n a w,J1 n a w->x1.wp P (z1t (fun l' a' w'=>∃ m,m<n/\v5y J0 J1 J2 l' m a' w') Q) a w)
  (pass2:∀ n a w,J2 n a w->x2.wp P (z1t (fun l' a' w'=>∃ m,m<n/\v5y J0 J1 J2 l' m a' w') Q) a w)
  (first:(∀ n a w,J0 n a w->x0.wp P (z1t (fun l' a' w'=>∃ m,v5y J0 J1 J2 l' m a' w') Q) a w)->c.wp P (z1t (fun l' a' w'=>∃ m,v5y J0 J1 J2 l' m a' w') Q) a w) :
  (Code.scope c).wp P Q a w:=by
 refine z2y (fun l=>if l=0 then x0 else if l=1 then x1 else x2) (v5y J0 J1 J2) ?_ ?_ ?_
 ·rintro n l a w (⟨rfl,_⟩|⟨rfl,_⟩|⟨rfl,_⟩)
  ·exact h0
  ·exact h1
  ·exact h2
 ·rintro n l a w (⟨rfl,h⟩|⟨rfl,h⟩|⟨rfl,h⟩)
  ·exact pass0 n a w h
  ·exact pass1 n a w h
  ·exact pass2 n a w h
 ·intro hp;exact first (fun n a w h=>hp n 0 a w (.inl ⟨rfl,h⟩))
def v5z (J0 J1:Nat->Act->World->Prop) (l n:Nat) (a:Act) (w:World):Prop:=(l=0/\J0 n a w)\/(l=1/\J1 n a w)
theorem z6a {P:Program} {a:Act} {w:World} {Q:Exit->Act->World->Prop} {c x0 x1:Code} (J0 J1:Nat->Act->World->Prop)
  (h0:findLabel c 0=some (.seq .skip x0)) (h1:findLabel c 1=some (.seq .skip x1))
  (pass0:∀ n a w,J0 n a w->x0.wp P (z1t (fun l' a' w'=>∃ m,m<n/\v5z J0 J1 l' m a' w') Q) a w)
  (pass1:∀ n a w,J1 n a w->x1.wp P (z1t (fun l' a' w'=>∃ m,m<n/\v5z J0 J1 l' m a' w') Q) a w)
  (first:(∀ n a w,J0 n a w->x0.wp P (z1t (fun l' a' w'=>∃ m,v5z J0 J1 l' m a' w') Q) a w)->(∀ n a w,J1 n a w->x1.wp P (z1t (fun l' a' w'=>∃ m,v5z J0 J1 l' m a' w') Q) a w)->c.wp P (z1t (fun l' a' w'=>∃ m,v5z J0 J1 l' m a' w') Q) a w) :
  (Code.scope c).wp P Q a w:=by
 refine z2y (fun l=>if l=0 then x0 else x1) (v5z J0 J1) ?_ ?_ ?_
 ·rintro n l a w (⟨rfl,_⟩|⟨rfl,_⟩)
  ·exact h0
  ·exact h1
 ·rintro n l a w (⟨rfl,h⟩|⟨rfl,h⟩)
  ·exact pass0 n a w h
  ·exact pass1 n a w h
 ·intro hp;exact first (fun n a w h=>hp n 0 a w (.inl ⟨rfl,h⟩)) (fun n a w h=>hp n 1 a w (.inr ⟨rfl,h⟩))
def v8l (J0:Nat->Act->World->Prop) (l n:Nat) (a:Act) (w:World):Prop:=l=0/\J0 n a w
theorem z9f {P:Program} {a:Act} {w:World} {Q:Exit->Act->World->Prop} {c x0:Code} (J0:Nat->Act->World->Prop)
  (h0:findLabel c 0=some (.seq .skip x0))
  (pass0:∀ n a w,J0 n a w->x0.wp P (z1t (fun l' a' w'=>∃ m,m<n/\v8l J0 l' m a' w') Q) a w)
  (first:(∀ n a w,J0 n a w->x0.wp P (z1t (fun l' a' w'=>∃ m,v8l J0 l' m a' w') Q) a w)->c.wp P (z1t (fun l' a' w'=>∃ m,v8l J0 l' m a' w') Q) a w) :
  (Code.scope c).wp P Q a w:=by
 refine z2y (fun _=>x0) (v8l J0) ?_ ?_ ?_
 ·rintro n l a w ⟨rfl,_⟩;exact h0
 ·rintro n l a w ⟨rfl,h⟩;exact pass0 n a w h
 ·intro hp;exact first (fun n a w h=>hp n 0 a w ⟨rfl,h⟩)
theorem z2m (t:Array Value) (n:Nat) (h:t.size=n):t=((List.range n).map (fun i=>t.getD i undef)).toArray:=by
 apply Array.ext
 ·simp [h]
 ·intro i h1 h2;simp [Array.getD,h1]
open Go.RowKit
section
variable {last:Bool} {deep k y:Nat} {out l:List Nat}
theorem y1w (last:Bool):y3k last≠0:=by cases last<;>decide
theorem v3l:z11 last deep out k [13]=z11 last deep (out++[10]) (k+1) []:=by
 cases last
 ·rw [v3m rfl rfl,z1x];rfl
 ·exact y5w (fun e=>by cases e.2) (by simp)
theorem v6d:z11 last deep out k [92]=(y3k last,[],0):=by
 rw [y0z (by exact y1w last)];rfl
theorem v3i:z11 last deep out k (92::10::l)=z11 last deep out (k+2) l:=by
 have e:z3n last (10::l)=(0,none,1):=rfl;rw [z7l (by rw [e]),e];simp
theorem v04:z11 last deep out k [92,13]=z11 last deep out (k+2) []:=by
 cases last
 ·have e:z3n false [13]=(6,none,0):=rfl;rw [y0z (by rw [e];decide),e,z1x];rfl
 ·have e:z3n true [13]=(0,none,1):=rfl;rw [z7l (by rw [e]),e];simp
theorem v06 (h:l.head?=some 10):z11 last deep out k (92::13::l)=z11 last deep out (k+3) (l.drop 1):=by
 have e:z3n last (13::l)=(0,none,2):=by
  rw [z4r];simp only [show ¬13=110 by decide,show ¬13=114 by decide,show ¬13=116 by decide,show ¬13=98 by decide,show ¬13=102 by decide,show ¬13=10 by decide,if_false,if_true];rw [if_neg (fun e=>by rw [e.1] at h;cases h),if_pos h]
 rw [z7l (by rw [e]),e];simp
theorem v05 (h:¬l.head?=some 10) (h2:l≠[]):z11 last deep out k (92::13::l)=z11 last deep out (k+2) l:=by
 have e:z3n last (13::l)=(0,none,1):=by
  rw [z4r];simp only [show ¬13=110 by decide,show ¬13=114 by decide,show ¬13=116 by decide,show ¬13=98 by decide,show ¬13=102 by decide,show ¬13=10 by decide,if_false,if_true];rw [if_neg (fun e=>h2 e.1),if_neg h]
 rw [z7l (by rw [e]),e];simp
theorem v03 (h:48<=y/\y<=55):z11 last deep out k (92::y::l)=z11 last deep (out++[(z1w 2 (y-48) l).1%256]) (k+2+(z1w 2 (y-48) l).2) (l.drop (z1w 2 (y-48) l).2):=by
 have h3:z1w 3 0 (y::l)=((z1w 2 (y-48) l).1,(z1w 2 (y-48) l).2+1):=by rw [z4j h];simp
 have hle:=y1h 2 (y-48) l;obtain⟨m,hm⟩:∃ m,z1w 2 (y-48) l=m:=⟨_,rfl⟩
 rw [hm] at h3 hle ⊢
 have e:z3n last (y::l)=if m.2+1<3/\(y::l).length<=m.2+1/\last=false then(6,none,0) else(0,some (m.1%256),m.2+1):=by
  rw [z4r,if_neg (by omega),if_neg (by omega),if_neg (by omega),if_neg (by omega),if_neg (by omega),if_neg (by omega),if_neg (by omega),if_neg (by omega),h3]
 by_cases hc:m.2+1<3/\(y::l).length<=m.2+1/\last=false
 ·rw [if_pos hc] at e;have hd:l.drop m.2=[]:=List.drop_of_length_le (by have:=hc.2.1;simp only [List.length_cons] at this;omega);rw [y0z (by rw [e];decide),e,hd,z1x,hc.2.2];rfl
 ·rw [if_neg hc] at e;rw [z7l (by rw [e]),e];simp only [Option.toList_some,List.drop_succ_cons];rw [show k+1+(m.2+1)=k+2+m.2 by omega]
theorem v6e (h10:y≠10) (h13:y≠13) (h:¬(48<=y/\y<=55)):z11 last deep out k (92::y::l)=z11 last deep (out++[mnt y]) (k+2) l:=by
 have e:z3n last (y::l)=(0,some (mnt y),1):=by
  unfold mnt;rw [z4r];repeat' split
  all_goals first
   |rfl
   |omega
 rw [z7l (by rw [e]),e];simp
end
def TkV (kind:Nat) (R:Int × List Nat):Value:=.tuple #[if R.1=0 then .agg #[.int .i64 (kind:Nat),.int .i64 0,.string (sb R.2),.slice none 0 0] else .agg #[.int .i64 0,.int .i64 0,.string ⟨#[]⟩,.slice none 0 0],.int .i64 R.1]
def PTo (V w:World) (R kind:Nat) (r:Int × List Nat × Nat) (e:Ending) (W:World):Prop:=e=.returned (TkV kind (r.1,r.2.1))/\∃ p,(r.1=0->p=r.2.2)/\RE V w W R p
def TxR (V w:World) (A:Option Addr) (bs:List Nat) (c:Nat) (last:Bool) (R g p:Nat) (k deep:Nat) (out:List Nat) (w':World):Prop :=
 RD V w w' A bs.length c last R k out/\Blk w' g 25 #[.int .i64 0,.int .i64 0,.string ⟨#[]⟩,.slice none 0 0]/\(∀ d∈out,d<256)
def q0k (V w:World) (A:Option Addr) (bs:List Nat) (c:Nat) (last:Bool) (R g p:Nat) (n:Nat) (x:Act) (w':World):Prop :=
 x.defers=[]/\x.tmps.size=80/\x.tmps.getD 0 undef=.pointer (some ⟨R,0,none⟩)/\x.tmps.getD 2 undef=.pointer (some ⟨g,0,none⟩)/\∃ (k deep:Nat) (out:List Nat),x.tmps.getD 4 undef=.int .i64 (deep:Nat)/\n=2*(bs.length-k)+1/\k<=bs.length/\1<=deep/\deep<=k+1/\out.length<=k /\
  Hid (TxR V w A bs c last R g p k deep out w'/\z11 last 1 [] p (bs.drop p)=z11 last deep out k (bs.drop k))
def q0j (V w:World) (A:Option Addr) (bs:List Nat) (c:Nat) (last:Bool) (R g p:Nat) (n:Nat) (x:Act) (w':World):Prop :=
 x.defers=[]/\x.tmps.size=80/\x.tmps.getD 0 undef=.pointer (some ⟨R,0,none⟩)/\x.tmps.getD 2 undef=.pointer (some ⟨g,0,none⟩)/\∃ (k deep:Nat) (out:List Nat),n=0 /\
  Hid (TxR V w A bs c last R g p k deep out w'/\z11 last 1 [] p (bs.drop p)=(y3k last,[],0))
def q0i (V w:World) (A:Option Addr) (bs:List Nat) (c:Nat) (last:Bool) (R g p:Nat) (n:Nat) (x:Act) (w':World):Prop :=
 x.defers=[]/\x.tmps.size=80/\x.tmps.getD 0 undef=.pointer (some ⟨R,0,none⟩)/\x.tmps.getD 2 undef=.pointer (some ⟨g,0,none⟩)/\∃ (k deep:Nat) (out:List Nat),x.tmps.getD 4 undef=.int .i64 (deep:Nat)/\n=2*(bs.length-(k+1))+2/\k+1<=bs.length/\1<=deep/\deep<=k+1/\out.length<=k /\
  Hid (TxR V w A bs c last R g p (k+1) deep out w'/\z11 last 1 [] p (bs.drop p)=z11 last deep out k (92::bs.drop (k+1)))
theorem z8d {x:Act} {v0 v2:Value} {C:Act->Prop} (h1:x.defers=[]) (h2:x.tmps.size=80) (h3:x.tmps.getD 0 undef=v0) (h4:x.tmps.getD 2 undef=v2)
  (k:∀ f:Nat->Value,f 4=x.tmps.getD 4 undef->C { tmps:=#[v0,f 1,v2,f 3,f 4,f 5,f 6,f 7,f 8,f 9,f 10,f 11,f 12,f 13,f 14,f 15,f 16,f 17,f 18,f 19,f 20,f 21,f 22,f 23,f 24,f 25,f 26,f 27,f 28,f 29,f 30,f 31,f 32,f 33,f 34,f 35,f 36,f 37,f 38,f 39,f 40,f 41,f 42,f 43,f 44,f 45,f 46,f 47,f 48,f 49,f 50,f 51,f 52,f 53,f 54,f 55,f 56,f 57,f 58,f 59,f 60,f 61,f 62,f 63,f 64,f 65,f 66,f 67,f 68,f 69,f 70,f 71,f 72,f 73,f 74,f 75,f 76,f 77,f 78,f 79],defers:=[] }):C x:=by
 obtain⟨t,d⟩:=x;simp only at h1 h2 h3 h4;subst h1;have h5:=k (fun i=>t.getD i undef) rfl;rw [<- h3,<- h4] at h5;rw [z2m t 80 h2];exact h5
theorem TxR.step {V w X X':World} {A:Option Addr} {bs:List Nat} {c:Nat} {last:Bool} {R g p k deep k' deep':Nat} {out out':List Nat} (h:TxR V w A bs c last R g p k deep out X) (h':RD X w X' A bs.length c last R k' out') (hg:g≠R) (hb:∀ d∈out',d<256):TxR V w A bs c last R g p k' deep' out' X' :=
 ⟨h'.base (h.1.kb.trans h'.kb),h'.kb _ _ _ hg (by decide) h.2.1,hb⟩
theorem z1c {out:List Nat} {x:Nat} (h:∀ d∈out,d<256) (hx:x<256):∀ d∈out++[x],d<256:=by
 intro d hd;rcases List.mem_append.1 hd with h1|h1
 ·exact h d h1
 ·rw [List.mem_singleton.1 h1];exact hx
theorem y1z {kind:Nat} {er:Int} {l:List Nat} (h:er≠0):TkV kind (er,l)=.tuple #[.agg #[.int .i64 0,.int .i64 0,.string ⟨#[]⟩,.slice none 0 0],.int .i64 er]:=by
 unfold TkV;rw [if_neg h]
theorem y6s {V w W:World} {A:Option Addr} {bs:List Nat} {c R p:Nat} {last:Bool} (h:RD V w W A bs.length c last R p []) (hS:Src w 1 A bs.length c (z08 bs)) (hl:bs.length<=500000) (hc:bs.length<=c) (hp:p<=bs.length) (hb:∀ d∈bs,d<256) :
  Calls Tryz.prog 184 #[.pointer (some ⟨R,0,none⟩)] W (PTo V w R 4 (z11 last 1 [] p (bs.drop p))):=by
 have hl6:bs.length<=1000000:=by omega
 have HTE:=kf (fun X out (hX:RD X w X A bs.length c last R bs.length out)=>z6o hX);have HTA:=kf (fun X out k x (hX:RD X w X A bs.length c last R k out) (hx:bs[k]?=some x)=>z8i hX hS hl6 hc hx);have HPE:=kf (fun X out (hX:RD X w X A bs.length c last R bs.length out)=>z6p hX 10);have HPN:=kf (fun X out k x (hX:RD X w X A bs.length c last R k out) (hx:bs[k]?=some x) (hy:x≠10)=>z8j hX hS hl6 hc hx 10 hy);have HPA:=kf (fun X out k (hX:RD X w X A bs.length c last R k out) (hx:bs[k]?=some 10)=>z8k hX hS hl6 hc hx);have HWB:=kf (fun X out k y (hX:RD X w X A bs.length c last R k out) (ho:out.length<=1000000)=>z58 hX y ho);have HOC:=kf (fun X out k y (hX:RD X w X A bs.length c last R k out) (hk:k<=bs.length) (hy:y<8)=>y4o hX hS hl6 hc hk hb y hy);have HCU:=kf (fun X out k (hX:RD X w X A bs.length c last R k out)=>z4f hX 10);have HBU:=kf (fun X out k (hX:RD X w X A bs.length c last R k out) (ho:∀ d∈out,d<256) (hm:out.length<=1000000)=>z5b hX ho hm 4);have HME:=kf (fun y X=>y4p y X);have HB:=kf hb;have HKB:=kf h.kb;have HR0:=kf h.here;have hRW:=h.lt;have hwW:=h.chg.size;obtain⟨g,hg⟩:∃ g,g=W.heap.size:=⟨_,rfl⟩
 have HG:=kf hg;have hgR:g≠R:=by omega
 have hgW:W.heap.size<=g:=by omega
 have hgw:w.heap.size<=g:=by omega
 have HTR:=kf (fun(X X':World) (k k' deep deep':Nat) (out out':List Nat) (h:TxR W w A bs c last R g p k deep out X) (h':RD X w X' A bs.length c last R k' out') (hb:∀ d∈out',d<256)=>TxR.step (deep':=deep') h h' hgR hb);have HL6:=kf hl6;clear h hS hb hc hl6 hg hwW hRW;go_enter Tryz.func184,Tryz.ntmps184;go_wp2;refine y5l (q0k W w A bs c last R g p) (q0j W w A bs c last R g p) (q0i W w A bs c last R g p) rfl rfl rfl ?pass0 ?pass1 ?pass2 ?first
 case first =>
  intro hpass;have HPass:=kf hpass;clear hpass;go_wp2;go_step3;rename_i hK;refine hK _ _ (HPass.out _ _ _ ⟨rfl,rfl,rfl,by rw [HG.out];rfl,p,1,[],rfl,rfl,hp,Nat.le_refl _,by omega,Nat.zero_le _,kf ⟨⟨HR0.out.call ((Chg.refl NoS W).alloc _),by rw [HG.out];exact Blk.new _ _ _,fun d hd=>by cases hd⟩,rfl⟩⟩)
 case pass1 =>
  intro n x w1 hx;obtain⟨h1,h2,h3,h4,k,deep,out,rfl,HT⟩:=hx;refine z8d h1 h2 h3 h4 (C:=fun y=>Code.wp _ _ _ y w1) ?_;intro f _;obtain⟨r0,r1,r2,r3,z0,z1,z2,z3⟩:=HT.out.1.2.1.cl4;have HRD:=kf HT.out.1.1;have HV:=kf HT.out.2;clear h1 h2 h3 h4 HT;have hec:(if last then(10:Int) else 6)=y3k last:=rfl;have hne:=y1w last;obtain⟨er,her⟩:∃ er,er=y3k last:=⟨_,rfl⟩
  have HCU1:=kf (HCU.out w1 _ _ HRD.out.here);rw [hec,<- her] at HCU1;rw [<- her] at HV hne;have HNE:=kf hne;clear hec her hne;go_wp2_with (go_at_call 182;refine HCU1.out.mono ?_;rintro e w3 ⟨rfl,rfl⟩);simp only [z1t];refine bodyPost_ret (v:=.tuple #[.agg #[.int .i64 0,.int .i64 0,.string ⟨#[]⟩,.slice none 0 0],.int .i64 er]) (by simp [results,Tryz.results184,go_sem,r0,r1,r2,r3]) rfl ?_;refine⟨by rw [HV.out,y1z HNE.out],k,fun e=>absurd (by rw [HV.out] at e;exact e) HNE.out,?_⟩;exact(HRD.out.re.set4 hgR hgW hgw _ _ _ _).back HKB.out
 case pass0 =>
  intro n x w1 hx;obtain⟨h1,h2,h3,h4,k,deep,out,h5,rfl,hk,hd1,hd2,hm,HT⟩:=hx;refine z8d h1 h2 h3 h4 (C:=fun y=>Code.wp _ _ _ y w1) ?_;intro f hf;rw [h5] at hf;simp only [hf];clear h1 h2 h3 h4 h5 hf;by_cases hkn:k=bs.length
  ·subst hkn;have HV:=kf (show z11 last 1 [] p (bs.drop p)=(y3k last,[],0) from by rw [HT.out.2,List.drop_of_length_le (Nat.le_refl _),z1x]);go_wp2_with (go_at_call 181;refine(HTE.out _ _ HT.out.1.1.here).mono ?_;rintro e w3 ⟨rfl,h3⟩;have HT3:=kf (HTR.out _ _ _ _ _ deep _ _ HT.out.1 h3 HT.out.1.2.2);clear h3);go_step3;exact⟨0,by omega,.inr (.inl ⟨rfl,rfl,rfl,rfl,rfl,_,deep,_,rfl,kf ⟨HT3.out,HV.out⟩⟩)⟩
  obtain⟨x,hx,hd⟩:=z19 (bs:=bs) (k:=k) (by omega);have hx256:=HB.out x (List.mem_of_getElem? hx);have HX:=kf hx;have HV:=kf (show z11 last 1 [] p (bs.drop p)=z11 last deep out k (x::bs.drop (k+1)) from by rw [HT.out.2,hd]);have HLX:=kf (show(bs.drop (k+1)).length=bs.length-(k+1) from List.length_drop);have hk1:k+1<=bs.length:=by omega
  clear hx hd;by_cases h92:x=92
  ·subst h92;go_wp2_with (go_at_call 181;refine(HTA.out _ _ _ _ HT.out.1.1.here HX.out).mono ?_;rintro e w3 ⟨rfl,h3⟩;have HT3:=kf (HTR.out _ _ _ _ _ deep _ _ HT.out.1 h3 HT.out.1.2.2);clear h3);go_step3;exact⟨2*(bs.length-(k+1))+2,by omega,.inr (.inr ⟨rfl,rfl,rfl,rfl,rfl,k,deep,out,rfl,rfl,hk1,hd1,hd2,hm,kf ⟨HT3.out,HV.out⟩⟩)⟩
  have e92:((x:Int)==92)=false:=by simp;omega
  by_cases h40:x=40
  ·subst h40;have d0:((deep:Int)+1==0)=false:=by simp;omega
   clear h92 e92;go_wp2_with first|(go_at_call 181;refine(HTA.out _ _ _ _ HT.out.1.1.here HX.out).mono ?_;rintro e w3 ⟨rfl,h3⟩;have HT3:=kf (HTR.out _ _ _ _ _ deep _ _ HT.out.1 h3 HT.out.1.2.2);clear h3)|(go_at_call 172;refine(HWB.out _ _ _ 40 HT3.out.1.here (by omega)).mono ?_;rintro e w4 ⟨rfl,h4⟩;have HT4:=kf (HTR.out _ _ _ _ _ (deep+1) _ _ HT3.out h4 (z1c HT3.out.2.2 (by decide)));clear h4)
   go_step3;refine⟨2*(bs.length-(k+1))+1,by omega,.inl ⟨rfl,rfl,rfl,rfl,rfl,k+1,deep+1,out++[40],rfl,rfl,by omega,by omega,by omega,by(try simp only [List.length_append,List.length_cons,List.length_nil]);omega,kf ⟨HT4.out,by rw [HV.out,v6g]⟩⟩⟩
  have e40:((x:Int)==40)=false:=by simp;omega
  by_cases h41:x=41
  ·subst h41;clear h92 e92 h40 e40;by_cases hd:deep=1
   ·subst hd;have HE:=kf (v3k (last:=last) (deep:=1) (k:=k) (out:=out) (l:=bs.drop (k+1)) rfl);go_upto_region 14 with(go_at_call 181;refine(HTA.out _ _ _ _ HT.out.1.1.here HX.out).mono ?_;rintro e w3 ⟨rfl,h3⟩;have HT3:=kf (HTR.out _ _ _ _ _ 1 _ _ HT.out.1 h3 HT.out.1.2.2);clear h3);have hKB3:=HT3.out.1.here;go_upto_region 24 with(go_at_call 205;refine(HBU.out _ _ _ HT3.out.1.here HT3.out.2.2 (by omega)).mono ?_;rintro e w4 ⟨rfl,h4⟩;obtain⟨r0,r1,r2,r3,z0,z1,z2,z3⟩:=(h4.kb _ _ _ hgR (by decide) HT3.out.2.1).cl4;have HRE:=kf (h4.back HT3.out.1.kb);clear h4);simp only [z1t];refine bodyPost_ret (v:=.tuple #[.agg #[.int .i64 4,.int .i64 0,.string (sb out),.slice none 0 0],.int .i64 0]) (by simp [results,Tryz.results184,go_sem,r0,r1,r2,r3]) rfl ?_;refine⟨by rw [HV.out,HE.out];rfl,k+1,fun e=>by rw [HV.out,HE.out],?_⟩;exact(HRE.out.set4 hgR hgW hgw _ _ _ _).back HKB.out
   ·have d0:((deep:Int)-1==0)=false:=by simp;omega
    have d1:(0:Int)<=(deep:Int)-1:=by omega
    go_wp2_with first|(go_at_call 181;refine(HTA.out _ _ _ _ HT.out.1.1.here HX.out).mono ?_;rintro e w3 ⟨rfl,h3⟩;have HT3:=kf (HTR.out _ _ _ _ _ deep _ _ HT.out.1 h3 HT.out.1.2.2);clear h3)|(go_at_call 172;refine(HWB.out _ _ _ 41 HT3.out.1.here (by omega)).mono ?_;rintro e w4 ⟨rfl,h4⟩;have HT4:=kf (HTR.out _ _ _ _ _ (deep-1) _ _ HT3.out h4 (z1c HT3.out.2.2 (by decide)));clear h4)
    go_step3;refine⟨2*(bs.length-(k+1))+1,by omega,.inl ⟨rfl,rfl,rfl,rfl,rfl,k+1,deep-1,out++[41],congrArg (Value.int .i64) (by omega),rfl,by omega,by omega,by omega,by(try simp only [List.length_append,List.length_cons,List.length_nil]);omega,kf ⟨HT4.out,by rw [HV.out,v6f hd]⟩⟩⟩
  have e41:((x:Int)==41)=false:=by simp;omega
  have d0:((deep:Int)==0)=false:=by simp;omega
  by_cases h13:x=13
  ·subst h13;clear h92 e92 h40 e40 h41 e41;by_cases hkz:k+1=bs.length
   ·have HZ:=kf (show bs.drop (k+1)=[] from List.drop_of_length_le (by omega));have HT3E:=kf (fun X out (hX:RD X w X A bs.length c last R (k+1) out)=>HPE.out X out (by rw [<- hkz];rw [<- hkz] at hX;exact hX));go_wp2_with first|(go_at_call 185;refine(HT3E.out _ _ HT3.out.1.here).mono ?_;rintro e w5 ⟨rfl,h5⟩;have HT5:=kf (HTR.out _ _ _ _ _ deep _ _ HT3.out (by rw [<- hkz];rw [<- hkz] at h5;exact h5) HT3.out.2.2);clear h5)|(go_at_call 181;refine(HTA.out _ _ _ _ HT.out.1.1.here HX.out).mono ?_;rintro e w3 ⟨rfl,h3⟩;have HT3:=kf (HTR.out _ _ _ _ _ deep _ _ HT.out.1 h3 HT.out.1.2.2);clear h3)|(go_at_call 172;refine(HWB.out _ _ _ 10 HT5.out.1.here (by omega)).mono ?_;rintro e w4 ⟨rfl,h4⟩;have HT4:=kf (HTR.out _ _ _ _ _ deep _ _ HT5.out h4 (z1c HT5.out.2.2 (by decide)));clear h4)
    go_step3;refine⟨2*(bs.length-(k+1))+1,by omega,.inl ⟨rfl,rfl,rfl,rfl,rfl,k+1,deep,out++[10],rfl,rfl,by omega,by omega,by omega,by(try simp only [List.length_append,List.length_cons,List.length_nil]);omega,kf ⟨HT4.out,by rw [HV.out,HZ.out,v3l]⟩⟩⟩
   obtain⟨y,hy,hdy⟩:=z19 (bs:=bs) (k:=k+1) (by omega);have HY:=kf hy;have HDY:=kf hdy;have hk2:k+2<=bs.length:=by omega
   clear hy hdy;by_cases hy10:y=10
   ·subst hy10;go_wp2_with first|(go_at_call 185;refine(HPA.out _ _ _ HT3.out.1.here HY.out).mono ?_;rintro e w5 ⟨rfl,h5⟩;have HT5:=kf (HTR.out _ _ _ _ _ deep _ _ HT3.out h5 HT3.out.2.2);clear h5)|(go_at_call 181;refine(HTA.out _ _ _ _ HT.out.1.1.here HX.out).mono ?_;rintro e w3 ⟨rfl,h3⟩;have HT3:=kf (HTR.out _ _ _ _ _ deep _ _ HT.out.1 h3 HT.out.1.2.2);clear h3)|(go_at_call 172;refine(HWB.out _ _ _ 10 HT5.out.1.here (by omega)).mono ?_;rintro e w4 ⟨rfl,h4⟩;have HT4:=kf (HTR.out _ _ _ _ _ deep _ _ HT5.out h4 (z1c HT5.out.2.2 (by decide)));clear h4)
    go_step3;refine⟨2*(bs.length-(k+2))+1,by omega,.inl ⟨rfl,rfl,rfl,rfl,rfl,k+2,deep,out++[10],rfl,rfl,by omega,by omega,by omega,by(try simp only [List.length_append,List.length_cons,List.length_nil]);omega,kf ⟨HT4.out,by rw [HV.out,v3n (by rw [HDY.out];simp) (by rw [HDY.out];rfl),List.drop_drop]⟩⟩⟩
   ·go_wp2_with first|(go_at_call 185;refine(HPN.out _ _ _ _ HT3.out.1.here HY.out hy10).mono ?_;rintro e w5 ⟨rfl,h5⟩;have HT5:=kf (HTR.out _ _ _ _ _ deep _ _ HT3.out h5 HT3.out.2.2);clear h5)|(go_at_call 181;refine(HTA.out _ _ _ _ HT.out.1.1.here HX.out).mono ?_;rintro e w3 ⟨rfl,h3⟩;have HT3:=kf (HTR.out _ _ _ _ _ deep _ _ HT.out.1 h3 HT.out.1.2.2);clear h3)|(go_at_call 172;refine(HWB.out _ _ _ 10 HT5.out.1.here (by omega)).mono ?_;rintro e w4 ⟨rfl,h4⟩;have HT4:=kf (HTR.out _ _ _ _ _ deep _ _ HT5.out h4 (z1c HT5.out.2.2 (by decide)));clear h4)
    go_step3;refine⟨2*(bs.length-(k+1))+1,by omega,.inl ⟨rfl,rfl,rfl,rfl,rfl,k+1,deep,out++[10],rfl,rfl,by omega,by omega,by omega,by(try simp only [List.length_append,List.length_cons,List.length_nil]);omega,kf ⟨HT4.out,by rw [HV.out,y5w (by rw [HDY.out];simp) (by rw [HDY.out];simpa using hy10)]⟩⟩⟩
  have e13:((x:Int)==13)=false:=by simp;omega
  go_wp2_with first|(go_at_call 181;refine(HTA.out _ _ _ _ HT.out.1.1.here HX.out).mono ?_;rintro e w3 ⟨rfl,h3⟩;have HT3:=kf (HTR.out _ _ _ _ _ deep _ _ HT.out.1 h3 HT.out.1.2.2);clear h3)|(go_at_call 172;refine(HWB.out _ _ _ x HT3.out.1.here (by omega)).mono ?_;rintro e w4 ⟨rfl,h4⟩;have HT4:=kf (HTR.out _ _ _ _ _ deep _ _ HT3.out h4 (z1c HT3.out.2.2 hx256));clear h4)
  go_step3;refine⟨2*(bs.length-(k+1))+1,by omega,.inl ⟨rfl,rfl,rfl,rfl,rfl,k+1,deep,out++[x],rfl,rfl,by omega,by omega,by omega,by(try simp only [List.length_append,List.length_cons,List.length_nil]);omega,kf ⟨HT4.out,by rw [HV.out,v8o h92 h13 h40 h41]⟩⟩⟩
 case pass2 =>
  intro n x w1 hx;obtain⟨h1,h2,h3,h4,k,deep,out,h5,rfl,hk,hd1,hd2,hm,HT⟩:=hx;refine z8d h1 h2 h3 h4 (C:=fun y=>Code.wp _ _ _ y w1) ?_;intro f hf;rw [h5] at hf;simp only [hf];clear h1 h2 h3 h4 h5 hf;by_cases hkn:k+1=bs.length
  ·have HV:=kf (show z11 last 1 [] p (bs.drop p)=(y3k last,[],0) from by rw [HT.out.2,List.drop_of_length_le (by omega),v6d]);have HTE1:=kf (fun X out (hX:RD X w X A bs.length c last R (k+1) out)=>HTE.out X out (by rw [<- hkn];rw [<- hkn] at hX;exact hX));go_wp2_with (go_at_call 181;refine(HTE1.out _ _ HT.out.1.1.here).mono ?_;rintro e w3 ⟨rfl,h3⟩;have HT3:=kf (HTR.out _ _ _ _ _ deep _ _ HT.out.1 h3 HT.out.1.2.2);clear h3);go_step3;exact⟨0,by omega,.inr (.inl ⟨rfl,rfl,rfl,rfl,rfl,_,deep,_,rfl,kf ⟨HT3.out,HV.out⟩⟩)⟩
  obtain⟨x,hx,hd⟩:=z19 (bs:=bs) (k:=k+1) (by omega);have hx256:=HB.out x (List.mem_of_getElem? hx);have HX:=kf hx;have HV:=kf (show z11 last 1 [] p (bs.drop p)=z11 last deep out k (92::x::bs.drop (k+2)) from by rw [HT.out.2,hd]);have hk1:k+2<=bs.length:=by omega
  clear hx hd;by_cases h13:x=13
  ·subst h13;by_cases hkz:k+2=bs.length
   ·have HZ:=kf (show bs.drop (k+2)=[] from List.drop_of_length_le (by omega));have HT3E:=kf (fun X out (hX:RD X w X A bs.length c last R (k+1+1) out)=>HPE.out X out (by rw [<- hkz];rw [<- hkz] at hX;exact hX));go_wp2_with first|(go_at_call 185;refine(HT3E.out _ _ HT3.out.1.here).mono ?_;rintro e w5 ⟨rfl,h5⟩;have HT4:=kf (HTR.out _ _ _ _ _ deep _ _ HT3.out (by rw [<- hkz];rw [<- hkz] at h5;exact h5) HT3.out.2.2);clear h5)|(go_at_call 181;refine(HTA.out _ _ _ _ HT.out.1.1.here HX.out).mono ?_;rintro e w3 ⟨rfl,h3⟩;have HT3:=kf (HTR.out _ _ _ _ _ deep _ _ HT.out.1 h3 HT.out.1.2.2);clear h3)
    go_step3;refine⟨2*(bs.length-(k+2))+1,by omega,.inl ⟨rfl,rfl,rfl,rfl,rfl,k+2,deep,out,rfl,rfl,by omega,by omega,by omega,by(try simp only [List.length_append,List.length_cons,List.length_nil]);omega,kf ⟨HT4.out,by rw [HV.out,HZ.out,v04]⟩⟩⟩
   obtain⟨y,hy,hdy⟩:=z19 (bs:=bs) (k:=k+2) (by omega);have HY:=kf hy;have HDY:=kf hdy;have hk2:k+3<=bs.length:=by omega
   clear hy hdy;by_cases hy10:y=10
   ·subst hy10;go_wp2_with first|(go_at_call 185;refine(HPA.out _ _ _ HT3.out.1.here HY.out).mono ?_;rintro e w5 ⟨rfl,h5⟩;have HT4:=kf (HTR.out _ _ _ _ _ deep _ _ HT3.out h5 HT3.out.2.2);clear h5)|(go_at_call 181;refine(HTA.out _ _ _ _ HT.out.1.1.here HX.out).mono ?_;rintro e w3 ⟨rfl,h3⟩;have HT3:=kf (HTR.out _ _ _ _ _ deep _ _ HT.out.1 h3 HT.out.1.2.2);clear h3)
    go_step3;refine⟨2*(bs.length-(k+3))+1,by omega,.inl ⟨rfl,rfl,rfl,rfl,rfl,k+3,deep,out,rfl,rfl,by omega,by omega,by omega,by(try simp only [List.length_append,List.length_cons,List.length_nil]);omega,kf ⟨HT4.out,by rw [HV.out,v06 (by rw [HDY.out];rfl),List.drop_drop]⟩⟩⟩
   ·go_wp2_with first|(go_at_call 185;refine(HPN.out _ _ _ _ HT3.out.1.here HY.out hy10).mono ?_;rintro e w5 ⟨rfl,h5⟩;have HT4:=kf (HTR.out _ _ _ _ _ deep _ _ HT3.out h5 HT3.out.2.2);clear h5)|(go_at_call 181;refine(HTA.out _ _ _ _ HT.out.1.1.here HX.out).mono ?_;rintro e w3 ⟨rfl,h3⟩;have HT3:=kf (HTR.out _ _ _ _ _ deep _ _ HT.out.1 h3 HT.out.1.2.2);clear h3)
    go_step3;refine⟨2*(bs.length-(k+2))+1,by omega,.inl ⟨rfl,rfl,rfl,rfl,rfl,k+2,deep,out,rfl,rfl,by omega,by omega,by omega,by(try simp only [List.length_append,List.length_cons,List.length_nil]);omega,kf ⟨HT4.out,by rw [HV.out,v05 (by rw [HDY.out];simpa using hy10) (by rw [HDY.out];simp)]⟩⟩⟩
  have e13:((x:Int)==13)=false:=by simp;omega
  by_cases h10:x=10
  ·subst h10;go_wp2_with (go_at_call 181;refine(HTA.out _ _ _ _ HT.out.1.1.here HX.out).mono ?_;rintro e w3 ⟨rfl,h3⟩;have HT4:=kf (HTR.out _ _ _ _ _ deep _ _ HT.out.1 h3 HT.out.1.2.2);clear h3);go_step3;refine⟨2*(bs.length-(k+2))+1,by omega,.inl ⟨rfl,rfl,rfl,rfl,rfl,k+2,deep,out,rfl,rfl,by omega,by omega,by omega,by(try simp only [List.length_append,List.length_cons,List.length_nil]);omega,kf ⟨HT4.out,by rw [HV.out,v3i]⟩⟩⟩
  have e10:((x:Int)==10)=false:=by simp;omega
  by_cases hoct:48<=x/\x<=55
  ·have HO:=kf (v03 (last:=last) (deep:=deep) (k:=k) (out:=out) (l:=bs.drop (k+2)) hoct);have hle:=y1h 2 (x-48) (bs.drop (k+2));rw [List.length_drop] at hle;obtain⟨u,hu⟩:∃ u,u=x-48:=⟨_,rfl⟩
   have hu8:u<8:=by omega
   have w2:IntKind.u8.wrap ((x:Int)-48)=(u:Int):=by rw [IntKind.wrap_u8];omega
   have m1:decide ((48:Int)<=x)=true:=by simp;omega
   have m2:decide ((x:Int)<=55)=true:=by simp;omega
   have m3:decide (48<=x)=true:=by simp;omega
   have m4:decide (x<=55)=true:=by simp;omega
   rw [<- hu] at HO hle;obtain⟨v,hv⟩:∃ v,(z1w 2 u (bs.drop (k+2))).1%256=v:=⟨_,rfl⟩
   obtain⟨q,hq⟩:∃ q,(z1w 2 u (bs.drop (k+2))).2=q:=⟨_,rfl⟩
   have HOC1:=kf (fun X out (hX:RD X w X A bs.length c last R (k+1+1) out)=>HOC.out X out (k+1+1) u hX hk1 hu8);have hv256:v<256:=by rw [<- hv];exact Nat.mod_lt _ (by decide)
   have hvq:(z1w 2 u (bs.drop (k+1+1))).1%256=v/\(z1w 2 u (bs.drop (k+1+1))).2=q:=⟨hv,hq⟩
   rw [hvq.1,hvq.2] at HOC1;rw [hv,hq] at HO;rw [hq] at hle;have hq2:=hle.2;clear hle hv hq hvq hu hoct;go_upto_region 22 with(go_at_call 181;refine(HTA.out _ _ _ _ HT.out.1.1.here HX.out).mono ?_;rintro e w3 ⟨rfl,h3⟩;have HT3:=kf (HTR.out _ _ _ _ _ deep _ _ HT.out.1 h3 HT.out.1.2.2);clear h3);have hRR:=HT3.out.1.new
   first
    |(go_loud (go_region_held3 (fun _=>True) (first|trivial|(go_keep;done))
      (first
       |(go_at_call 206;refine(HOC1.out _ _ (HT3.out.1.call ((Chg.refl NoS _).drew)).here).mono ?_;rintro e w5 ⟨rfl,h5⟩;have HT5:=kf (HTR.out _ _ _ _ _ deep _ _ HT3.out (h5.base ((KB.chg ((Chg.refl NoS _).drew)).trans h5.kb)) HT3.out.2.2);clear h5)
       |(go_at_call 172;refine(HWB.out _ _ _ v HT5.out.1.here (by omega)).mono ?_;rintro e w4 ⟨rfl,h4⟩;have HT4:=kf (HTR.out _ _ _ _ _ deep _ _ HT5.out h4 (z1c HT5.out.2.2 hv256));clear h4))))
    |fail "region"
   go_wp2_with fail;go_step3;refine⟨2*(bs.length-(k+2+q))+1,by omega,.inl ⟨rfl,rfl,rfl,rfl,rfl,k+2+q,deep,out++[v],rfl,rfl,by omega,by omega,by omega,by(try simp only [List.length_append,List.length_cons,List.length_nil]);omega,kf ⟨HT4.out,by rw [HV.out,HO.out,List.drop_drop]⟩⟩⟩
  have HM:=kf (v6e (last:=last) (deep:=deep) (k:=k) (out:=out) (l:=bs.drop (k+2)) h10 h13 hoct);have hm256:mnt x<256:=v7i hx256;have HME1:=kf (fun X=>HME.out x X);obtain⟨v,hv⟩:∃ v,mnt x=v:=⟨_,rfl⟩
  rw [hv] at HM HME1 hm256;have m0:(decide ((48:Int)<=x)&&decide ((x:Int)<=55))=false:=by simp;omega
  clear hv;by_cases hlo:48<=x
  ·have hhi:¬x<=55:=by omega
   have m1:decide ((48:Int)<=x)=true:=by simp;omega
   have m2:decide ((x:Int)<=55)=false:=by simp;omega
   have m3:decide (48<=x)=true:=by simp;omega
   have m4:decide (x<=55)=false:=by simp;omega
   clear hoct;go_upto_region 23 with(go_at_call 181;refine(HTA.out _ _ _ _ HT.out.1.1.here HX.out).mono ?_;rintro e w3 ⟨rfl,h3⟩;have HT3:=kf (HTR.out _ _ _ _ _ deep _ _ HT.out.1 h3 HT.out.1.2.2);clear h3)
   first
    |(go_loud (go_region_held3 (fun _=>True) (first|trivial|(go_keep;done))
      (first
       |(go_at_call 207;refine(HME1.out _).mono ?_;rintro e w5 ⟨rfl,rfl⟩;have HT5:=kf (HTR.out _ _ _ _ _ deep _ _ HT3.out (HT3.out.1.here.call ((Chg.refl NoS _).drew)) HT3.out.2.2))
       |(go_at_call 172;refine(HWB.out _ _ _ v HT5.out.1.here (by omega)).mono ?_;rintro e w4 ⟨rfl,h4⟩;have HT4:=kf (HTR.out _ _ _ _ _ deep _ _ HT5.out h4 (z1c HT5.out.2.2 hm256));clear h4))))
    |fail "region"
   go_wp2_with fail;go_step3;refine⟨2*(bs.length-(k+2))+1,by omega,.inl ⟨rfl,rfl,rfl,rfl,rfl,k+2,deep,out++[v],rfl,rfl,by omega,by omega,by omega,by(try simp only [List.length_append,List.length_cons,List.length_nil]);omega,kf ⟨HT4.out,by rw [HV.out,HM.out]⟩⟩⟩
  ·have m1:decide ((48:Int)<=x)=false:=by simp;omega
   have m3:decide (48<=x)=false:=by simp;omega
   clear hoct;go_upto_region 23 with(go_at_call 181;refine(HTA.out _ _ _ _ HT.out.1.1.here HX.out).mono ?_;rintro e w3 ⟨rfl,h3⟩;have HT3:=kf (HTR.out _ _ _ _ _ deep _ _ HT.out.1 h3 HT.out.1.2.2);clear h3)
   first
    |(go_loud (go_region_held3 (fun _=>True) (first|trivial|(go_keep;done))
      (first
       |(go_at_call 207;refine(HME1.out _).mono ?_;rintro e w5 ⟨rfl,rfl⟩;have HT5:=kf (HTR.out _ _ _ _ _ deep _ _ HT3.out (HT3.out.1.here.call ((Chg.refl NoS _).drew)) HT3.out.2.2))
       |(go_at_call 172;refine(HWB.out _ _ _ v HT5.out.1.here (by omega)).mono ?_;rintro e w4 ⟨rfl,h4⟩;have HT4:=kf (HTR.out _ _ _ _ _ deep _ _ HT5.out h4 (z1c HT5.out.2.2 hm256));clear h4))))
    |fail "region"
   go_wp2_with fail;go_step3;refine⟨2*(bs.length-(k+2))+1,by omega,.inl ⟨rfl,rfl,rfl,rfl,rfl,k+2,deep,out++[v],rfl,rfl,by omega,by omega,by omega,by(try simp only [List.length_append,List.length_cons,List.length_nil]);omega,kf ⟨HT4.out,by rw [HV.out,HM.out]⟩⟩⟩
def skT (bs:List Nat) (k:Nat):Nat:=if k<=bs.length then k+skp false (bs.drop k) else bs.length
def q0l (w:World) (bs:List Nat) (A:Option Addr) (c:Nat) (r:Nat) (n:Nat) (x:Act) (w':World):Prop :=
 x.defers=[]/\x.tmps.size=49/\x.tmps.getD 0 undef=.slice A bs.length c/\∃ k:Nat,x.tmps.getD 1 undef=.int .i64 (k:Nat)/\n=3*(bs.length-k)+1/\w'=w/\Hid (r=skT bs k)
def q0m (w:World) (bs:List Nat) (A:Option Addr) (c:Nat) (r:Nat) (n:Nat) (x:Act) (w':World):Prop :=
 x.defers=[]/\x.tmps.size=49/\x.tmps.getD 0 undef=.slice A bs.length c/\∃ k:Nat,x.tmps.getD 1 undef=.int .i64 (k:Nat)/\k<=bs.length/\w'=w/\(n=3*(bs.length-k)+2\/(n=3*(bs.length-k)/\Hid (bs[k]?=some 37)))/\Hid (r=k+skp true (bs.drop k))
theorem y2h {x:Act} {v0:Value} {C:Act->Prop} (h1:x.defers=[]) (h2:x.tmps.size=49) (h3:x.tmps.getD 0 undef=v0)
  (k:∀ f:Nat->Value,f 1=x.tmps.getD 1 undef->C { tmps:=#[v0,f 1,f 2,f 3,f 4,f 5,f 6,f 7,f 8,f 9,f 10,f 11,f 12,f 13,f 14,f 15,f 16,f 17,f 18,f 19,f 20,f 21,f 22,f 23,f 24,f 25,f 26,f 27,f 28,f 29,f 30,f 31,f 32,f 33,f 34,f 35,f 36,f 37,f 38,f 39,f 40,f 41,f 42,f 43,f 44,f 45,f 46,f 47,f 48],defers:=[] }):C x:=by
 obtain⟨t,d⟩:=x;simp only at h1 h2 h3;subst h1;have h5:=k (fun i=>t.getD i undef) rfl;rw [<- h3] at h5;rw [z2m t 49 h2];exact h5
theorem v6w {y:Nat} {l:List Nat} (h:y=10\/y=13):skp true (y::l)=skp false (y::l):=v42 l h
theorem v0w (bs:List Nat) (A:Option Addr) (c p:Nat) (w:World) (hS:Src w 1 A bs.length c (z08 bs)) (hl:bs.length<=1000000) (hc:bs.length<=c) :
  Calls Tryz.prog 149 #[.slice A bs.length c,.int .i64 (p:Nat)] w fun e w'=>e=.returned (.int .i64 (skT bs p:Nat))/\w=w':=by
 have HCELL:=kf (fun(hn:0<bs.length)=>z5x hS (Chg.refl NoS w) hn);obtain⟨r,hr⟩:∃ r,r=skT bs p:=⟨_,rfl⟩
 have HR:=kf hr;rw [<- hr];clear hS hr;go_enter Tryz.func149,Tryz.ntmps149;go_wp2;refine z6a (q0m w bs A c r) (q0l w bs A c r) rfl rfl ?pass0 ?pass1 ?first
 case first =>
  intro _ hpass;have HPass:=kf hpass;clear hpass;go_wp2;go_step3;rename_i hK;refine hK _ _ (HPass.out _ _ _ ⟨rfl,rfl,rfl,p,rfl,rfl,rfl,HR⟩)
 case pass1 =>
  intro n x w1 hx;obtain⟨h1,h2,h3,k,h4,rfl,rfl,HT⟩:=hx;refine y2h h1 h2 h3 (C:=fun y=>Code.wp _ _ _ y w1) ?_;intro f hf;rw [h4] at hf;simp only [hf];clear h1 h2 h3 h4 hf;by_cases hkn:bs.length<=k
  ·have HE:=kf (show r=bs.length from by
    rw [HT.out,skT];split
    ·rw [List.drop_of_length_le hkn];show k+0=_;omega
    ·rfl)
   have d1:decide ((bs.length:Int)<=k)=true:=by simp;omega
   go_wp2_with fail;simp only [z1t];go_ret;exact⟨y18 (by rw [HE.out]),rfl⟩
  obtain⟨x,hx,hd⟩:=z19 (bs:=bs) (k:=k) (by omega);obtain⟨b,off,rfl,hcell⟩:=HCELL.out (by omega);have c0:=hcell k x hx;have d1:decide ((bs.length:Int)<=k)=false:=by simp;omega
  have d2:(k:Int)<bs.length:=by omega
  have HV:=kf (show r=k+skp false (x::bs.drop (k+1)) from by rw [HT.out,skT,if_pos (by omega),hd]);have HX:=kf hx;have HD:=kf hd;have hkl:k<bs.length:=by omega
  clear hcell hx hd hkn;by_cases h37:x=37
  ·subst h37;go_wp2_with fail;go_step3;refine⟨3*(bs.length-k),by omega,.inl ⟨rfl,rfl,rfl,rfl,k,rfl,by omega,rfl,.inr ⟨rfl,HX⟩,kf ?_⟩⟩;rw [HV.out,v6x,HD.out]
  have e37:((x:Int)==37)=false:=by simp;omega
  have HSP:=kf (fun W=>z3i x W);by_cases hs:z3s x=true
  ·have HG:=kf hs;rw [hs] at HSP;clear hs;go_wp2_with (go_at_call 151;refine(HSP.out _).mono ?_;rintro e w3 ⟨rfl,rfl⟩);go_step3;exact⟨3*(bs.length-(k+1))+1,by omega,.inr ⟨rfl,rfl,rfl,rfl,k+1,rfl,rfl,rfl,kf (by rw [HV.out,v6u _ HG.out,skT,if_pos (by omega)];omega)⟩⟩
  ·have HG:=kf (show z3s x=false from by simpa using hs);rw [HG.out] at HSP;clear hs;go_wp2_with (go_at_call 151;refine(HSP.out _).mono ?_;rintro e w3 ⟨rfl,rfl⟩);simp only [z1t];go_ret;exact⟨y18 (by rw [HV.out,v6v _ HG.out h37];rfl),rfl⟩
 case pass0 =>
  intro n x w1 hx;obtain⟨h1,h2,h3,k,h4,hk,rfl,HN,HT⟩:=hx;refine y2h h1 h2 h3 (C:=fun y=>Code.wp _ _ _ y w1) ?_;intro f hf;rw [h4] at hf;simp only [hf];clear h1 h2 h3 h4 hf;by_cases hkn:k=bs.length
  ·subst hkn
   have hn:n=3*(bs.length-bs.length)+2:=by
    rcases HN with h|⟨_,h⟩
    ·exact h
    ·have:=(List.getElem?_eq_some_iff.1 h.out).1;omega
   go_wp2_with fail;go_step3;exact⟨3*(bs.length-bs.length)+1,by omega,.inr ⟨rfl,rfl,rfl,rfl,bs.length,rfl,rfl,rfl,kf (by rw [HT.out,skT,if_pos (Nat.le_refl _),List.drop_of_length_le (Nat.le_refl _)];rfl)⟩⟩
  obtain⟨x,hx,hd⟩:=z19 (bs:=bs) (k:=k) (by omega);obtain⟨b,off,rfl,hcell⟩:=HCELL.out (by omega);have c0:=hcell k x hx;have d2:(k:Int)<bs.length:=by omega
  have hkl:k<bs.length:=by omega
  have HV:=kf (show r=k+skp true (x::bs.drop (k+1)) from by rw [HT.out,hd]);have HD:=kf hd;have HX:=kf hx;clear hcell hx hd;by_cases hnl:x=10\/x=13
  ·have hn:n=3*(bs.length-k)+2:=by
    rcases HN with h|⟨_,h⟩
    ·exact h
    ·have e:=h.out;rw [HX.out] at e;injection e with e
     omega
   have HW:=kf (show r=skT bs k from by rw [HV.out,v6w hnl,skT,if_pos (by omega),HD.out]);clear HN;rcases hnl with rfl|rfl
   all_goals
    go_wp2_with fail;go_step3;exact⟨3*(bs.length-k)+1,by omega,.inr ⟨rfl,rfl,rfl,rfl,k,rfl,rfl,rfl,HW⟩⟩
  ·have e0:((x:Int) != 10)=true:=by simp;omega
   have e1:((x:Int) != 13)=true:=by simp;omega
   have HW:=kf (show r=k+1+skp true (bs.drop (k+1)) from by rw [HV.out,v43 _ (by omega) (by omega)];omega);have hn:3*(bs.length-k)<=n:=by rcases HN with h|⟨h,_⟩<;>omega
   clear hnl HN;go_wp2_with fail;go_step3;exact⟨3*(bs.length-(k+1))+2,by omega,.inl ⟨rfl,rfl,rfl,rfl,k+1,rfl,by omega,rfl,.inl rfl,HW⟩⟩
theorem y6t (bs:List Nat) (A:Option Addr) (c:Nat) (p:Int) (w:World) (hS:Src w 1 A bs.length c (z08 bs)) (hl:bs.length<=1000000) (hc:bs.length<=c) :
  Calls Tryz.prog 149 #[.slice A bs.length c,.int .i64 p] w fun e w'=>e=.returned (.int .i64 (y4b bs p:Nat))/\w=w':=by
 by_cases h0:p<0
 ·have HE:=kf (show y4b bs p=0 from if_pos h0);obtain⟨n,hn⟩:∃ n,n=bs.length:=⟨_,rfl⟩
  rw [<- hn] at hl ⊢;clear hS hc hn;go_enter Tryz.func149,Tryz.ntmps149;go_wp2;go_step3;go_wp2_with fail;(try simp only [Exit.noGoto_ret])
  go_ret;exact⟨y18 (by rw [HE.out];rfl),rfl⟩
 ·have h:=v0w bs A c p.toNat w hS hl hc;rw [show((p.toNat:Nat):Int)=p from by omega] at h
  have e:skT bs p.toNat=y4b bs p:=by
   rw [skT,y4b,if_neg h0];by_cases h1:p<=bs.length
   ·rw [if_pos (by omega),if_pos h1]
   ·rw [if_neg (by omega),if_neg h1]
  rwa [e] at h
end Go.Proofs.YtnhlalkeaaiefaaGreatDoor
namespace Go.Proofs.YtnhlalkeaaiefaaGreatDoor.PS
open Go.RowKit
def v8h (key:Int->Int) (d:List Int) (a i j:Nat):Prop :=
 (∀ p q,a<=p->p<q->q<i+1->p≠j->q≠j->key (d.getD p 0)<=key (d.getD q 0))/\(∀ q,j<q->q<i+1->key (d.getD j 0)<=key (d.getD q 0))
theorem y4u {key:Int->Int} {d:List Int} {a i:Nat} (h:Sorted key d a i):v8h key d a i i :=
 ⟨fun p q hp hpq hq h1 h2=>h p q hp hpq (by omega),fun q h1 h2=>absurd h1 (by omega)⟩
theorem y0f {key:Int->Int} {d:List Int} {a i j:Nat} (h:v8h key d a i j) (haj:a<=j) (hji:j<=i) (hl:j=a\/key (d.getD (j-1) 0)<=key (d.getD j 0)):Sorted key d a (i+1):=by
 intro p q hp hpq hq;by_cases h1:p=j
 ·subst h1;exact h.2 q hpq hq
 ·by_cases h2:q=j
  ·subst h2;rcases hl with h3|h3
   ·omega
   ·by_cases h4:p=q-1
    ·subst h4;exact h3
    ·exact Int.le_trans (h.1 p (q-1) hp (by omega) (by omega) h1 (by omega)) h3
  ·exact h.1 p q hp hpq hq h1 h2
theorem y7x {key:Int->Int} {d:List Int} {a i j:Nat} (h:v8h key d a i (j+1)) (haj:a<=j) (hji:j+1<=i) (hi:i<d.length) (hlt:key (d.getD (j+1) 0)<key (d.getD j 0)):v8h key (z48 d (j+1) j) a i j:=by
 have g:=fun k=>z0z d (j+1) j k (by omega) (by omega);refine⟨fun p q hp hpq hq h1 h2=>?_,fun q h1 h2=>?_⟩
 ·rw [g p,g q,if_neg h1,if_neg h2];by_cases h3:p=j+1
  ·subst h3;rw [if_pos rfl,if_neg (by omega)];exact h.1 j q haj (by omega) hq (by omega) (by omega)
  ·rw [if_neg h3];by_cases h4:q=j+1
   ·subst h4;rw [if_pos rfl];exact h.1 p j hp (by omega) (by omega) h3 (by omega)
   ·rw [if_neg h4];exact h.1 p q hp hpq hq h3 h4
 ·rw [g j,g q,if_pos rfl,if_neg (by omega)];by_cases h4:q=j+1
  ·subst h4;rw [if_pos rfl];omega
  ·rw [if_neg h4];exact h.2 q (by omega) h2
theorem v4v [PAd] (g:Nat) (lb:Array Value) (eg:∀ args w,(callFunc g args).run Tryz.prog w=.ok (.enter g args) w) (key0 key:Int->Int) (NN:Int) (hkk:key=kk key0 NN) (gs cap:Nat) (w0:World) (hcmp:CmpOf g lb key0 NN gs w0)
  (a b:Nat) (d:List Int) (w:World) (hab:a<=b) (hb:b<=d.length) (hL:d.length<=1000000) (hR:Row w gs cap d) (hG:Good NN d) (hst:InTurn key0 d) (hch:Chg (fun i=>i=gs) w0 w) :
  Calls Tryz.prog 128 #[.slice (some ⟨gs,0,none⟩) d.length cap,.int .i64 a,.int .i64 b,.func (.func g) #[] lb] w (z4u w gs cap d a b (fun d'=>Sorted key d' a b)):=by
 have HR:=kf hR;have HG:=kf hG;have HCH:=kf hch;have HST:=kf hst;have HKK:=kf hkk;clear hR hG hch hst;obtain⟨N,hN⟩:∃ N,N=d.length:=⟨_,rfl⟩
 have HN:=kf hN;rw [<- hN] at hb hL ⊢;clear hN;go_enter Tryz.func128,Tryz.ntmps128;go_wp2_with fail;go_loopw [8] (fun v wr=>∃ i:Nat,∃ d1:List Int,a+1<=i/\i<=b+1/\v=.int .i64 i/\d1.length=N/\Row wr gs cap d1/\Hid (Same d d1 a b)/\Hid ((∀ e,e<=i->e<=b->Sorted key d1 a e)/\InTurn key0 d1)/\Chg (fun i=>i=gs) w wr) (fun v _=>b+1-(intOf v).toNat)
 case atStart=>exact⟨a+1,d,by omega,by omega,by go_num,HN.out.symm,HR.out,Same.refl _ _ _,⟨fun e h1 h2 p q h3 h4 h5=>absurd h4 (by omega),HST.out⟩,Chg.refl _ _⟩
 case round =>
  obtain⟨i,d1,hi1,hi2,rfl,hl1,hRw,hSm,hSo,hc⟩:=hrel;have HRw:=kf hRw;have HCw:=kf hc;clear hRw hc;by_cases hlt:i<b
  ·go_wp2_with fail;go_loopw [9] (fun v wr2=>∃ j:Nat,∃ d2:List Int,a<=j/\j<=i/\v=.int .i64 j/\d2.length=N/\Row wr2 gs cap d2/\Hid (Same d d2 a b)/\Hid (v8h key d2 a i j/\Same d1 d2 a (i+1)/\d2.getD j 0=d1.getD i 0/\∀ p,p<j->d2.getD p 0=d1.getD p 0)/\Chg (fun i=>i=gs) w wr2) (fun v _=>(intOf v).toNat)
   case atStart=>exact⟨i,d1,by omega,by omega,rfl,hl1,HRw.out,hSm.out,⟨y4u (hSo.out.1 i (Nat.le_refl _) (by omega)),Same.refl _ _ _,rfl,fun _ _=>rfl⟩,HCw.out⟩
   case round =>
    obtain⟨j,d2,hj1,hj2,rfl,hl2,hR2,hS2,hH,hc2⟩:=hrel;have HR2:=kf hR2;have HC2:=kf hc2;clear hR2 hc2;by_cases hja:a<j
    ·obtain⟨j',hj'⟩:∃ j',j=j'+1:=⟨j-1,by omega⟩
     have e1:((j:Int)-1)=(j':Int):=by omega
     have k1:=HR2.out.cell j (by omega);have k2:=HR2.out.cell j' (by omega);have f1:=HR2.out.frozen j;have f2:=HR2.out.frozen j';have g2:=HG.out.same hS2.out;have hcl:=kf (fun n=>z7v (n:=n) (hcmp (d2.getD j 0) (d2.getD j' 0) (wr.drewN n) (g2.get j (by omega)).1 (g2.get j (by omega)).2 (g2.get j' (by omega)).1 (g2.get j' (by omega)).2 ((HCH.out.trans HC2.out (fun _ _ h=>h)).drewN n)));have hja':(a:Int)<j:=by omega
     have b1:(j:Int)<N:=by omega
     have b2:(j':Int)<N:=by omega
     obtain⟨x,hx⟩:∃ x,x=d2.getD j 0:=⟨_,rfl⟩
     obtain⟨y,hy⟩:∃ y,y=d2.getD j' 0:=⟨_,rfl⟩
     rw [<- hx] at k1 hcl;rw [<- hy] at k2 hcl;have hcv:=y0q HKK.out hSo.out.2 (HG.out.same hSm.out) (show j'<i by omega) (by omega);rw [<- hH.out.2.2.1,<- hH.out.2.2.2 j' (by omega),<- hx,<- hy] at hcv;have HX:=kf hx;have HY:=kf hy;have HJ:=kf hj';clear hx hy hj' g2;obtain⟨cv,hcv0⟩:∃ cv,cv=cmpv (key0 x) (key0 y):=⟨_,rfl⟩
     rw [<- hcv0] at hcl hcv;clear hcv0;by_cases hxy:key x<key y
     ·have hd:decide (cv<0)=true:=by rw [hcv];simpa using hxy
      have HXY:=kf hxy;clear hcv hxy;go_upto_region 4 with fail;go_quiet ((go_at_fn g;exact hcl.out _));go_upto_region 6 with fail;have hR3:=HR2.out.drewN nq;have hC3:=HC2.out.drewN nq;have k1':=hR3.cell j (by omega);have k2':=hR3.cell j' (by omega);have f1':=hR3.frozen j;have f2':=hR3.frozen j';rw [<- HX.out] at k1';rw [<- HY.out] at k2';clear k1 k2 f1 f2;generalize wr.drewN nq=wq at *;have HR3:=kf hR3;have HC3:=kf hC3;clear hR3 hC3;go_region
      go_wp2_with fail;go_roundw
      case rel =>
       have hkk:=HJ.out;subst hkk;have hsw:=HR3.out.swap (j'+1) j';rw [<- HX.out,<- HY.out] at hsw;refine⟨j',z48 d2 (j'+1) j',by omega,by omega,by go_num,by rw [z31];exact hl2,hsw.drew,hS2.out.trans (Same.swap d2 a b (j'+1) j' (by omega) (by omega) (by omega)),⟨y7x hH.out.1 (by omega) hj2 (by omega) (by have:=HXY.out;rw [HX.out,HY.out] at this;exact this),hH.out.2.1.trans (Same.swap d2 a (i+1) (j'+1) j' (by omega) (by omega) (by omega)),by rw [z0z d2 _ _ _ (by omega) (by omega),if_pos rfl];exact hH.out.2.2.1,fun p hp=>by rw [z0z d2 _ _ p (by omega) (by omega),if_neg (by omega),if_neg (by omega)];exact hH.out.2.2.2 p (by omega)⟩,((HC3.out.setCell (p:=⟨gs,j'+1,none⟩) (fun _=>rfl) _).setCell (p:=⟨gs,j',none⟩) (fun _=>rfl) _).drew⟩
      case measure=>simp [intOf];have:=HJ.out;omega
     ·have hd:decide (cv<0)=false:=by rw [hcv];simpa using hxy
      have HXY:=kf hxy;clear hcv hxy;go_upto_region 4 with fail;go_quiet ((go_at_fn g;exact hcl.out _));go_wp2_with fail;go_roundw
      case rel =>
       have hso:=y0f hH.out.1 hj1 hj2 (.inr (by have h4:=HXY.out;rw [HX.out,HY.out] at h4;rw [show j-1=j' from by have:=HJ.out;omega];omega));exact⟨i+1,d2,by omega,by omega,by go_num,hl2,HR2.out.drewN nq,hS2.out,⟨fun e h1 h2=>hso.part (Nat.le_refl _) h1,hSo.out.2.same HKK.out hH.out.2.1 (by omega) (HG.out.same hS2.out).get hso⟩,HC2.out.drewN nq⟩
      case measure=>simp [intOf];omega
    ·have hja':decide ((a:Int)<j)=false:=by simp;omega
     have HAJ:=kf (show j=a by omega);go_upto_region 4 with fail;go_quiet (fail);go_wp2_with fail;go_roundw
     case rel =>
      have hso:=y0f hH.out.1 hj1 hj2 (.inl HAJ.out);exact⟨i+1,d2,by omega,by omega,by go_num,hl2,HR2.out.drewN nq,hS2.out,⟨fun e h1 h2=>hso.part (Nat.le_refl _) h1,hSo.out.2.same HKK.out hH.out.2.1 (by omega) (HG.out.same hS2.out).get hso⟩,HC2.out.drewN nq⟩
     case measure=>simp [intOf];omega
  ·go_wp2_with fail;go_end0;exact⟨rfl,d1,HRw.out,hSm.out,hSo.out.1 b (by omega) (Nat.le_refl _),HCw.out⟩
end Go.Proofs.YtnhlalkeaaiefaaGreatDoor.PS
