import Derived.Test.YtmibnkddappgiaaGreatDoorK15
import Derived.Test.YtmibnkddappgiaaGreatDoorK20
import Derived.Test.YtmibnkddappgiaaGreatDoorK21
set_option linter.unusedVariables false
set_option maxHeartbeats 64000000
set_option maxRecDepth 100000
set_option linter.unusedSimpArgs false
namespace Go.Proofs.YtmibnkddappgiaaGreatDoor
theorem y8y (last:Bool) (p c:Nat) (l:List Nat):(z2t last p c l).2.kind<=6:=by
 have hno:∀ e:Int,((e,noT p):Int × Tkn).2.kind<=6:=fun _=>Nat.zero_le _;unfold z2t;by_cases h1:c=91
 ·rw [if_pos h1];simp
 rw [if_neg h1];by_cases h2:c=93
 ·rw [if_pos h2];simp
 rw [if_neg h2];by_cases h3:c=60/\l.head?=some 60
 ·rw [if_pos h3];simp
 rw [if_neg h3];by_cases h4:c=62/\l.head?=some 62
 ·rw [if_pos h4];simp
 rw [if_neg h4];by_cases h5:c=62/\l=[]/\last=false
 ·rw [if_pos h5];exact hno _
 rw [if_neg h5];by_cases h6:c=60
 ·rw [if_pos h6];split
  ·exact hno _
  ·simp
 rw [if_neg h6];by_cases h7:c=40
 ·rw [if_pos h7];split
  ·exact hno _
  ·simp
 rw [if_neg h7];by_cases h8:c=47
 ·rw [if_pos h8];split
  ·exact hno _
  ·split
   ·exact hno _
   ·simp
 rw [if_neg h8];by_cases h9:z6b c=true
 ·rw [if_pos h9];exact hno _
 rw [if_neg h9];by_cases h10:rgs l=l.length/\last=false
 ·rw [if_pos h10];exact hno _
 rw [if_neg h10];by_cases h11:y6y c=true
 ·rw [if_pos h11];split
  ·exact hno _
  ·simp
 ·rw [if_neg h11];simp
theorem y0f (bs:List Nat) (p:Nat) (last:Bool):(z0i bs p last).2.kind<=6:=by
 unfold z0i;split
 ·simp [noT]
 ·exact y8y _ _ _ _
theorem v5a (last:Bool) (l:List Nat):(z3w last l).2.1.toList.length<=1:=by
 cases (z3w last l).2.1<;>simp
theorem y8x (last:Bool):∀ (n:Nat) (l:List Nat) (deep:Nat) (out:List Nat) (p:Nat),l.length<=n->(z13 last deep out p l).2.1.length<=out.length+l.length:=by
 intro n;induction n with
 |zero =>
  intro l deep out p hn;obtain rfl:l=[]:=List.length_eq_zero_iff.1 (by omega);rw [z2d];exact Nat.zero_le _
 |succ n ih =>
  intro l deep out p hn;cases l with
  |nil=>rw [z2d];exact Nat.zero_le _
  |cons c l =>
   have hl:l.length<=n:=by simp only [List.length_cons] at hn;omega
   simp only [List.length_cons];rw [z15];have he:=v5a last l;have h1:∀ x:Nat,(out++[x]).length=out.length+1:=fun x=>by simp
   split
   ·split
    ·exact Nat.zero_le _
    ·have:=ih (l.drop (z3w last l).2.2) deep (out++(z3w last l).2.1.toList) (p+1+(z3w last l).2.2) (by rw [List.length_drop];omega);rw [List.length_append,List.length_drop] at this;omega
   ·split
    ·split
     ·exact Nat.zero_le _
     ·split
      ·have:=ih (l.drop 1) deep (out++[10]) (p+2) (by rw [List.length_drop];omega);rw [h1,List.length_drop] at this;omega
      ·have:=ih l deep (out++[10]) (p+1) hl;rw [h1] at this;omega
    ·split
     ·have:=ih l (deep+1) (out++[40]) (p+1) hl;rw [h1] at this;omega
     ·split
      ·split
       ·show out.length<=_;omega
       ·have:=ih l (deep-1) (out++[41]) (p+1) hl;rw [h1] at this;omega
      ·have:=ih l deep (out++[c]) (p+1) hl;rw [h1] at this;omega
theorem y0c:∀ ds:List Nat,(z42 ds).length<=ds.length
 |[]=>Nat.le_refl _
 |[a]=>Nat.le_refl _
 |a::b::l=>by
  have:=y0c l;rw [z42,List.length_cons,List.length_cons,List.length_cons];omega
theorem v0o (last:Bool):∀ (l ds:List Nat) (p:Nat),(z2l last ds p l).2.1.length<=ds.length+l.length:=by
 intro l;induction l with
 |nil=>intro ds p;exact Nat.zero_le _
 |cons c l ih =>
  intro ds p;simp only [z2l,List.length_cons];split
  ·have:=y0c ds;simp only [];omega
  ·split
   ·have:=ih ds (p+1);omega
   ·split
    ·exact Nat.zero_le _
    ·next d _ =>
     have:=ih (ds++[d]) (p+1);rw [List.length_append,List.length_singleton] at this;omega
theorem y1n:∀ (n:Nat) (l o:List Nat),l.length<=n->(∀ x∈l,x<256)->nameF l=some o->o.length<=l.length/\∀ x∈o,x<256:=by
 intro n;induction n with
 |zero =>
  intro l o hn hb h;obtain rfl:l=[]:=List.length_eq_zero_iff.1 (by omega);simp [nameF] at h;subst h;exact⟨Nat.le_refl _,fun x hx=>by cases hx⟩
 |succ n ih =>
  intro l o hn hb h;match l,hn,hb,h with
  |[],_,_,h =>
   simp [nameF] at h;subst h;exact⟨Nat.le_refl _,fun x hx=>by cases hx⟩
  |[c],hn,hb,h =>
   unfold nameF at h;by_cases hc:c≠35
   ·rw [if_pos hc] at h;simp [nameF] at h;subst h;exact⟨Nat.le_refl _,fun x hx=>hb x hx⟩
   ·rw [if_neg hc] at h;cases h
  |[c,x],hn,hb,h =>
   unfold nameF at h;by_cases hc:c≠35
   ·rw [if_pos hc] at h;obtain⟨o',h1,h2⟩:=Option.map_eq_some_iff.1 h;obtain⟨h3,h4⟩:=ih [x] o' (by simp only [List.length_cons] at hn ⊢;omega) (fun z hz=>hb z (List.mem_cons_of_mem _ hz)) h1;subst h2;refine⟨by simp only [List.length_cons] at h3 ⊢;omega,fun z hz=>?_⟩;rcases List.mem_cons.1 hz with rfl|hz
    ·exact hb _ (List.mem_cons_self ..)
    ·exact h4 z hz
   ·rw [if_neg hc] at h;cases h
  |c::x::y::m,hn,hb,h =>
   unfold nameF at h;by_cases hc:c≠35
   ·rw [if_pos hc] at h;obtain⟨o',h1,h2⟩:=Option.map_eq_some_iff.1 h;obtain⟨h3,h4⟩:=ih (x::y::m) o' (by simp only [List.length_cons] at hn ⊢;omega) (fun z hz=>hb z (List.mem_cons_of_mem _ hz)) h1;subst h2;refine⟨by simp only [List.length_cons] at h3 ⊢;omega,fun z hz=>?_⟩;rcases List.mem_cons.1 hz with rfl|hz
    ·exact hb _ (List.mem_cons_self ..)
    ·exact h4 z hz
   ·rw [if_neg hc] at h;simp only [] at h;cases hx:z3q x with
    |none=>rw [hx] at h;cases h
    |some a =>
     cases hy:z3q y with
     |none=>rw [hx,hy] at h;cases h
     |some b =>
      rw [hx,hy] at h;simp only [] at h;obtain⟨o',h1,h2⟩:=Option.map_eq_some_iff.1 h;obtain⟨h3,h4⟩:=ih m o' (by simp only [List.length_cons] at hn;omega) (fun z hz=>hb z (by simp [hz])) h1;subst h2;have ha:=y1s hx;have hbb:=y1s hy;refine⟨by simp only [List.length_cons];omega,fun z hz=>?_⟩;rcases List.mem_cons.1 hz with rfl|hz
      ·omega
      ·exact h4 z hz
def v5y (N:Nat) (t:Tkn):Prop:=t.vs.length<=N/\((t.vk=4/\t.vn=0)\/(t.vk=5/\t.vn=0/\z1w (sb t.vs))\/(t.vk=2/\t.vs=[]/\t.vn.natAbs<=2147483647)\/(t.vk=3/\t.vs=[]/\t.vn.natAbs<=2147483647*1000000))
theorem v39 (last:Bool) (p c:Nat) (l:List Nat) (hb:∀ x∈l,x<256) (h:(z2t last p c l).1=0) (hk:(z2t last p c l).2.kind=1):v5y l.length (z2t last p c l).2:=by
 unfold z2t at h hk ⊢;by_cases h1:c=91
 ·rw [if_pos h1] at hk;cases hk
 rw [if_neg h1] at h hk ⊢;by_cases h2:c=93
 ·rw [if_pos h2] at hk;cases hk
 rw [if_neg h2] at h hk ⊢;by_cases h3:c=60/\l.head?=some 60
 ·rw [if_pos h3] at hk;cases hk
 rw [if_neg h3] at h hk ⊢;by_cases h4:c=62/\l.head?=some 62
 ·rw [if_pos h4] at hk;cases hk
 rw [if_neg h4] at h hk ⊢;by_cases h5:c=62/\l=[]/\last=false
 ·rw [if_pos h5] at h;cases h
 rw [if_neg h5] at h hk ⊢;by_cases h6:c=60
 ·rw [if_pos h6] at h hk ⊢;by_cases h9:(z2l last [] (p+1) l).1≠0
  ·rw [if_pos h9] at h;exact absurd h h9
  ·rw [if_neg h9];have:=v0o last l [] (p+1);exact⟨by simpa using this,.inl ⟨rfl,rfl⟩⟩
 rw [if_neg h6] at h hk ⊢;by_cases h7:c=40
 ·rw [if_pos h7] at h hk ⊢;by_cases h9:(z13 last 1 [] (p+1) l).1≠0
  ·rw [if_pos h9] at h;exact absurd h h9
  ·rw [if_neg h9];have:=y8x last _ l 1 [] (p+1) (Nat.le_refl _);exact⟨by simpa using this,.inl ⟨rfl,rfl⟩⟩
 rw [if_neg h7] at h hk ⊢;have hrl:=y5s l;by_cases h8:c=47
 ·rw [if_pos h8] at h hk ⊢;by_cases h9:rgs l=l.length/\last=false
  ·rw [if_pos h9] at h;cases h
  rw [if_neg h9] at h hk ⊢;by_cases h10:(z5l (l.take (rgs l))).1≠0
  ·rw [if_pos h10] at h;exact absurd h h10
  rw [if_neg h10];unfold z5l at h10 ⊢;cases hn:nameF (l.take (rgs l)) with
  |none=>rw [hn] at h10;exact absurd (by decide) h10
  |some o =>
   rw [hn] at h10;simp only [] at h10 ⊢;by_cases h11:0∈o\/127<o.length
   ·rw [if_pos h11] at h10;exact absurd (by decide) h10
   rw [if_neg h11];obtain⟨h12,h13⟩:=y1n _ _ o (Nat.le_refl _) (fun x hx=>hb x (List.mem_of_mem_take hx)) hn;rw [List.length_take] at h12;refine⟨by simp only [];omega,.inr (.inl ⟨rfl,rfl,?_⟩)⟩;simp only [];refine⟨fun d hd=>?_,by rw [z0k];omega⟩;rw [z8j o h13] at hd;intro e;subst e;exact h11 (.inl hd)
 rw [if_neg h8] at h hk ⊢;by_cases h9:z6b c=true
 ·rw [if_pos h9] at h;cases h
 rw [if_neg h9] at h hk ⊢;by_cases h10:rgs l=l.length/\last=false
 ·rw [if_pos h10] at h;cases h
 rw [if_neg h10] at h hk ⊢;by_cases h11:y6y c=true
 ·rw [if_pos h11] at h hk ⊢;by_cases h12:(z0o ((c::l).take (rgs l+1))).1≠0
  ·rw [if_pos h12] at h;exact absurd h h12
  rw [if_neg h12];obtain⟨k,x,hx⟩:∃ k x,z0o ((c::l).take (rgs l+1))=(0,k,x):=⟨_,_,by rw [<- Decidable.not_not.1 h12]⟩
  have:=y6j hx;rw [hx];refine⟨Nat.zero_le _,?_⟩;rcases this with⟨rfl,h⟩|⟨rfl,h⟩
  ·exact .inr (.inr (.inl ⟨rfl,rfl,h⟩))
  ·exact .inr (.inr (.inr ⟨rfl,rfl,h⟩))
 ·rw [if_neg h11] at hk;cases hk
theorem y36 (bs:List Nat) (p:Nat) (last:Bool) (hb:∀ x∈bs,x<256) (h:(z0i bs p last).1=0) (hk:(z0i bs p last).2.kind=1):v5y bs.length (z0i bs p last).2:=by
 unfold z0i at h hk ⊢;cases hc:bs.drop (p+skp false (bs.drop p)) with
 |nil=>rw [hc] at hk;cases hk
 |cons c l =>
  rw [hc] at h hk;simp only [] at h hk ⊢;have hlen:=congrArg List.length hc;rw [List.length_drop,List.length_cons] at hlen;have h1:=v39 last _ c l (fun x hx=>hb x (List.mem_of_mem_drop (by rw [hc];exact List.mem_cons_of_mem _ hx))) h hk;exact⟨by have:=h1.1;omega,h1.2⟩
theorem y3x {N:Nat} {t:Tkn} (h:v5y N t):z0e (y4x t)=0/\z07 (y4x t)=1/\z1h (y4x t)=1:=by
 obtain⟨_,h⟩:=h;have hnil:∀ {vs:List Nat},vs=[]->(sb vs).size=0:=fun {vs} e=>by rw [e];rfl
 unfold y4x;refine⟨?_,?_,by rw [z0f];rfl⟩
 ·rw [z0x];rcases h with⟨h1,h2⟩|⟨h1,h2,h3⟩|⟨h1,h2,h3⟩|⟨h1,h2,h3⟩
  ·have h0:z0b 4 0 (sb t.vs) []=0:=by rw [z5h];exact if_pos ⟨rfl,rfl⟩
   rw [h1,h2,show((4:Nat):Int)=4 from rfl,h0,if_neg (by decide),if_neg (by decide)]
  ·have h0:z0b 5 0 (sb t.vs) []=0:=by rw [z2i,if_neg (fun h=>h h3)];exact if_pos ⟨rfl,rfl⟩
   rw [h1,h2,show((5:Nat):Int)=5 from rfl,h0,if_neg (by decide),if_neg (by decide)]
  ·have h0:z0b 2 t.vn (sb t.vs) []=0:=by rw [y0d];exact if_pos ⟨hnil h2,rfl,.inl ⟨rfl,by omega,by omega⟩⟩
   rw [h1,show((2:Nat):Int)=2 from rfl,h0,if_neg (by decide),if_neg (by decide)]
  ·have h0:z0b 3 t.vn (sb t.vs) []=0:=by rw [y1h];exact if_pos ⟨hnil h2,rfl,.inr ⟨rfl,by omega,by omega⟩⟩
   rw [h1,show((3:Nat):Int)=3 from rfl,h0,if_neg (by decide),if_neg (by decide)]
 ·rw [z07,if_neg];rcases h with⟨h1,_⟩|⟨h1,_⟩|⟨h1,_⟩|⟨h1,_⟩<;>rw [h1]<;>decide
noncomputable def z4i (bs:List Nat) (last:Bool) (p:Int) (st:List (Int × List VT)):Int × VT × Nat:=if p<0\/(bs.length:Int)<p then(2,z1i,0) else y11 bs last p.toNat st
theorem z9d {bs:List Nat} {last:Bool} {r:Int × Tkn} {st:List (Int × List VT)} (h:r.1≠0):z32 bs last r st=.done r.1 z1i 0:=by unfold z32;rw [if_pos h]
theorem z0q {bs:List Nat} {last:Bool} {p:Int} {st:List (Int × List VT)} {er:Int} {v:VT} {tz:Nat} (h:z32 bs last (z0a bs p last) st=.done er v tz):z4i bs last p st=(er,v,tz):=by
 unfold z4i;unfold z0a at h;by_cases hp:p<0\/(bs.length:Int)<p
 ·rw [if_pos hp] at h ⊢;rw [z9d (by decide)] at h;cases h
  rfl
 ·rw [if_neg hp] at h ⊢;exact z4h h
theorem z1k {bs:List Nat} {last:Bool} {p:Int} {q:Nat} {st st':List (Int × List VT)} (h:z32 bs last (z0a bs p last) st=.next q st'):z4i bs last p st=z4i bs last (q:Nat) st'/\p<q/\q<=bs.length/\0<=p:=by
 unfold z4i;unfold z0a at h;by_cases hp:p<0\/(bs.length:Int)<p
 ·rw [if_pos hp,z9d (by decide)] at h;cases h
 ·rw [if_neg hp] at h ⊢;have hq:=z6i (by omega) h;rw [if_neg (by omega),z8k h hq,Int.toNat_natCast];exact⟨rfl,by omega,hq.2,by omega⟩
open Go.RowKit
def z14 (r:Int × Tkn):Int × Tkn:=if r.1=0/\r.2.kind=0 then(10,noT 0) else r
theorem z8n (bs:List Nat) (A:Option Addr) (c:Nat) (p:Int) (last:Bool) (w:World) (hS:Src w 1 A bs.length c (z09 bs)) (hl:bs.length<=400000) (hc:bs.length<=c) (hb:∀ x∈bs,x<256) :
  Calls Tryz.prog 72 #[.slice A bs.length c,.int .i64 p,.bool last] w (y8m w (z14 (z0a bs p last))):=by
 have HNX:=kf (fun W (hW:Chg NoS w W)=>y0a bs A c p last W (Src.below (w0:=w) hS hW) hl hc hb);obtain⟨n,hn⟩:∃ n,n=bs.length:=⟨_,rfl⟩
 obtain⟨R,hR⟩:∃ R,R=z0a bs p last:=⟨_,rfl⟩
 rw [<- hR,<- hn] at HNX;rw [<- hR,<- hn];obtain⟨er,t⟩:=R;obtain⟨tk,tf,tt_,tvk,tvn,tvs,ts⟩:=t;unfold y8m z9l at HNX ⊢;simp only [] at HNX;have HZ0:=kf (fun(r:Int × Tkn) (h:z14 (er,⟨tk,tf,tt_,tvk,tvn,tvs,ts⟩)=r)=>h);obtain⟨S6,hS6⟩:∃ S6,S6=sb tvs:=⟨_,rfl⟩
 obtain⟨S7,hS7⟩:∃ S7,S7=sb ts:=⟨_,rfl⟩
 rw [<- hS6,<- hS7] at HNX;have HS6:=kf hS6;have HS7:=kf hS7;have HB0:=kf (Blk.new w 111 #[.int .i64 0,.int .i64 0,.int .i64 0,.int .i64 0,.int .i64 0,.string ⟨#[]⟩,.slice none 0 0,.string ⟨#[]⟩]);have HC0:=kf ((Chg.refl NoS w).alloc (.cells #[.int .i64 0,.int .i64 0,.int .i64 0,.int .i64 0,.int .i64 0,.string ⟨#[]⟩,.slice none 0 0,.string ⟨#[]⟩] 111));clear hS hb hR hn hS6 hS7 hl hc;by_cases he:er=0
 ·subst he;by_cases hk:tk=0
  ·subst hk;have HZ:=kf (HZ0.out (10,noT 0) (if_pos ⟨rfl,rfl⟩));clear HZ0;go_enter Tryz.func72,Tryz.ntmps72;go_upto_region 2 with(go_at_call 74;refine(HNX.out _ HC0.out).mono ?_;rintro e w3 ⟨rfl,hc3⟩;have HC3:=kf hc3;clear hc3);have HB6:=kf ((HB0.out.chg HC3.out (fun e=>e)).alloc (.cells #[.int .i64 0,.int .i64 (tf:Nat),.int .i64 (tt_:Nat),.int .i64 (tvk:Nat),.int .i64 tvn,.string S6,.slice none 0 0,.string S7] 111));have HB8:=kf (Blk.new w3 111 #[.int .i64 0,.int .i64 (tf:Nat),.int .i64 (tt_:Nat),.int .i64 (tvk:Nat),.int .i64 tvn,.string S6,.slice none 0 0,.string S7]);have HC4:=kf ((HC0.out.trans HC3.out (fun _ _ e=>e)).alloc (.cells #[.int .i64 0,.int .i64 (tf:Nat),.int .i64 (tt_:Nat),.int .i64 (tvk:Nat),.int .i64 tvn,.string S6,.slice none 0 0,.string S7] 111));obtain⟨W4,hW4⟩:∃ W4,W4=w3.alloc (.cells #[.int .i64 0,.int .i64 (tf:Nat),.int .i64 (tt_:Nat),.int .i64 (tvk:Nat),.int .i64 tvn,.string S6,.slice none 0 0,.string S7] 111):=⟨_,rfl⟩
   obtain⟨g8,hg8⟩:∃ g8,g8=w3.heap.size:=⟨_,rfl⟩
   rw [<- hW4] at HB6 HB8 HC4 ⊢;rw [<- hg8] at HB8 ⊢;obtain⟨g6,hg6⟩:∃ g6,g6=w.heap.size:=⟨_,rfl⟩
   rw [<- hg6] at HB6 ⊢;have hge6:w.heap.size<=g6:=by omega
   obtain⟨q0,q1,q2,q3,q4,q5,q6,q7,y0,y1,y2,y3,y4,y5,y6,y7⟩:=HB8.out.cl8;obtain⟨r0,r1,r2,r3,r4,r5,r6,r7,z0,z1,z2,z3,z4,z5,z6,z7⟩:=HB6.out.cl8;clear hW4 hg6 hg8 HB0 HC0 HC3 HB6 HB8 HNX;go_wp2_with fail;refine bodyPost_ret (v:=.tuple #[.agg #[.int .i64 0,.int .i64 0,.int .i64 0,.int .i64 0,.int .i64 0,.string ⟨#[]⟩,.slice none 0 0,.string ⟨#[]⟩],.int .i64 10]) (by simp [results,Tryz.results72,go_sem,r0,r1,r2,r3,r4,r5,r6,r7]) rfl ?_;refine⟨by rw [HZ.out];rfl,?_⟩;exact Chg.newc hge6 (Chg.newc hge6 (Chg.newc hge6 (Chg.newc hge6 (Chg.newc hge6 (Chg.newc hge6 (Chg.newc hge6 (Chg.newc hge6 HC4.out)))))))
  ·have HZ:=kf (HZ0.out _ (if_neg (fun h=>hk h.2)));have e1:((tk:Int)==0)=false:=by simp;omega
   have e2:(tk==0)=false:=by simp;omega
   clear HZ0 hk;go_enter Tryz.func72,Tryz.ntmps72;go_upto_region 2 with(go_at_call 74;refine(HNX.out _ HC0.out).mono ?_;rintro e w3 ⟨rfl,hc3⟩;have HC3:=kf hc3;clear hc3);have HB6:=kf ((HB0.out.chg HC3.out (fun e=>e)).alloc (.cells #[.int .i64 (tk:Nat),.int .i64 (tf:Nat),.int .i64 (tt_:Nat),.int .i64 (tvk:Nat),.int .i64 tvn,.string S6,.slice none 0 0,.string S7] 111));have HB8:=kf (Blk.new w3 111 #[.int .i64 (tk:Nat),.int .i64 (tf:Nat),.int .i64 (tt_:Nat),.int .i64 (tvk:Nat),.int .i64 tvn,.string S6,.slice none 0 0,.string S7]);have HC4:=kf ((HC0.out.trans HC3.out (fun _ _ e=>e)).alloc (.cells #[.int .i64 (tk:Nat),.int .i64 (tf:Nat),.int .i64 (tt_:Nat),.int .i64 (tvk:Nat),.int .i64 tvn,.string S6,.slice none 0 0,.string S7] 111));obtain⟨W4,hW4⟩:∃ W4,W4=w3.alloc (.cells #[.int .i64 (tk:Nat),.int .i64 (tf:Nat),.int .i64 (tt_:Nat),.int .i64 (tvk:Nat),.int .i64 tvn,.string S6,.slice none 0 0,.string S7] 111):=⟨_,rfl⟩
   obtain⟨g8,hg8⟩:∃ g8,g8=w3.heap.size:=⟨_,rfl⟩
   rw [<- hW4] at HB6 HB8 HC4 ⊢;rw [<- hg8] at HB8 ⊢;obtain⟨g6,hg6⟩:∃ g6,g6=w.heap.size:=⟨_,rfl⟩
   rw [<- hg6] at HB6 ⊢;have hge6:w.heap.size<=g6:=by omega
   obtain⟨q0,q1,q2,q3,q4,q5,q6,q7,y0,y1,y2,y3,y4,y5,y6,y7⟩:=HB8.out.cl8;obtain⟨r0,r1,r2,r3,r4,r5,r6,r7,z0,z1,z2,z3,z4,z5,z6,z7⟩:=HB6.out.cl8;clear hW4 hg6 hg8 HB0 HC0 HC3 HB6 HB8 HNX;go_wp2_with fail;refine bodyPost_ret (v:=.tuple #[.agg #[.int .i64 (tk:Nat),.int .i64 (tf:Nat),.int .i64 (tt_:Nat),.int .i64 (tvk:Nat),.int .i64 tvn,.string S6,.slice none 0 0,.string S7],.int .i64 0]) (by simp [results,Tryz.results72,go_sem,r0,r1,r2,r3,r4,r5,r6,r7]) rfl ?_;refine⟨by rw [HZ.out];rw [HS6.out,HS7.out],?_⟩;exact Chg.newc hge6 (Chg.newc hge6 (Chg.newc hge6 (Chg.newc hge6 (Chg.newc hge6 (Chg.newc hge6 (Chg.newc hge6 (Chg.newc hge6 HC4.out)))))))
 ·have HZ:=kf (HZ0.out _ (if_neg (fun h=>he h.1)));have e1:(er==0)=false:=by simpa using he
  clear HZ0 he;go_enter Tryz.func72,Tryz.ntmps72;go_upto_region 2 with(go_at_call 74;refine(HNX.out _ HC0.out).mono ?_;rintro e w3 ⟨rfl,hc3⟩;have HC3:=kf hc3;clear hc3);have HB6:=kf ((HB0.out.chg HC3.out (fun e=>e)).alloc (.cells #[.int .i64 (tk:Nat),.int .i64 (tf:Nat),.int .i64 (tt_:Nat),.int .i64 (tvk:Nat),.int .i64 tvn,.string S6,.slice none 0 0,.string S7] 111));have HB8:=kf (Blk.new w3 111 #[.int .i64 (tk:Nat),.int .i64 (tf:Nat),.int .i64 (tt_:Nat),.int .i64 (tvk:Nat),.int .i64 tvn,.string S6,.slice none 0 0,.string S7]);have HC4:=kf ((HC0.out.trans HC3.out (fun _ _ e=>e)).alloc (.cells #[.int .i64 (tk:Nat),.int .i64 (tf:Nat),.int .i64 (tt_:Nat),.int .i64 (tvk:Nat),.int .i64 tvn,.string S6,.slice none 0 0,.string S7] 111));obtain⟨W4,hW4⟩:∃ W4,W4=w3.alloc (.cells #[.int .i64 (tk:Nat),.int .i64 (tf:Nat),.int .i64 (tt_:Nat),.int .i64 (tvk:Nat),.int .i64 tvn,.string S6,.slice none 0 0,.string S7] 111):=⟨_,rfl⟩
  obtain⟨g8,hg8⟩:∃ g8,g8=w3.heap.size:=⟨_,rfl⟩
  rw [<- hW4] at HB6 HB8 HC4 ⊢;rw [<- hg8] at HB8 ⊢;obtain⟨g6,hg6⟩:∃ g6,g6=w.heap.size:=⟨_,rfl⟩
  rw [<- hg6] at HB6 ⊢;have hge6:w.heap.size<=g6:=by omega
  obtain⟨q0,q1,q2,q3,q4,q5,q6,q7,y0,y1,y2,y3,y4,y5,y6,y7⟩:=HB8.out.cl8;obtain⟨r0,r1,r2,r3,r4,r5,r6,r7,z0,z1,z2,z3,z4,z5,z6,z7⟩:=HB6.out.cl8;clear hW4 hg6 hg8 HB0 HC0 HC3 HB6 HB8 HNX;go_wp2_with fail;refine bodyPost_ret (v:=.tuple #[.agg #[.int .i64 (tk:Nat),.int .i64 (tf:Nat),.int .i64 (tt_:Nat),.int .i64 (tvk:Nat),.int .i64 tvn,.string S6,.slice none 0 0,.string S7],.int .i64 er]) (by simp [results,Tryz.results72,go_sem,r0,r1,r2,r3,r4,r5,r6,r7]) rfl ?_;refine⟨by rw [HZ.out];rw [HS6.out,HS7.out],?_⟩;exact Chg.newc hge6 (Chg.newc hge6 (Chg.newc hge6 (Chg.newc hge6 (Chg.newc hge6 (Chg.newc hge6 (Chg.newc hge6 (Chg.newc hge6 HC4.out)))))))
theorem z3n:∀ a b:List VT,z1n (a++b)=z1n a+z1n b
 |[],b=>by rw [List.nil_append,z1n,Nat.zero_add]
 |t::a,b=>by rw [List.cons_append,z08,z08,z3n a b,Nat.add_assoc]
theorem y9c (key:ByteArray) (x:VT):∀ (n:Nat) (l:List VT),l.length<=n->z1n (z6c key x l)<=z1n l+1+z1h x:=by
 have hn:z1h (nmT key)=1:=by rw [nmT,z0f];rfl
 intro n;induction n with
 |zero =>
  intro l h;obtain rfl:l=[]:=List.length_eq_zero_iff.1 (by omega);rw [z6c,z08,z08,hn];omega
 |succ n ih =>
  intro l h;match l,h with
  |[],_ =>
   rw [z6c,z08,z08,hn];omega
  |[t],_ =>
   rw [z6c];split
   ·rw [z08,z08,hn];omega
   ·rw [z08,z08,z08,hn];simp only [z1n];omega
  |t::u::l,h =>
   rw [z6c];split
   ·rw [z08,z08,hn];omega
   ·rw [z08,z08,z08,z08];have:=ih l (by simp only [List.length_cons] at h;omega);omega
theorem z64 (l:List VT) (a:Nat):z1n l=z1n (l.take a)+z1n (l.drop a):=by rw [<- z3n,List.take_append_drop]
theorem y9b (key:ByteArray) (x:VT) (l:List VT):z1n (z9f key x l)<=z1n l+1+z1h x:=by
 unfold z9f;split
 ·next j _ =>
  unfold z58;rw [z3n,z08];have h1:=z64 l (2*j+1);have h2:=y5l (l.drop (2*j+1)) 1;rw [List.drop_drop,show 2*j+1+1=2*j+2 from rfl] at h2;omega
 ·exact y9c key x _ l (Nat.le_refl _)
theorem v3m (t:VT):1<=z1h t:=by
 obtain⟨k,n,s,l⟩:=t;rw [z0f];omega
theorem z9y (l:List VT):∀ m:Nat,2*m<=l.length->z1n (z71 (z3e l) (z34 l) (List.range m))<=z1n (l.take (2*m))
 |0,_=>by
  show z1n []<=_;rw [z1n];exact Nat.zero_le _
 |m+1,h=>by
  have ih:=z9y l m (by omega);rw [List.range_succ,z1q];have h1:=y9b (z3e l m) (z34 l m) (z71 (z3e l) (z34 l) (List.range m))
  have e:l.take (2*(m+1))=l.take (2*m)++[l[2*m],l[2*m+1]]:=by
   rw [show 2*(m+1)=2*m+1+1 by omega,List.take_add_one,List.take_add_one,List.getElem?_eq_getElem (show 2*m<l.length by omega),List.getElem?_eq_getElem (show 2*m+1<l.length by omega),List.append_assoc];rfl
  have hv:z34 l m=l[2*m+1]:=by
   unfold z34;rw [List.getElem?_eq_getElem (show 2*m+1<l.length by omega)];rfl
  rw [e,z3n,z08,z08,<- hv];have:=v3m l[2*m];simp only [z1n];omega
theorem y5k (l:List VT):z1n (z1p l)<=z1n l:=by
 rw [<- z6z];have h1:=z9y l (l.length / 2) (by omega);have h2:=z64 l (2*(l.length / 2));omega
theorem y3g {S:Nat->ByteArray} {V:Nat->VT}:∀ m:Nat,okD none (z71 S V (List.range m))
 |0=>trivial
 |m+1=>by
  rw [List.range_succ,z1q];exact v48 (y3g m)
theorem y0t {S:Nat->ByteArray} {V:Nat->VT} {t:VT}:∀ m:Nat,t∈z71 S V (List.range m)->∃ j,j<m/\(t=nmT (S j)\/t=V j)
 |0,h=>by cases h
 |m+1,h=>by
  rw [List.range_succ,z1q] at h;rcases v3z t h with h|h|h
  ·exact⟨m,by omega,.inl h⟩
  ·exact⟨m,by omega,.inr h⟩
  ·obtain⟨j,h1,h2⟩:=y0t m h;exact⟨j,by omega,h2⟩
theorem y6p {t:VT} (hk:t.kind=5) (h:z0e t=0):z1w t.str:=by
 obtain⟨k,n,s,l⟩:=t;have hk':k=5:=hk;subst hk';rw [z0x] at h;by_cases h1:z0b 5 n s l≠0
 ·rw [if_pos h1] at h;exact absurd h h1
 ·have h2:=Decidable.not_not.1 h1;rw [z2i] at h2;by_cases h3:z1w s
  ·exact h3
  ·rw [if_pos h3] at h2;exact absurd h2 (by decide)
theorem v11 {key:ByteArray} (h:z1w key):z0e (nmT key)=0:=by
 have h0:z0b 5 0 key []=0:=by rw [z2i,if_neg (fun h'=>h' h)];exact if_pos ⟨rfl,rfl⟩
 rw [nmT,z0x,h0,if_neg (by decide),if_neg (by decide)]
def y4f:List (Int × List VT)->Prop
 |[]=>True
 |(k,l)::r=>(k=6\/k=7)/\r.length+1<=64/\(∀ t∈l,z0e t=0/\z07 t+(r.length+1)<=64)/\(k=7->∀ j t,l[2*j]?=some t->t.kind=5)/\y4f r
def z9z:List (Int × List VT)->Nat
 |[]=>0
 |(_,l)::r=>z1n l+1+z9z r
theorem y8h {l:List VT} {D:Nat} (hD:D+1<=64) (hf:∀ t∈l,z0e t=0/\z07 t+(D+1)<=64):z0e (.mk 6 0 ⟨#[]⟩ l)=0/\z07 (.mk 6 0 ⟨#[]⟩ l)+D<=64:=by
 refine⟨?_,?_⟩
 ·have h0:z0b 6 0 ⟨#[]⟩ l=0:=by rw [z5g];exact if_pos ⟨rfl,rfl⟩
  rw [z0x,h0,if_neg (by decide),if_pos (.inl rfl)];exact firstL_zero.2 (fun t ht=>(hf t ht).1)
 ·have h1:=(z86 l 1 (64-D)).2 ⟨by omega,fun t ht=>by have:=(hf t ht).2;omega⟩;rw [z07,if_pos (.inl rfl)];omega
theorem v1o {l:List VT} {D:Nat} (hD:D+1<=64) (he:l.length%2=0) (hn:∀ j t,l[2*j]?=some t->t.kind=5) (hf:∀ t∈l,z0e t=0/\z07 t+(D+1)<=64):z0e (.mk 7 0 ⟨#[]⟩ (z1p l))=0/\z07 (.mk 7 0 ⟨#[]⟩ (z1p l))+D<=64:=by
 have hok:okD none (z1p l):=by rw [<- z6z];exact y3g _
 have hm:∀ t∈z1p l,z0e t=0/\z07 t+(D+1)<=64:=by
  intro t ht;rw [<- z6z] at ht;obtain⟨j,hj,h⟩:=y0t _ ht;have h1:2*j+1<l.length:=by omega
  rcases h with rfl|rfl
  ·have hk:z3e l j=l[2*j].str:=by unfold z3e;rw [List.getElem?_eq_getElem (show 2*j<l.length by omega)];rfl
   have hmem:=hf l[2*j] (List.getElem_mem _);rw [hk];refine⟨v11 (y6p (hn j _ (List.getElem?_eq_getElem _)) hmem.1),?_⟩;rw [v1q];have:=(z1m l[2*j]).1;omega
  ·have hv:z34 l j=l[2*j+1]:=by unfold z34;rw [List.getElem?_eq_getElem h1];rfl
   rw [hv];exact hf _ (List.getElem_mem _)
 refine⟨?_,?_⟩
 ·have h0:z0b 7 0 ⟨#[]⟩ (z1p l)=0:=by rw [z8t];exact y1y (y31 hok) (y6h hok) (v03 hok)
  rw [z0x,h0,if_neg (by decide),if_pos (.inr rfl)];exact firstL_zero.2 (fun t ht=>(hm t ht).1)
 ·have h1:=(z86 (z1p l) 1 (64-D)).2 ⟨by omega,fun t ht=>by have:=(hm t ht).2;omega⟩;rw [y4s];omega
theorem v40 {er:Int} {v:VT} {tz p:Nat} {st:List (Int × List VT)} (hm:y4f st) (hv:er=0->z0e v=0/\z07 v+st.length<=65/\(z07 v+st.length<=64\/z07 v=1)/\z1h v+z9z st<=p) (hp:p<=tz) :
  (∀ q st',z2v er v tz st=.next q st'->y4f st'/\z9z st'<=tz)/\(∀ v' to',z2v er v tz st=.done 0 v' to'->z0e v'=0/\z07 v'<=64/\z1h v'<=tz/\to'=tz/\er=0):=by
 unfold z2v;by_cases he:er≠0
 ·rw [if_pos he];exact⟨fun q st' h=>(by cases h),fun v' to' h=>(by cases h;exact absurd rfl he)⟩
 rw [if_neg he];obtain⟨h1,h2,h3,h4⟩:=hv (Decidable.not_not.1 he);have hez:=Decidable.not_not.1 he;match st,hm,h2,h3,h4 with
 |[],hm,h2,h3,h4 =>
  refine⟨fun q st' h=>(by cases h),fun v' to' h=>?_⟩;cases h
  simp only [z9z,List.length_nil] at h4 h3;exact⟨h1,by omega,by omega,rfl,hez⟩
 |(k,l)::r,hm,h2,h3,h4 =>
  simp only [];by_cases hr:z1v ((k,l)::r) v.kind≠0
  ·rw [if_pos hr];exact⟨fun q st' h=>(by cases h),fun v' to' h=>(by injection h with e1 _ _;exact absurd e1 hr)⟩
  rw [if_neg hr];have hr0:=Decidable.not_not.1 hr;refine⟨fun q st' h=>?_,fun v' to' h=>(by cases h)⟩;cases h
  obtain⟨m1,m2,m3,m4,m5⟩:=hm;unfold z1v at hr0;simp only [] at hr0;by_cases hc:k=7/\l.length%2=0/\v.kind≠5
  ·rw [if_pos hc] at hr0;cases hr0
  rw [if_neg hc] at hr0;by_cases h64:64<=r.length+1
  ·rw [if_pos h64] at hr0;cases hr0
  simp only [List.length_cons] at h2 h3;refine⟨⟨m1,m2,fun t ht=>?_,fun hk j t hj=>?_,m5⟩,?_⟩
  ·rcases List.mem_append.1 ht with ht|ht
   ·exact m3 t ht
   ·rw [List.mem_singleton.1 ht];exact⟨h1,by omega⟩
  ·by_cases hjl:2*j<l.length
   ·rw [List.getElem?_append_left hjl] at hj;exact m4 hk j t hj
   ·rw [List.getElem?_append_right (by omega)] at hj
    have hjj:2*j-l.length=0:=by
     have:=(List.getElem?_eq_some_iff.1 hj).1;simp at this;omega
    rw [hjj] at hj;simp at hj;subst hj;have he2:l.length%2=0:=by omega
    exact Decidable.not_not.1 (fun hn=>hc ⟨hk,he2,hn⟩)
  ·simp only [z9z] at h4 ⊢;rw [z3n,z08];simp only [z1n];omega
theorem v47 {kind:Int} {tz p:Nat} {st:List (Int × List VT)} (hk:kind=6\/kind=7) (hm:y4f st) (hs:z9z st<=p) (hp:p<tz) :
  (∀ q st',y12 kind tz st=.next q st'->y4f st'/\z9z st'<=tz)/\∀ v' to',y12 kind tz st≠.done 0 v' to':=by
 unfold y12;by_cases hr:z1v st kind≠0
 ·rw [if_pos hr];exact⟨fun q st' h=>(by cases h),fun v' to' h=>(by injection h with e1 _ _;exact absurd e1 hr)⟩
 rw [if_neg hr];refine⟨fun q st' h=>?_,fun v' to' h=>(by cases h)⟩;cases h
 have hr0:=Decidable.not_not.1 hr;refine⟨⟨hk,?_,fun t ht=>(by cases ht),fun _ j t hj=>(by simp at hj),hm⟩,by simp only [z9z,z1n];omega⟩;match st,hr0 with
 |[],_=>decide
 |(k,l)::r,hr0 =>
  unfold z1v at hr0;simp only [] at hr0;split at hr0
  ·cases hr0
  ·split at hr0
   ·cases hr0
   ·simp only [List.length_cons];omega
theorem y68 {kind:Int} {p:Nat} {st:List (Int × List VT)} (hm:y4f st) (hs:z9z st<=p) (h:(z8s st kind).1=0) :
  y4f st.tail/\z0e (z8s st kind).2=0/\z07 (z8s st kind).2+st.tail.length<=64/\z1h (z8s st kind).2+z9z st.tail<=p:=by
 match st,hm,hs,h with
 |[],_,_,h=>cases h
 |(k,l)::r,hm,hs,h =>
  obtain⟨m1,m2,m3,m4,m5⟩:=hm;simp only [z9z] at hs;unfold z8s at h ⊢;simp only [List.tail_cons] at h ⊢;by_cases h1:k≠kind
  ·rw [if_pos h1] at h;cases h
  rw [if_neg h1] at h ⊢;have hkk:=Decidable.not_not.1 h1;by_cases h2:kind=7
  ·rw [if_pos h2] at h ⊢;unfold z97 at h ⊢;by_cases h3:l.length%2≠0
   ·rw [if_pos h3] at h;cases h
   rw [if_neg h3] at h ⊢;by_cases h4:(z1p l).length<l.length
   ·rw [if_pos h4] at h;cases h
   rw [if_neg h4];simp only [];obtain⟨d1,d2⟩:=v1o (D:=r.length) m2 (by omega) (m4 (hkk.trans h2)) m3;have:=y5k l;exact⟨m5,d1,d2,by rw [z0f];omega⟩
  ·rw [if_neg h2];simp only []
   have hk6:k=6:=by
    rcases m1 with h|h
    ·exact h
    ·exact absurd (hkk.symm.trans h) h2
   subst hk6;obtain⟨d1,d2⟩:=y8h (D:=r.length) m2 m3;exact⟨m5,d1,d2,by rw [z0f];omega⟩
theorem y8q {s:List Nat} (h:(z7b s).1=0):z0e (z7b s).2=0/\z07 (z7b s).2=1/\z1h (z7b s).2=1:=by
 have key:∀ k n:Int,z0b k n ⟨#[]⟩ []=0->¬(k=6\/k=7)->z0e (.mk k n ⟨#[]⟩ [])=0/\z07 (.mk k n ⟨#[]⟩ [])=1/\z1h (.mk k n ⟨#[]⟩ [])=1:=fun k n h0 hk =>
  ⟨by rw [z0x,h0,if_neg (by decide),if_neg hk],by rw [z07,if_neg hk],by rw [z0f];rfl⟩
 unfold z7b at h ⊢;split at h
 ·next h1=>rw [if_pos h1];exact key 0 0 (by rw [z6s];exact if_pos ⟨rfl,rfl,rfl⟩) (by decide)
 ·next h1 =>
  rw [if_neg h1];split at h
  ·next h2=>rw [if_pos h2];exact key 1 0 (by rw [z4o];exact if_pos ⟨rfl,rfl,.inl rfl⟩) (by decide)
  ·next h2 =>
   rw [if_neg h2];split at h
   ·next h3=>rw [if_pos h3];exact key 1 1 (by rw [z4o];exact if_pos ⟨rfl,rfl,.inr rfl⟩) (by decide)
   ·cases h
theorem v3v {bs:List Nat} {last:Bool} {N:Nat} {t:Tkn} (h:v5y N t) (h0:(z3o bs last t).1=0):z0e (z3o bs last t).2.1=0/\z07 (z3o bs last t).2.1=1/\z1h (z3o bs last t).2.1=1:=by
 have ht:=y3x h;unfold z3o at h0 ⊢;split at h0
 ·next h1=>rw [if_pos h1];exact ht
 ·next h1 =>
  rw [if_neg h1];split at h0
  ·cases h0
  ·next h2 =>
   rw [if_neg h2];split at h0
   ·next h3=>rw [if_pos h3];exact ht
   ·next h3 =>
    rw [if_neg h3];split at h0
    ·cases h0
    ·next h4 =>
     rw [if_neg h4];simp only [];have ho:z0b 8 t.vn ⟨#[]⟩ []=0:=by rw [z5f];exact if_pos ⟨rfl,rfl,by omega,by omega⟩
     exact⟨by rw [z0x,ho,if_neg (by decide),if_neg (by decide)],by rw [z07,if_neg (by decide)],by rw [z0f];rfl⟩
theorem y2e {bs:List Nat} {last:Bool} {p:Nat} {st:List (Int × List VT)} (hb:∀ x∈bs,x<256) (hp:p<=bs.length) (hm:y4f st) (hs:z9z st<=p) :
  (∀ q st',z4e bs last p st=.next q st'->y4f st'/\z9z st'<=q)/\(∀ v to',z4e bs last p st=.done 0 v to'->z0e v=0/\z07 v<=64/\z1h v<=to'/\p<to'/\to'<=bs.length):=by
 have hlen:st.length<=64:=by
  match st,hm with
  |[],_=>exact Nat.zero_le _
  |(k,l)::r,hm=>exact hm.2.1
 have htl:st.tail.length+1<=64\/st=[]:=by
  match st,hlen with
  |[],_=>exact .inr rfl
  |x::r,h=>exact .inl h
 unfold z4e z32;rcases z1s bs p last hp with⟨h1,_⟩|⟨h1,h2,h3,h4⟩
 ·by_cases h0:(z0i bs p last).1≠0
  ·rw [if_pos h0];exact⟨fun q st' h=>(by cases h),fun v to' h=>(by injection h with e1 _ _;exact absurd e1 h0)⟩
  ·rw [if_neg h0,if_pos h1];exact⟨fun q st' h=>(by cases h),fun v to' h=>(by cases h)⟩
 rw [if_neg (by rw [h1];decide),if_neg h2]
 have fin:∀ {er:Int} {v:VT} {tz:Nat} {s2:List (Int × List VT)},p<tz->(er=0->tz<=bs.length)->y4f s2->(er=0->z0e v=0/\z07 v+s2.length<=65/\(z07 v+s2.length<=64\/z07 v=1)/\z1h v+z9z s2<=tz) ->
   (∀ q st',z2v er v tz s2=.next q st'->y4f st'/\z9z st'<=q)/\(∀ v' to',z2v er v tz s2=.done 0 v' to'->z0e v'=0/\z07 v'<=64/\z1h v'<=to'/\p<to'/\to'<=bs.length):=by
  intro er v tz s2 k1 k2 k3 k4;obtain⟨a1,a2⟩:=v40 (p:=tz) k3 k4 (Nat.le_refl _);refine⟨fun q st' h=>?_,fun v' to' h=>?_⟩
  ·rw [(y07 h).1];exact a1 q st' h
  ·obtain⟨b1,b2,b3,b4,b5⟩:=a2 v' to' h;rw [b4];exact⟨b1,b2,b3,k1,k2 b5⟩
 have opn:∀ {kind:Int},(kind=6\/kind=7)->(∀ q st',y12 kind (z0i bs p last).2.to st=.next q st'->y4f st'/\z9z st'<=q)/\(∀ v' to',y12 kind (z0i bs p last).2.to st=.done 0 v' to'->z0e v'=0/\z07 v'<=64/\z1h v'<=to'/\p<to'/\to'<=bs.length):=by
  intro kind hk;obtain⟨a1,a2⟩:=v47 hk hm hs h3;exact⟨fun q st' h=>by rw [y6g h];exact a1 q st' h,fun v' to' h=>absurd h (a2 v' to')⟩
 split
 ·exact opn (.inl rfl)
 split
 ·exact opn (.inr rfl)
 split
 ·refine fin h3 (fun _=>h4) ?_ (fun h=>?_)
  ·match st,hm with
   |[],_=>trivial
   |(k,l)::r,hm=>exact hm.2.2.2.2
  ·obtain⟨b1,b2,b3,b4⟩:=y68 hm hs h;exact⟨b2,by omega,.inl b3,by omega⟩
 split
 ·refine fin h3 (fun _=>h4) ?_ (fun h=>?_)
  ·match st,hm with
   |[],_=>trivial
   |(k,l)::r,hm=>exact hm.2.2.2.2
  ·obtain⟨b1,b2,b3,b4⟩:=y68 hm hs h;exact⟨b2,by omega,.inl b3,by omega⟩
 split
 ·refine fin h3 (fun _=>h4) hm (fun h=>?_);obtain⟨b1,b2,b3⟩:=y8q h;exact⟨b1,by omega,.inr b2,by omega⟩
 ·next k2 k4 k3 k5 k6 =>
  have hk:=y0f bs p last;have hk1:(z0i bs p last).2.kind=1:=by omega
  have hv:=y36 bs p last hb h1 hk1;by_cases h0:(z3o bs last (z0i bs p last).2).1=0
  ·have hto:=v2h h4 h0;refine fin (by omega) (fun _=>hto.2) hm (fun h=>?_);obtain⟨b1,b2,b3⟩:=v3v hv h0;exact⟨b1,by omega,.inr b2,by omega⟩
  ·unfold z2v;rw [if_pos h0];exact⟨fun q st' h=>(by cases h),fun v to' h=>(by injection h with e1 _ _;exact absurd e1 h0)⟩
theorem v3q {bs:List Nat} {last:Bool} (hb:∀ x∈bs,x<256):∀ (n p:Nat) (st:List (Int × List VT)),bs.length-p<=n->p<=bs.length->y4f st->z9z st<=p ->
  ((y11 bs last p st).1=0->z0e (y11 bs last p st).2.1=0/\z07 (y11 bs last p st).2.1<=64/\z1h (y11 bs last p st).2.1<=bs.length/\p<(y11 bs last p st).2.2/\(y11 bs last p st).2.2<=bs.length):=by
 intro n;induction n with
 |zero =>
  intro p st hn hp hm hs h;obtain⟨a1,a2⟩:=y2e (last:=last) hb hp hm hs;cases hst:z4e bs last p st with
  |done er v tz =>
   rw [z4h hst] at h ⊢;simp only [] at h;subst h;obtain⟨b1,b2,b3,b4,b5⟩:=a2 v tz hst;exact⟨b1,b2,by simp only [];omega,b4,b5⟩
  |next q st' =>
   have:=z6i hp hst;omega
 |succ n ih =>
  intro p st hn hp hm hs h;obtain⟨a1,a2⟩:=y2e (last:=last) hb hp hm hs;cases hst:z4e bs last p st with
  |done er v tz =>
   rw [z4h hst] at h ⊢;simp only [] at h;subst h;obtain⟨b1,b2,b3,b4,b5⟩:=a2 v tz hst;exact⟨b1,b2,by simp only [];omega,b4,b5⟩
  |next q st' =>
   have hq:=z6i hp hst;rw [z8k hst hq] at h ⊢;obtain⟨c1,c2⟩:=a1 q st' hst;have:=ih q st' (by omega) hq.2 c1 c2 h;exact⟨this.1,this.2.1,this.2.2.1,by omega,this.2.2.2.2⟩
theorem z66 {er e:Int} {v v':VT} {tz to':Nat} {st:List (Int × List VT)} (h:z2v er v tz st=.done e v' to') (he:e≠0):v'=z1i/\to'=0:=by
 unfold z2v at h;split at h
 ·cases h;exact⟨rfl,rfl⟩
 ·match st,h with
  |[],h=>cases h;exact absurd rfl he
  |(k,l)::r,h =>
   simp only [] at h;split at h
   ·cases h;exact⟨rfl,rfl⟩
   ·cases h
theorem z9r {bs:List Nat} {last:Bool} {p:Nat} {st:List (Int × List VT)} {e:Int} {v':VT} {to':Nat} (h:z4e bs last p st=.done e v' to') (he:e≠0):v'=z1i/\to'=0:=by
 unfold z4e z32 y12 at h;split at h
 ·cases h;exact⟨rfl,rfl⟩
 split at h
 ·cases h;exact⟨rfl,rfl⟩
 split at h
 ·split at h
  ·cases h;exact⟨rfl,rfl⟩
  ·cases h
 split at h
 ·split at h
  ·cases h;exact⟨rfl,rfl⟩
  ·cases h
 split at h
 ·exact z66 h he
 split at h
 ·exact z66 h he
 split at h
 ·exact z66 h he
 ·exact z66 h he
theorem y9g {bs:List Nat} {last:Bool}:∀ (n p:Nat) (st:List (Int × List VT)),bs.length-p<=n->p<=bs.length->(y11 bs last p st).1≠0->(y11 bs last p st).2.1=z1i/\(y11 bs last p st).2.2=0:=by
 intro n;induction n with
 |zero =>
  intro p st hn hp h;cases hst:z4e bs last p st with
  |done er v tz=>rw [z4h hst] at h ⊢;exact z9r hst h
  |next q st' =>
   have:=z6i hp hst;omega
 |succ n ih =>
  intro p st hn hp h;cases hst:z4e bs last p st with
  |done er v tz=>rw [z4h hst] at h ⊢;exact z9r hst h
  |next q st' =>
   have hq:=z6i hp hst;rw [z8k hst hq] at h ⊢;exact ih q st' (by omega) hq.2 h
theorem y9h {bs:List Nat} {last:Bool} {p:Int} (hb:∀ x∈bs,x<256) :
  ((z4i bs last p []).1≠0->(z4i bs last p []).2.1=z1i/\(z4i bs last p []).2.2=0) /\
  ((z4i bs last p []).1=0->z0w (z4i bs last p []).2.1=0/\z1h (z4i bs last p []).2.1<=bs.length/\p<(z4i bs last p []).2.2/\(z4i bs last p []).2.2<=bs.length):=by
 unfold z4i;by_cases hp:p<0\/(bs.length:Int)<p
 ·rw [if_pos hp];exact⟨fun _=>⟨rfl,rfl⟩,fun h=>(by cases h)⟩
 ·rw [if_neg hp];refine⟨fun h=>y9g _ _ _ (Nat.le_refl _) (by omega) h,fun h=>?_⟩;obtain⟨a1,a2,a3,a4,a5⟩:=v3q hb _ p.toNat [] (Nat.le_refl _) (by omega) trivial (Nat.zero_le _) h;exact⟨by unfold z0w;rw [if_neg (by omega),a1],a3,by omega,a5⟩
abbrev FS:=Int × Int
def z2w (bs:List Nat) (a:Int) (last:Bool):Int × FS :=
 if (z14 (z0a bs a last)).1≠0 then(0,0,(z14 (z0a bs a last)).1) else if (z14 (z0a bs a last)).2.vk≠2 then(0,0,11) else((z14 (z0a bs a last)).2.vn,((z14 (z0a bs a last)).2.to:Nat),0)
def z6n (bs:List Nat) (a:Int) (last:Bool) (S:ByteArray):FS :=
 if (z14 (z0a bs a last)).1≠0 then(0,(z14 (z0a bs a last)).1) else if (z14 (z0a bs a last)).2.kind≠6\/sb (z14 (z0a bs a last)).2.s≠S then(0,11) else(((z14 (z0a bs a last)).2.to:Nat),0)
def v2b (bs:List Nat) (last:Bool) (S:ByteArray) (s:FS):FS:=if s.2≠0 then s else z6n bs s.1 last S
noncomputable def z3x (bs:List Nat) (last:Bool) (s:FS):VT × FS:=if s.2≠0 then(z1i,s) else((z4i bs last s.1 []).2.1,((z4i bs last s.1 []).2.2:Nat),(z4i bs last s.1 []).1)
def y7x (last:Bool):Int:=if last then 10 else 6
def z2k (bs:List Nat) (last:Bool) (n:Int) (s:FS):List Nat × FS :=
 if s.2≠0 then([],s) else if (bs.length:Int)-s.1<n then([],s.1,y7x last) else((bs.drop s.1.toNat).take n.toNat,s.1+n,0)
def z5r (n:Nat) (s:FS):Prop:=s.2≠0\/0<=s.1/\s.1<=n
theorem v4n {bs:List Nat} {a:Int} {last:Bool} (h:(z14 (z0a bs a last)).1=0):0<=a/\a<=bs.length/\(z14 (z0a bs a last))=z0i bs a.toNat last/\a.toNat<(z14 (z0a bs a last)).2.to/\(z14 (z0a bs a last)).2.to<=bs.length:=by
 unfold z14 at h ⊢;split at h
 ·cases h
 ·next h1 =>
  rw [if_neg h1];unfold z0a at h h1 ⊢;split at h
  ·cases h
  ·next h2 =>
   rw [if_neg h2] at h1 ⊢;rcases z1s bs a.toNat last (by omega) with h3|h3
   ·exact absurd ⟨h,h3.1⟩ h1
   ·exact⟨by omega,by omega,rfl,h3.2.2.1,h3.2.2.2⟩
section
variable {b:List Nat} {k:Nat} {last:Bool}
theorem v5v {bs:List Nat} {n:Int} {s:FS} (h:s.2≠0):z2k bs last n s=([],s):=by unfold z2k;rw [if_pos h]
theorem y3m {bs:List Nat} {n:Int} {s:FS} (hn:0<=n) (hs:z5r bs.length s):z5r bs.length (z2k bs last n s).2:=by
 unfold z2k;by_cases h0:s.2≠0
 ·rw [if_pos h0];exact hs
 rw [if_neg h0];have h1:=hs.resolve_left h0;by_cases h2:(bs.length:Int)-s.1<n
 ·rw [if_pos h2];left;show y7x last≠0;unfold y7x;cases last<;>simp
 ·rw [if_neg h2];right;simp only [];omega
end
end Go.Proofs.YtmibnkddappgiaaGreatDoor
namespace Go.Proofs.YtmibnkddappgiaaGreatDoor.Zl
open Go
open Go.RowKit
def st0:St:=⟨0,[],.head⟩
def b4 (x:Nat):List Nat:=[x / 16777216,x / 65536%256,x / 256%256,x%256]
def v7n (x y:Nat):Bool:=decide (x%16=8/\x / 16<=7/\y / 32%2=0/\(256*x+y)%31=0)
def v8g (bs:List Nat):Int:=if bs.length<2 then 10 else if v7n (bs.getD 0 0) (bs.getD 1 0) then 0 else 11
inductive UnIs (bs:List Nat) (most:Nat):Int->Nat->List Nat->Prop
 |head {k:Int} (h:v8g bs=k) (h0:k≠0):UnIs bs most k 0 []
 |bad {k:Int} (h:v8g bs=0) (h0:k≠0) (hr:Runs (bs.drop 2) most st0 (.err k)):UnIs bs most k 0 []
 |cut {out:List Nat} {b:Nat} (h:v8g bs=0) (hr:Runs (bs.drop 2) most st0 (.ok out b)) (hl:bs.length<(b+7) / 8+6):UnIs bs most 10 0 []
 |sum {out:List Nat} {b:Nat} (h:v8g bs=0) (hr:Runs (bs.drop 2) most st0 (.ok out b)) (hl:(b+7) / 8+6<=bs.length) (hs:(bs.drop ((b+7) / 8+2)).take 4≠b4 (v9s out)):UnIs bs most 12 0 []
 |ok {out:List Nat} {b:Nat} (h:v8g bs=0) (hr:Runs (bs.drop 2) most st0 (.ok out b)) (hl:(b+7) / 8+6<=bs.length) (hs:(bs.drop ((b+7) / 8+2)).take 4=b4 (v9s out)):UnIs bs most 0 ((b+7) / 8+6) out
section
variable {w wx wy:World} {v4 v5 v6:Value}
end
end Go.Proofs.YtmibnkddappgiaaGreatDoor.Zl
namespace Go.Proofs.YtmibnkddappgiaaGreatDoor
open Go.RowKit
def z3i (e:Int) (b:Bool):Int:=if e=0/\b=false then 18 else e
def y1k (bs:List Nat) (last:Bool) (lo hi:Int) (s:FS):Int × FS :=
 if s.2≠0 then(0,s) else((z2w bs s.1 last).1,(z2w bs s.1 last).2.1,z3i (z2w bs s.1 last).2.2 (decide (lo<=(z2w bs s.1 last).1)&&decide ((z2w bs s.1 last).1<=hi)))
def sEndobj:ByteArray:=⟨#[101,110,100,111,98,106]⟩
def sStream:ByteArray:=⟨#[115,116,114,101,97,109]⟩
def y5n:ByteArray:=⟨#[101,110,100,115,116,114,101,97,109]⟩
def v95:ByteArray:=⟨#[111,98,106]⟩
def z02:ByteArray:=⟨#[76,101,110,103,116,104]⟩
def z0g:ByteArray:=⟨#[70,105,108,116,101,114]⟩
def z2f:ByteArray:=⟨#[68,101,99,111,100,101,80,97,114,109,115]⟩
def z5t:ByteArray:=⟨#[70,108,97,116,101,68,101,99,111,100,101]⟩
def z79 (bs:List Nat) (last:Bool) (s:FS):ByteArray × FS :=
 if s.2≠0 then(⟨#[]⟩,s)
 else(sb (z0a bs s.1 last).2.s,((z0a bs s.1 last).2.to:Nat),z3i (if (z0a bs s.1 last).1=0/\(z0a bs s.1 last).2.kind=0 then 10 else(z0a bs s.1 last).1) (decide ((z0a bs s.1 last).2.kind=6)&&(decide (sb (z0a bs s.1 last).2.s=sEndobj) || decide (sb (z0a bs s.1 last).2.s=sStream))))
def nlS (bs:List Nat) (last:Bool) (s:FS):FS :=
 if (z2k bs last 1 s).1=[13] then((z2k bs last 1 (z2k bs last 1 s).2).2.1,z3i (z2k bs last 1 (z2k bs last 1 s).2).2.2 (decide ((z2k bs last 1 (z2k bs last 1 s).2).1=[10])))
 else((z2k bs last 1 s).2.1,z3i (z2k bs last 1 s).2.2 (decide ((z2k bs last 1 s).1=[10])))
def q0s (f:VT):VT:=match f with
 |.mk k n s l=>if k=6/\l.length=1 then l.getD 0 z1i else .mk k n s l
def y1w (f:VT):Bool:=decide (z36 (q0s f) (nmT z5t)=0)
noncomputable def z7h (t:VT) (e:Int):Int :=
 z3i (z3i (z3i e (decide ((z1a t.kind t.row z02).1.kind=2)&&(decide (0<=(z1a t.kind t.row z02).1.num)&&decide ((z1a t.kind t.row z02).1.num<=16777216)))) (!(z1a t.kind t.row z2f).2)) (!(z1a t.kind t.row z0g).2 || y1w (z1a t.kind t.row z0g).1)
open Classical in
noncomputable def v9q (l:List Nat):Int × List Nat:=if h:∃ out n,Zl.UnIs l 16777216 0 n out then(0,h.choose) else(1,[])
noncomputable def v6b (l:List Nat) (s:FS):List Nat × FS:=if s.2≠0 then([],s) else((v9q l).2,s.1,z3i 0 (decide ((v9q l).1=0)))
def v83 (bs:List Nat) (last:Bool) (s:FS):FS:=v2b bs last sEndobj (v2b bs last y5n s)
noncomputable def y3z (bs:List Nat) (last:Bool) (t:VT) (s:FS):List Nat × FS :=
 if (z1a t.kind t.row z0g).2 then v6b (z2k bs last (z1a t.kind t.row z02).1.num (nlS bs last (s.1,z7h t s.2))).1 (v83 bs last (z2k bs last (z1a t.kind t.row z02).1.num (nlS bs last (s.1,z7h t s.2))).2)
 else((z2k bs last (z1a t.kind t.row z02).1.num (nlS bs last (s.1,z7h t s.2))).1,v83 bs last (z2k bs last (z1a t.kind t.row z02).1.num (nlS bs last (s.1,z7h t s.2))).2)
structure OT where
 v:VT
 st:Bool
 d:List Nat
def v9v:OT:=⟨z1i,false,[]⟩
noncomputable def y13 (bs:List Nat) (last:Bool) (s:FS):OT × FS :=
 if (z79 bs last (z3x bs last s).2).1=sStream then(⟨z2q (z2q (z3x bs last s).1 z02) z0g,true,(y3z bs last (z3x bs last s).1 (z79 bs last (z3x bs last s).2).2).1⟩,(y3z bs last (z3x bs last s).1 (z79 bs last (z3x bs last s).2).2).2)
 else(⟨(z3x bs last s).1,false,[]⟩,(z79 bs last (z3x bs last s).2).2)
def y1t (bs:List Nat) (last:Bool) (a:Int):FS:=v2b bs last v95 (y1k bs last 0 0 (y1k bs last 1 4096 (a,0)).2).2
structure FR where
 n:Int
 o:OT
 tz:Int
 e:Int
noncomputable def v8r (bs:List Nat) (a:Int) (last:Bool):FR :=
 if (y13 bs last (y1t bs last a)).2.2≠0 then⟨0,v9v,0,(y13 bs last (y1t bs last a)).2.2⟩
 else⟨(y1k bs last 1 4096 (a,0)).1,(y13 bs last (y1t bs last a)).1,(y13 bs last (y1t bs last a)).2.1,0⟩
theorem z7a {e:Int} {b:Bool} (h:e≠0):z3i e b=e:=by unfold z3i;rw [if_neg (fun h1=>h h1.1)]
theorem z3h {e:Int} {b:Bool} (h:z3i e b=0):e=0/\b=true:=by
 unfold z3i at h;split at h
 ·cases h
 ·next h1=>subst h;exact⟨rfl,by cases b with
  |true=>rfl
  |false=>exact absurd ⟨rfl,rfl⟩ h1⟩
theorem v27 {bs:List Nat} {last:Bool} {s:FS} (h:(z79 bs last s).2.2=0):(0<=(z79 bs last s).2.1/\(z79 bs last s).2.1<=bs.length)/\s.2=0:=by
 unfold z79 at h ⊢;by_cases h0:s.2≠0
 ·rw [if_pos h0] at h;exact absurd h h0
 rw [if_neg h0] at h ⊢;refine⟨?_,by omega⟩;have h1:=(z3h h).1
 have h2:(z14 (z0a bs s.1 last)).1=0:=by
  unfold z14;split
  ·next h3=>rw [if_pos h3] at h1;cases h1
  ·next h3=>rw [if_neg h3] at h1;exact h1
 have h4:=v4n h2
 have h5:z14 (z0a bs s.1 last)=z0a bs s.1 last:=by
  unfold z14;rw [if_neg (fun h3=>by rw [if_pos h3] at h1;cases h1)]
 rw [h5] at h4;simp only [];omega
theorem v42 {bs:List Nat} {a:Int} {last:Bool} {er:Int} {tk tf tt_ tvk:Nat} {tvn:Int} {tvs ts:List Nat} (h:z14 (z0a bs a last)=(er,⟨tk,tf,tt_,tvk,tvn,tvs,ts⟩)):z2w bs a last=if er≠0 then((0,0,er):Int × FS) else if tvk≠2 then(0,0,11) else(tvn,((tt_:Nat):Int),0):=by
 unfold z2w;rw [h]
theorem v3y {bs:List Nat} {a:Int} {last:Bool} {S:ByteArray} {er:Int} {tk tf tt_ tvk:Nat} {tvn:Int} {tvs ts:List Nat} (h:z14 (z0a bs a last)=(er,⟨tk,tf,tt_,tvk,tvn,tvs,ts⟩)):z6n bs a last S=if er≠0 then((0,er):FS) else if tk≠6\/sb ts≠S then(0,11) else(((tt_:Nat):Int),0):=by
 unfold z6n;rw [h]
theorem y9s (bs:List Nat) (A:Option Addr) (c:Nat) (p:Int) (last:Bool) (w:World) (hS:Src w 1 A bs.length c (z09 bs)) (hl:bs.length<=400000) (hc:bs.length<=c) (hb:∀ x∈bs,x<256) :
  Calls Tryz.prog 47 #[.slice A bs.length c,.int .i64 p,.bool last] w fun e w'=>e=.returned (.tuple #[.int .i64 (z2w bs p last).1,.int .i64 (z2w bs p last).2.1,.int .i64 (z2w bs p last).2.2])/\Chg NoS w w':=by
 have HTK:=kf (z8n bs A c p last w hS hl hc hb);obtain⟨M,hM⟩:∃ M,M=z14 (z0a bs p last):=⟨_,rfl⟩
 rw [<- hM] at HTK;obtain⟨n,hn⟩:∃ n,n=bs.length:=⟨_,rfl⟩
 rw [<- hn] at HTK ⊢;obtain⟨er,tk,tf,tt_,tvk,tvn,tvs,ts⟩:=M;have HPN:=kf (v42 hM.symm);unfold y8m z9l at HTK;simp only [] at HTK;obtain⟨S6,hS6⟩:∃ S6,S6=sb tvs:=⟨_,rfl⟩
 obtain⟨S7,hS7⟩:∃ S7,S7=sb ts:=⟨_,rfl⟩
 rw [<- hS6,<- hS7] at HTK;clear hS hb hM hn hS6 hS7 hl hc;by_cases he:er=0
 ·subst he;by_cases hk:tvk=2
  ·subst hk;have HZ:Hid (z2w bs p last=(tvn,((tt_:Nat):Int),0)):=(by show _=_;rw [HPN.out,if_neg (by simp),if_neg (by simp)])
   clear HPN;rw [HZ.out];simp only [];go_enter Tryz.func47,Tryz.ntmps47;go_upto_region 2 with(go_at_call 72;refine HTK.out.mono ?_;rintro e w2 ⟨rfl,hc2⟩;have HC2:=kf hc2;clear hc2);have HB2:=kf (Blk.new w2 111 #[.int .i64 (tk:Nat),.int .i64 (tf:Nat),.int .i64 (tt_:Nat),.int .i64 ((2:Nat):Int),.int .i64 tvn,.string S6,.slice none 0 0,.string S7]);have HC3:=kf (HC2.out.alloc (.cells #[.int .i64 (tk:Nat),.int .i64 (tf:Nat),.int .i64 (tt_:Nat),.int .i64 ((2:Nat):Int),.int .i64 tvn,.string S6,.slice none 0 0,.string S7] 111));obtain⟨W3,hW3⟩:∃ W3,W3=w2.alloc (.cells #[.int .i64 (tk:Nat),.int .i64 (tf:Nat),.int .i64 (tt_:Nat),.int .i64 ((2:Nat):Int),.int .i64 tvn,.string S6,.slice none 0 0,.string S7] 111):=⟨_,rfl⟩
   rw [<- hW3] at HB2 HC3;try rw [<- hW3]
   obtain⟨q0,q1,q2,q3,q4,q5,q6,q7,_,_,_,_,_,_,_,_⟩:=HB2.out.cl8;have q3':W3.cell? ⟨w2.heap.size,3,none⟩=some (.int .i64 2):=q3;clear q3 hW3;go_upto_region 6 with fail;go_quiet (fail);go_wp2_with fail;refine bodyPost_ret (v:=.tuple #[.int .i64 tvn,.int .i64 (tt_:Nat),.int .i64 0]) (by simp [results,Tryz.results47,go_sem]) rfl ?_;exact⟨rfl,(HC2.out.alloc _).drewN _⟩
  ·have e1:((tvk:Int) != 2)=true:=by simp;omega
   have e2:((tvk:Int)==2)=false:=by simp;omega
   have HZ:Hid (z2w bs p last=(0,0,11)):=HPN.out.trans ((if_neg (by simp)).trans (if_pos hk));clear HPN hk;rw [HZ.out];simp only [];go_enter Tryz.func47,Tryz.ntmps47;go_upto_region 2 with(go_at_call 72;refine HTK.out.mono ?_;rintro e w2 ⟨rfl,hc2⟩;have HC2:=kf hc2;clear hc2);have HB2:=kf (Blk.new w2 111 #[.int .i64 (tk:Nat),.int .i64 (tf:Nat),.int .i64 (tt_:Nat),.int .i64 (tvk:Nat),.int .i64 tvn,.string S6,.slice none 0 0,.string S7]);have HC3:=kf (HC2.out.alloc (.cells #[.int .i64 (tk:Nat),.int .i64 (tf:Nat),.int .i64 (tt_:Nat),.int .i64 (tvk:Nat),.int .i64 tvn,.string S6,.slice none 0 0,.string S7] 111));obtain⟨q0,q1,q2,q3,q4,q5,q6,q7,_,_,_,_,_,_,_,_⟩:=HB2.out.cl8;go_wp2_with fail;refine bodyPost_ret (v:=.tuple #[.int .i64 0,.int .i64 0,.int .i64 11]) (by simp [results,Tryz.results47,go_sem]) rfl ?_;exact⟨rfl,HC3.out⟩
 ·have e1:(er != 0)=true:=by simpa using he
  have e2:(er==0)=false:=by simpa using he
  have HZ:Hid (z2w bs p last=(0,0,er)):=HPN.out.trans (if_pos he);clear HPN he;rw [HZ.out];simp only [];go_enter Tryz.func47,Tryz.ntmps47;go_wp2_with (go_at_call 72;refine HTK.out.mono ?_;rintro e w2 ⟨rfl,hc2⟩;have HC2:=kf hc2;clear hc2);refine bodyPost_ret (v:=.tuple #[.int .i64 0,.int .i64 0,.int .i64 er]) (by simp [results,Tryz.results47,go_sem]) rfl ?_;exact⟨rfl,HC2.out.alloc _⟩
theorem y9q (bs:List Nat) (A:Option Addr) (c:Nat) (p:Int) (last:Bool) (S:ByteArray) (w:World) (hS:Src w 1 A bs.length c (z09 bs)) (hl:bs.length<=400000) (hc:bs.length<=c) (hb:∀ x∈bs,x<256) :
  Calls Tryz.prog 49 #[.slice A bs.length c,.int .i64 p,.bool last,.string S] w fun e w'=>e=.returned (.tuple #[.int .i64 (z6n bs p last S).1,.int .i64 (z6n bs p last S).2])/\Chg NoS w w':=by
 have HTK:=kf (z8n bs A c p last w hS hl hc hb);obtain⟨M,hM⟩:∃ M,M=z14 (z0a bs p last):=⟨_,rfl⟩
 rw [<- hM] at HTK;obtain⟨n,hn⟩:∃ n,n=bs.length:=⟨_,rfl⟩
 rw [<- hn] at HTK ⊢;obtain⟨er,tk,tf,tt_,tvk,tvn,tvs,ts⟩:=M;have HPN:=kf (v3y (S:=S) hM.symm);unfold y8m z9l at HTK;simp only [] at HTK;obtain⟨S6,hS6⟩:∃ S6,S6=sb tvs:=⟨_,rfl⟩
 obtain⟨S7,hS7⟩:∃ S7,S7=sb ts:=⟨_,rfl⟩
 rw [<- hS7] at HPN;rw [<- hS6,<- hS7] at HTK;clear hS hb hM hn hS6 hS7 hl hc;by_cases he:er=0
 ·subst he;by_cases hk:tk=6
  ·subst hk;by_cases hs:S7=S
   ·subst hs;have HZ:Hid (z6n bs p last S7=(((tt_:Nat):Int),0)):=(by show _=_;rw [HPN.out,if_neg (by simp),if_neg (by simp)])
    have s1:(S7.toList != S7.toList)=false:=by simp
    have s2:(S7.toList==S7.toList)=true:=by simp
    clear HPN;rw [HZ.out];simp only [];go_enter Tryz.func49,Tryz.ntmps49;go_upto_region 2 with(go_at_call 72;refine HTK.out.mono ?_;rintro e w2 ⟨rfl,hc2⟩;have HC2:=kf hc2;clear hc2);have HB2:=kf (Blk.new w2 111 #[.int .i64 ((6:Nat):Int),.int .i64 (tf:Nat),.int .i64 (tt_:Nat),.int .i64 (tvk:Nat),.int .i64 tvn,.string S6,.slice none 0 0,.string S7]);have HC3:=kf (HC2.out.alloc (.cells #[.int .i64 ((6:Nat):Int),.int .i64 (tf:Nat),.int .i64 (tt_:Nat),.int .i64 (tvk:Nat),.int .i64 tvn,.string S6,.slice none 0 0,.string S7] 111));obtain⟨q0,q1,q2,q3,q4,q5,q6,q7,_,_,_,_,_,_,_,_⟩:=HB2.out.cl8;go_wp2_with fail;go_ret2;exact⟨rfl,HC3.out⟩
   ·have HZ:Hid (z6n bs p last S=(0,11)):=HPN.out.trans ((if_neg (by simp)).trans (if_pos (.inr hs)));have s2:(S7.toList==S.toList)=false:=by simpa using z10 hs
    have s1:(S7.toList != S.toList)=true:=by simpa using z10 hs
    have s3:¬S7.toList=S.toList:=by simpa using z10 hs
    clear HPN hs;rw [HZ.out];simp only [];go_enter Tryz.func49,Tryz.ntmps49;go_upto_region 2 with(go_at_call 72;refine HTK.out.mono ?_;rintro e w2 ⟨rfl,hc2⟩;have HC2:=kf hc2;clear hc2);have HB2:=kf (Blk.new w2 111 #[.int .i64 ((6:Nat):Int),.int .i64 (tf:Nat),.int .i64 (tt_:Nat),.int .i64 (tvk:Nat),.int .i64 tvn,.string S6,.slice none 0 0,.string S7]);have HC3:=kf (HC2.out.alloc (.cells #[.int .i64 ((6:Nat):Int),.int .i64 (tf:Nat),.int .i64 (tt_:Nat),.int .i64 (tvk:Nat),.int .i64 tvn,.string S6,.slice none 0 0,.string S7] 111));obtain⟨q0,q1,q2,q3,q4,q5,q6,q7,_,_,_,_,_,_,_,_⟩:=HB2.out.cl8;go_wp2_with fail;go_ret2;exact⟨rfl,HC3.out⟩
  ·have HZ:Hid (z6n bs p last S=(0,11)):=HPN.out.trans ((if_neg (by simp)).trans (if_pos (.inl hk)));have e1:((tk:Int) != 6)=true:=by simp;omega
   have e2:((tk:Int)==6)=false:=by simp;omega
   clear HPN hk;rw [HZ.out];simp only [];go_enter Tryz.func49,Tryz.ntmps49;go_upto_region 2 with(go_at_call 72;refine HTK.out.mono ?_;rintro e w2 ⟨rfl,hc2⟩;have HC2:=kf hc2;clear hc2);have HB2:=kf (Blk.new w2 111 #[.int .i64 (tk:Nat),.int .i64 (tf:Nat),.int .i64 (tt_:Nat),.int .i64 (tvk:Nat),.int .i64 tvn,.string S6,.slice none 0 0,.string S7]);have HC3:=kf (HC2.out.alloc (.cells #[.int .i64 (tk:Nat),.int .i64 (tf:Nat),.int .i64 (tt_:Nat),.int .i64 (tvk:Nat),.int .i64 tvn,.string S6,.slice none 0 0,.string S7] 111));obtain⟨q0,q1,q2,q3,q4,q5,q6,q7,_,_,_,_,_,_,_,_⟩:=HB2.out.cl8;go_wp2_with fail;go_ret2;exact⟨rfl,HC3.out⟩
 ·have e1:(er != 0)=true:=by simpa using he
  have e2:(er==0)=false:=by simpa using he
  have HZ:Hid (z6n bs p last S=(0,er)):=HPN.out.trans (if_pos he);clear HPN he;rw [HZ.out];simp only [];go_enter Tryz.func49,Tryz.ntmps49;go_wp2_with (go_at_call 72;refine HTK.out.mono ?_;rintro e w2 ⟨rfl,hc2⟩;have HC2:=kf hc2;clear hc2);go_ret2;exact⟨rfl,HC2.out.alloc _⟩
end Go.Proofs.YtmibnkddappgiaaGreatDoor
