import Derived.Test.YtnhlalkeaaiefaaGreatDoorE16
import Derived.Test.YtnhlalkeaaiefaaGreatDoorE18
set_option linter.unusedVariables false
set_option maxHeartbeats 64000000
set_option maxRecDepth 100000
set_option linter.unusedSimpArgs false
namespace Go.Proofs.YtnhlalkeaaiefaaGreatDoor
open Go.RowKit
abbrev FS:=Int × Int
def z5u (bs:List Nat) (a:Int) (last:Bool) (S:ByteArray):FS :=
 if (z1b (z07 bs a last)).1≠0 then(0,(z1b (z07 bs a last)).1) else if (z1b (z07 bs a last)).2.kind≠6\/sb (z1b (z07 bs a last)).2.s≠S then(0,11) else(((z1b (z07 bs a last)).2.to:Nat),0)
def z7k (bs:List Nat) (last:Bool) (S:ByteArray) (s:FS):FS:=if s.2≠0 then s else z5u bs s.1 last S
def v5x (last:Bool):Int:=if last then 10 else 6
def z3d (n:Nat) (s:FS):Prop:=s.2≠0\/0<=s.1/\s.1<=n
theorem y7e {bs:List Nat} {a:Int} {last:Bool} (h:(z1b (z07 bs a last)).1=0):0<=a/\a<=bs.length/\(z1b (z07 bs a last))=z0f bs a.toNat last/\a.toNat<(z1b (z07 bs a last)).2.to/\(z1b (z07 bs a last)).2.to<=bs.length:=by
 unfold z1b at h ⊢;split at h
 ·cases h
 ·next h1 =>
  rw [if_neg h1];unfold z07 at h h1 ⊢;split at h
  ·cases h
  ·next h2 =>
   rw [if_neg h2] at h1 ⊢;rcases z22 bs a.toNat last (by omega) with h3|h3
   ·exact absurd ⟨h,h3.1⟩ h1
   ·exact⟨by omega,by omega,rfl,h3.2.2.1,h3.2.2.2⟩
theorem v01 {bs:List Nat} {last:Bool} {S:ByteArray} {s:FS} (h:(z7k bs last S s).2=0):(0<=(z7k bs last S s).1/\(z7k bs last S s).1<=bs.length)/\s.2=0:=by
 unfold z7k at h ⊢;by_cases h0:s.2≠0
 ·rw [if_pos h0] at h;exact absurd h h0
 rw [if_neg h0] at h ⊢;refine⟨?_,by omega⟩;unfold z5u at h ⊢;by_cases h2:(z1b (z07 bs s.1 last)).1≠0
 ·rw [if_pos h2] at h;exact absurd h h2
 rw [if_neg h2] at h ⊢;by_cases h3:(z1b (z07 bs s.1 last)).2.kind≠6\/sb (z1b (z07 bs s.1 last)).2.s≠S
 ·rw [if_pos h3] at h;cases h
 rw [if_neg h3];have h4:=y7e (bs:=bs) (a:=s.1) (last:=last) (by omega);simp only [];omega
section
variable {b:List Nat} {k:Nat} {last:Bool}
theorem v6a {bs:List Nat} {S:ByteArray} {s:FS}:z3d bs.length (z7k bs last S s):=by
 by_cases h:(z7k bs last S s).2=0
 ·exact .inr (v01 h).1
 ·exact .inl h
end
theorem v4c {bs:List Nat} {a:Int} {last:Bool} {S:ByteArray} {er:Int} {tk tf tt_ tvk:Nat} {tvn:Int} {tvs ts:List Nat} (h:z1b (z07 bs a last)=(er,⟨tk,tf,tt_,tvk,tvn,tvs,ts⟩)):z5u bs a last S=if er≠0 then((0,er):FS) else if tk≠6\/sb ts≠S then(0,11) else(((tt_:Nat):Int),0):=by
 unfold z5u;rw [h]
theorem v0s (bs:List Nat) (A:Option Addr) (c:Nat) (p:Int) (last:Bool) (S:ByteArray) (w:World) (hS:Src w 1 A bs.length c (z08 bs)) (hl:bs.length<=400000) (hc:bs.length<=c) (hb:∀ x∈bs,x<256) :
  Calls Tryz.prog 74 #[.slice A bs.length c,.int .i64 p,.bool last,.string S] w fun e w'=>e=.returned (.tuple #[.int .i64 (z5u bs p last S).1,.int .i64 (z5u bs p last S).2])/\Chg NoS w w':=by
 have HTK:=kf (y2s bs A c p last w hS hl hc hb);obtain⟨M,hM⟩:∃ M,M=z1b (z07 bs p last):=⟨_,rfl⟩
 rw [<- hM] at HTK;obtain⟨n,hn⟩:∃ n,n=bs.length:=⟨_,rfl⟩
 rw [<- hn] at HTK ⊢;obtain⟨er,tk,tf,tt_,tvk,tvn,tvs,ts⟩:=M;have HPN:=kf (v4c (S:=S) hM.symm);unfold y9q z78 at HTK;simp only [] at HTK;obtain⟨S6,hS6⟩:∃ S6,S6=sb tvs:=⟨_,rfl⟩
 obtain⟨S7,hS7⟩:∃ S7,S7=sb ts:=⟨_,rfl⟩
 rw [<- hS7] at HPN;rw [<- hS6,<- hS7] at HTK;clear hS hb hM hn hS6 hS7 hl hc;by_cases he:er=0
 ·subst he;by_cases hk:tk=6
  ·subst hk;by_cases hs:S7=S
   ·subst hs;have HZ:Hid (z5u bs p last S7=(((tt_:Nat):Int),0)):=(by show _=_;rw [HPN.out,if_neg (by simp),if_neg (by simp)])
    have s1:(S7.toList != S7.toList)=false:=by simp
    have s2:(S7.toList==S7.toList)=true:=by simp
    clear HPN;rw [HZ.out];simp only [];go_enter Tryz.func74,Tryz.ntmps74;go_upto_region 2 with(go_at_call 108;refine HTK.out.mono ?_;rintro e w2 ⟨rfl,hc2⟩;have HC2:=kf hc2;clear hc2);have HB2:=kf (Blk.new w2 131 #[.int .i64 ((6:Nat):Int),.int .i64 (tf:Nat),.int .i64 (tt_:Nat),.int .i64 (tvk:Nat),.int .i64 tvn,.string S6,.slice none 0 0,.string S7]);have HC3:=kf (HC2.out.alloc (.cells #[.int .i64 ((6:Nat):Int),.int .i64 (tf:Nat),.int .i64 (tt_:Nat),.int .i64 (tvk:Nat),.int .i64 tvn,.string S6,.slice none 0 0,.string S7] 131));obtain⟨q0,q1,q2,q3,q4,q5,q6,q7,_,_,_,_,_,_,_,_⟩:=HB2.out.cl8;go_wp2_with fail;go_ret2;exact⟨rfl,HC3.out⟩
   ·have HZ:Hid (z5u bs p last S=(0,11)):=HPN.out.trans ((if_neg (by simp)).trans (if_pos (.inr hs)));have s2:(S7.toList==S.toList)=false:=by simpa using z1f hs
    have s1:(S7.toList != S.toList)=true:=by simpa using z1f hs
    have s3:¬S7.toList=S.toList:=by simpa using z1f hs
    clear HPN hs;rw [HZ.out];simp only [];go_enter Tryz.func74,Tryz.ntmps74;go_upto_region 2 with(go_at_call 108;refine HTK.out.mono ?_;rintro e w2 ⟨rfl,hc2⟩;have HC2:=kf hc2;clear hc2);have HB2:=kf (Blk.new w2 131 #[.int .i64 ((6:Nat):Int),.int .i64 (tf:Nat),.int .i64 (tt_:Nat),.int .i64 (tvk:Nat),.int .i64 tvn,.string S6,.slice none 0 0,.string S7]);have HC3:=kf (HC2.out.alloc (.cells #[.int .i64 ((6:Nat):Int),.int .i64 (tf:Nat),.int .i64 (tt_:Nat),.int .i64 (tvk:Nat),.int .i64 tvn,.string S6,.slice none 0 0,.string S7] 131));obtain⟨q0,q1,q2,q3,q4,q5,q6,q7,_,_,_,_,_,_,_,_⟩:=HB2.out.cl8;go_wp2_with fail;go_ret2;exact⟨rfl,HC3.out⟩
  ·have HZ:Hid (z5u bs p last S=(0,11)):=HPN.out.trans ((if_neg (by simp)).trans (if_pos (.inl hk)));have e1:((tk:Int) != 6)=true:=by simp;omega
   have e2:((tk:Int)==6)=false:=by simp;omega
   clear HPN hk;rw [HZ.out];simp only [];go_enter Tryz.func74,Tryz.ntmps74;go_upto_region 2 with(go_at_call 108;refine HTK.out.mono ?_;rintro e w2 ⟨rfl,hc2⟩;have HC2:=kf hc2;clear hc2);have HB2:=kf (Blk.new w2 131 #[.int .i64 (tk:Nat),.int .i64 (tf:Nat),.int .i64 (tt_:Nat),.int .i64 (tvk:Nat),.int .i64 tvn,.string S6,.slice none 0 0,.string S7]);have HC3:=kf (HC2.out.alloc (.cells #[.int .i64 (tk:Nat),.int .i64 (tf:Nat),.int .i64 (tt_:Nat),.int .i64 (tvk:Nat),.int .i64 tvn,.string S6,.slice none 0 0,.string S7] 131));obtain⟨q0,q1,q2,q3,q4,q5,q6,q7,_,_,_,_,_,_,_,_⟩:=HB2.out.cl8;go_wp2_with fail;go_ret2;exact⟨rfl,HC3.out⟩
 ·have e1:(er != 0)=true:=by simpa using he
  have e2:(er==0)=false:=by simpa using he
  have HZ:Hid (z5u bs p last S=(0,er)):=HPN.out.trans (if_pos he);clear HPN he;rw [HZ.out];simp only [];go_enter Tryz.func74,Tryz.ntmps74;go_wp2_with (go_at_call 108;refine HTK.out.mono ?_;rintro e w2 ⟨rfl,hc2⟩;have HC2:=kf hc2;clear hc2);go_ret2;exact⟨rfl,HC2.out.alloc _⟩
def z3q (e:Int) (b:Bool):Int:=if e=0/\b=false then 20 else e
theorem z96 {e:Int} {b:Bool} (h:e≠0):z3q e b=e:=by unfold z3q;rw [if_neg (fun h1=>h h1.1)]
theorem v5t {e:Int} {b:Bool} (h:z3q e b=0):e=0/\b=true:=by
 unfold z3q at h;split at h
 ·cases h
 ·next h1=>subst h;exact⟨rfl,by cases b with
  |true=>rfl
  |false=>exact absurd ⟨rfl,rfl⟩ h1⟩
structure XEn where
 pl:Int
 gen:Int
 us:Bool
structure XGr where
 first:Int
 es:List XEn
def z4d:ByteArray:=⟨#[120,114,101,102]⟩
def z2o:ByteArray:=⟨#[116,114,97,105,108,101,114]⟩
def z1j (bs:List Nat) (last:Bool) (s:FS):Tkn × FS :=
 if s.2≠0 then(noT 0,s) else((z07 bs s.1 last).2,((z07 bs s.1 last).2.to:Nat),if (z07 bs s.1 last).1=0/\(z07 bs s.1 last).2.kind=0 then 10 else(z07 bs s.1 last).1)
def z5y (t:Tkn) (s:FS):FS:=(s.1,z3q s.2 (decide (t.vk=2)))
def z29 (first count:Int):Bool:=decide (0<=first)&&(decide (0<=count)&&decide (first<=4097-count))
def z9q (bs:List Nat) (p:Nat):Nat:=((bs.drop p).takeWhile z3s).length
def y7l (l:List Nat):Int :=
 z3q (z3q (z3q (z3q 0 (decide ((z77 (l.take 10)).2=0)&&(decide ((z77 ((l.drop 11).take 5)).2=0)&&decide ((z77 ((l.drop 11).take 5)).1<=65535))))
  (decide (l.getD 10 0=32)&&decide (l.getD 16 0=32))) (decide (l.getD 17 0=110) || decide (l.getD 17 0=102))) (decide (l.getD 18 0=32) || (decide (l.getD 18 0=10) || decide (l.getD 18 0=13)))
def y7k (l:List Nat):XEn:=⟨(z77 (l.take 10)).1,(z77 ((l.drop 11).take 5)).1,decide (l.getD 17 0=110)⟩
def y1r (bs:List Nat) (last:Bool) (p:Nat):XEn × FS :=
 if bs.length<p+19 then(⟨0,0,false⟩,((p:Int),v5x last)) else(y7k ((bs.drop p).take 19),(((p+19:Nat):Int),y7l ((bs.drop p).take 19)))
def z2j (bs:List Nat) (last:Bool):Nat->FS->List XEn->List XEn × FS
 |0,s,l=>(l,s)
 |n+1,s,l=>if s.2≠0 then(l,s) else z2j bs last n (y1r bs last (s.1.toNat+z9q bs s.1.toNat)).2 (l++[(y1r bs last (s.1.toNat+z9q bs s.1.toNat)).1])
def y10 (bs:List Nat) (last:Bool) (k:Nat) (t:Tkn) (s:FS):Int × FS :=
 ((z1j bs last (z5y t s)).1.vn,((z1j bs last (z5y t s)).2.1,z3q (z5y (z1j bs last (z5y t s)).1 (z1j bs last (z5y t s)).2).2 (decide (k<64)&&z29 t.vn (z1j bs last (z5y t s)).1.vn)))
def z5h (bs:List Nat) (last:Bool):Nat->FS->List XGr->List XGr × FS
 |0,s,l=>(l,s)
 |n+1,s,l =>
  if s.2≠0 then(l,s)
  else if (z1j bs last s).1.kind=6/\sb (z1j bs last s).1.s=z2o then(l,(z1j bs last s).2)
  else z5h bs last n (z2j bs last (y10 bs last l.length (z1j bs last s).1 (z1j bs last s).2).1.toNat (y10 bs last l.length (z1j bs last s).1 (z1j bs last s).2).2 []).2
   (l++[⟨(z1j bs last s).1.vn,(z2j bs last (y10 bs last l.length (z1j bs last s).1 (z1j bs last s).2).1.toNat (y10 bs last l.length (z1j bs last s).1 (z1j bs last s).2).2 []).1⟩])
noncomputable def y3i (bs:List Nat) (last:Bool) (s:FS):VT × FS :=
 if s.2≠0 then(z28,s) else((z8f bs last s.1 []).2.1,((z8f bs last s.1 []).2.2:Nat),z3q (z8f bs last s.1 []).1 (decide ((z8f bs last s.1 []).2.1.kind=7)))
structure XR where
 gs:List XGr
 v:VT
 tz:Int
 e:Int
noncomputable def v8j (bs:List Nat) (a:Int) (last:Bool):XR :=
 if (y3i bs last (z5h bs last 66 (z7k bs last z4d (a,0)) []).2).2.2≠0 then⟨[],z28,0,(y3i bs last (z5h bs last 66 (z7k bs last z4d (a,0)) []).2).2.2⟩
 else⟨(z5h bs last 66 (z7k bs last z4d (a,0)) []).1,(y3i bs last (z5h bs last 66 (z7k bs last z4d (a,0)) []).2).1,(y3i bs last (z5h bs last 66 (z7k bs last z4d (a,0)) []).2).2.1,0⟩
section
variable {b:List Nat} {k:Nat} {last:Bool}
theorem y7d {bs:List Nat} {a:Int} (h:(if (z07 bs a last).1=0/\(z07 bs a last).2.kind=0 then(10:Int) else(z07 bs a last).1)=0):0<=((z07 bs a last).2.to:Int)/\((z07 bs a last).2.to:Int)<=bs.length:=by
 have h2:(z1b (z07 bs a last)).1=0:=by
  unfold z1b;split
  ·next h3=>rw [if_pos h3] at h;cases h
  ·next h3=>rw [if_neg h3] at h;exact h
 have h4:=y7e h2
 have h5:z1b (z07 bs a last)=z07 bs a last:=by
  unfold z1b;rw [if_neg (fun h3=>by rw [if_pos h3] at h;cases h)]
 rw [h5] at h4;omega
theorem y5z {bs:List Nat} {s:FS} (hs:z3d bs.length s):z3d bs.length (z1j bs last s).2:=by
 unfold z1j;by_cases h0:s.2≠0
 ·rw [if_pos h0];exact hs
 rw [if_neg h0];by_cases h1:(if (z07 bs s.1 last).1=0/\(z07 bs s.1 last).2.kind=0 then(10:Int) else(z07 bs s.1 last).1)=0
 ·exact .inr (y7d h1)
 ·exact .inl h1
theorem y5n {n:Nat} {t:Tkn} {s:FS} (hs:z3d n s):z3d n (z5y t s):=by
 rcases hs with h|h
 ·left;show z3q _ _≠0;rw [z96 h];exact h
 ·exact .inr h
theorem v8c {n:Nat} {s:FS} {c:Bool} (hs:z3d n s):z3d n (s.1,z3q s.2 c):=by
 rcases hs with h|h
 ·left;show z3q _ _≠0;rw [z96 h];exact h
 ·exact .inr h
theorem v6t (bs:List Nat) (p:Nat) (hp:p<=bs.length):p+z9q bs p<=bs.length:=by
 unfold z9q;have h1:=(List.takeWhile_prefix z3s (l:=bs.drop p)).length_le;rw [List.length_drop] at h1;omega
theorem y8w {bs:List Nat} {p:Nat}:z3d bs.length (y1r bs last p).2:=by
 unfold y1r;split
 ·left;show v5x last≠0;unfold v5x;cases last<;>simp
 ·next h=>right;simp only [];omega
theorem y0m {bs:List Nat} {n:Nat} {s:FS} {l:List XEn} (h:s.2≠0):z2j bs last n s l=(l,s):=by
 cases n with
 |zero=>rfl
 |succ n=>rw [z2j,if_pos h]
theorem v22 {bs:List Nat}:∀ (n:Nat) (s:FS) (l:List XEn),z3d bs.length s->z3d bs.length (z2j bs last n s l).2:=by
 intro n;induction n with
 |zero=>intro s l h;exact h
 |succ n ih =>
  intro s l h;rw [z2j];split
  ·exact h
  ·exact ih _ _ y8w
theorem v3p {bs:List Nat} {j:Nat} {t:Tkn} {s:FS} (hs:z3d bs.length s):z3d bs.length (y10 bs last j t s).2:=v8c (y5n (y5z (y5n hs)))
end
def Ev (O:Nat->Prop) (w:World) (P:World->Prop):Prop:=∀ V,Chg O w V->P V
theorem Ev.turn {O O':Nat->Prop} {w w':World} {P:World->Prop} (h:Ev O w P) (hc:Chg O w w') (hO:∀ i,i<w.heap.size->O' i->O i):Ev O' w' P:=fun V hV=>h V (hc.trans hV hO)
theorem Ev.chg {O:Nat->Prop} {w w':World} {P:World->Prop} (h:Ev O w P) (hc:Chg NoS w w'):Ev O w' P:=h.turn (hc.mono (fun _ _ e=>e.elim)) (fun _ _ h=>h)
def XEn.cells (e:XEn):List Value:=[.int .i64 e.pl,.int .i64 e.gen,.bool e.us]
def z2k (l:List XEn):List Value:=l.flatMap XEn.cells
structure GC where
 g:XGr
 A:Option Addr
 c:Nat
def GC.cells (x:GC):List Value:=[.int .i64 x.g.first,.slice x.A x.g.es.length x.c]
def z2f (l:List GC):List Value:=l.flatMap GC.cells
theorem y0l {α:Type} (f:α->List Value) (k:Nat) (hf:∀ a,(f a).length=k) (l:List α):(l.flatMap f).length=l.length*k:=by
 induction l with
 |nil=>simp
 |cons e es ih=>rw [List.flatMap_cons,List.length_append,ih,hf,List.length_cons,Nat.succ_mul];omega
theorem y3d {α:Type} (f:α->List Value) (k:Nat) (hf:∀ a,(f a).length=k):∀ {l:List α} {j i:Nat} {e:α},l[j]?=some e->i<k->(l.flatMap f)[j*k+i]?=(f e)[i]?:=by
 intro l;induction l with
 |nil=>intro j i e h;simp at h
 |cons x es ih =>
  intro j i e h hi;rw [List.flatMap_cons];cases j with
  |zero =>
   simp at h;subst h;rw [Nat.zero_mul,Nat.zero_add,List.getElem?_append_left (by rw [hf];exact hi)]
  |succ j =>
   rw [List.getElem?_append_right (by rw [hf,Nat.succ_mul];omega),hf,show(j+1)*k+i-k=j*k+i from by rw [Nat.succ_mul];omega];exact ih (by simpa using h) hi
theorem y54 (a b:List XEn):z2k (a++b)=z2k a++z2k b:=by simp [z2k]
theorem y4v (a b:List GC):z2f (a++b)=z2f a++z2f b:=by simp [z2f]
theorem y1s (es:List XEn):∀ u∈z2k es,u.oneCell'=true:=by
 intro u hu;obtain⟨e,_,h⟩:=List.mem_flatMap.1 hu;unfold XEn.cells at h;simp only [List.mem_cons,List.not_mem_nil,or_false] at h;rcases h with rfl|rfl|rfl<;>rfl
theorem y1o (es:List GC):∀ u∈z2f es,u.oneCell'=true:=by
 intro u hu;obtain⟨e,_,h⟩:=List.mem_flatMap.1 hu;unfold GC.cells at h;simp only [List.mem_cons,List.not_mem_nil,or_false] at h;rcases h with rfl|rfl<;>rfl
def EnS (es:List XEn) (A:Option Addr) (c:Nat) (V:World):Prop:=Src V 3 A es.length c (z2k es)/\es.length<=c
def z4v (xs:List GC) (A:Option Addr) (c:Nat) (V:World):Prop:=(Src V 2 A xs.length c (z2f xs)/\xs.length<=c)/\∀ x∈xs,EnS x.g.es x.A x.c V
theorem y74 {w:World} {b:Nat} {T:TypeId} {k n c:Nat} {A:Option Addr} {l:List Value} (h:w.ownsRow b T k (.slice A n c) n l):n<=c:=by
 rcases h.2 with⟨h1,h0⟩|⟨g',cap,cur,h1,hb,hh,h2,h3,_⟩
 ·simp only [Value.slice.injEq] at h1;obtain⟨rfl,_,rfl⟩:=h1;omega
 ·simp only [Value.slice.injEq] at h1;obtain⟨rfl,_,rfl⟩:=h1;exact h2
structure RwE (w W:World) (es:List XEn) (n:Nat) (A:Option Addr) (c:Nat):Prop where
 own:W.ownsRow 0 29 3 (.slice A n c) n (z2k es)
 new:∀ g,ob A=some g->w.heap.size<=g
 siz:w.heap.size<=W.heap.size
 len:es.length=n
theorem RwE.start {w W:World} (h:w.heap.size<=W.heap.size):RwE w W [] 0 none 0:=⟨z2p W 0 _ 3,fun _ h=>(by cases h),h,rfl⟩
theorem RwE.turn {w W W':World} {es:List XEn} {n c:Nat} {A:Option Addr} {S:Nat->Prop} (h:RwE w W es n A c) (hc:Chg S W W') (hS:∀ i,S i->i<w.heap.size):RwE w W' es n A c :=
 ⟨z0i h.own hc (fun g hg e=>by rw [z14] at hg;have:=h.new g hg;have:=hS g e;omega),h.new,Nat.le_trans h.siz hc.size,h.len⟩
theorem RwE.ev {w W:World} {es:List XEn} {n c:Nat} {A:Option Addr} (h:RwE w W es n A c):Ev (fun i=>i<w.heap.size) W (EnS es A c):=fun V hV=>by
 have h1:=z0i h.own hV (fun g hg e=>by rw [z14] at hg;have:=h.new g hg;omega);have h2:=z55 h1;have h3:=y74 h1;have h4:=h.len;subst h4;exact⟨h2,h3⟩
theorem v4x:(Tryz.prog.info? 29).map (fun i=>(i.zero,i.size,i.bytes))=some (some (.agg #[.int .i64 0,.int .i64 0,.bool false]),3,24):=by kernel_rfl
theorem v4w:(Tryz.prog.info? 56).map (fun i=>(i.zero,i.size,i.bytes))=some (some (.agg #[.int .i64 0,.slice none 0 0]),2,32):=by kernel_rfl
theorem q0c {w W:World} {ops:Array Oper} {rest:List Oper} {o:Oper} {a:Act} {Q:Exit->Act->World->Prop} {es:List XEn} {e:XEn} {n c cx:Nat} {A X:Option Addr} (hgd:o.guard=none) (s x:Operand)
  (ho:o.op=.call { callee:=.builtin .append,args:=#[s,x],argTypes:=#[54,54] }) (hs:a.eval s=.slice A n c) (hx:a.eval x=.slice X 1 cx)
  (h:RwE w W es n A c) (hn:n<=2000000000) (hsrc:Src W 3 X 1 cx (z2k [e]))
  (k:∀ A3 c3 w',RwE w w' (es++[e]) (n+1) A3 c3->(∀ (S:Nat->Prop),(∀ i,w.heap.size<=i->S i)->Chg S W w')->wpList Tryz.prog ops Q rest (a.put o.dst (.slice A3 (n+1) c3)) w') :
  wpList Tryz.prog ops Q (o::rest) a W:=by
 obtain⟨i0,hi,hz0,hz1,hz2⟩:=z2r v4x;refine z2e hgd s x 54 ho 29 i0 _ 3 24 Tryz.underlying54 hi hz0 hz1 hz2 rfl (by decide) (.slice A n c) n (z2k es) hs h.own X 1 cx (z2k [e]) hx hsrc (y1s _) (by unfold maxLen;omega) (by omega) ?_;intro S2 w4 hown4 hgr4 hat4;obtain⟨A4,c4,rfl,hA4⟩:=z0n hown4;have hcw:Chg (fun i=>ob A=some i) W w4:=(Chg.refl _ W).grown hgr4 (fun kk e _=>by rwa [z14] at e);have hat:ob A4=ob A\/ob A4=some W.heap.size:=by rw [<- z14 A4 (n+1) c4,<- z14 A n c];exact hat4
 have hsz:=h.siz;refine k A4 c4 w4 ⟨by rw [y54];exact hown4,fun g hg=>?_,Nat.le_trans hsz hcw.size,by rw [List.length_append,h.len];rfl⟩ (fun S hS=>hcw.mono (fun i _ e=>hS i (h.new i e)));rcases hat with e2|e2
 ·exact h.new g (by rw [<- e2];exact hg)
 ·rw [e2] at hg;cases hg;omega
structure RwG (w W:World) (xs:List GC) (n:Nat) (A:Option Addr) (c:Nat):Prop where
 own:W.ownsRow 0 56 2 (.slice A n c) n (z2f xs)
 new:∀ g,ob A=some g->w.heap.size<=g
 siz:w.heap.size<=W.heap.size
 len:xs.length=n
 is:∀ x∈xs,Ev (fun i=>i<w.heap.size\/ob A=some i) W (EnS x.g.es x.A x.c)
theorem RwG.start {w W:World} (h:w.heap.size<=W.heap.size):RwG w W [] 0 none 0:=⟨z2p W 0 _ 2,fun _ h=>(by cases h),h,rfl,fun _ h=>(by cases h)⟩
theorem RwG.lt {w W:World} {xs:List GC} {n c:Nat} {A:Option Addr} (h:RwG w W xs n A c) {g:Nat} (hg:ob A=some g):g<W.heap.size:=v31 h.own (by rw [z14];exact hg)
theorem RwG.turn {w W W':World} {xs:List GC} {n c:Nat} {A:Option Addr} {S:Nat->Prop} (h:RwG w W xs n A c) (hc:Chg S W W') (hS:∀ i,S i->i<w.heap.size):RwG w W' xs n A c :=
 ⟨z0i h.own hc (fun g hg e=>by rw [z14] at hg;have:=h.new g hg;have:=hS g e;omega),h.new,Nat.le_trans h.siz hc.size,h.len,fun x hx=>(h.is x hx).turn (hc.mono (fun i _ e=>.inl (hS i e))) (fun _ _ e=>e)⟩
theorem RwG.ev {w W:World} {xs:List GC} {n c:Nat} {A:Option Addr} (h:RwG w W xs n A c):Ev (fun i=>i<w.heap.size) W (z4v xs A c):=fun V hV=>by
 have h1:=z0i h.own hV (fun g hg e=>by rw [z14] at hg;have:=h.new g hg;omega);have h2:=z55 h1;have h3:=y74 h1;have h4:=h.len;subst h4;exact⟨⟨h2,h3⟩,fun x hx=>h.is x hx V (hV.mono (fun i _ e=>.inl e))⟩
theorem q09 {w W:World} {ops:Array Oper} {rest:List Oper} {o:Oper} {a:Act} {Q:Exit->Act->World->Prop} {xs:List GC} {e:GC} {n c cx:Nat} {A X:Option Addr} (hgd:o.guard=none) (s x:Operand)
  (ho:o.op=.call { callee:=.builtin .append,args:=#[s,x],argTypes:=#[22,22] }) (hs:a.eval s=.slice A n c) (hx:a.eval x=.slice X 1 cx)
  (h:RwG w W xs n A c) (hn:n<=2000000000) (hsrc:Src W 2 X 1 cx (z2f [e])) (his:Ev (fun i=>i<w.heap.size\/ob A=some i) W (EnS e.g.es e.A e.c))
  (k:∀ A3 c3 w',RwG w w' (xs++[e]) (n+1) A3 c3->(∀ (S:Nat->Prop),(∀ i,w.heap.size<=i->S i)->Chg S W w')->wpList Tryz.prog ops Q rest (a.put o.dst (.slice A3 (n+1) c3)) w') :
  wpList Tryz.prog ops Q (o::rest) a W:=by
 obtain⟨i0,hi,hz0,hz1,hz2⟩:=z2r v4w;refine z2e hgd s x 22 ho 56 i0 _ 2 32 Tryz.underlying22 hi hz0 hz1 hz2 rfl (by decide) (.slice A n c) n (z2f xs) hs h.own X 1 cx (z2f [e]) hx hsrc (y1o _) (by unfold maxLen;omega) (by omega) ?_;intro S2 w4 hown4 hgr4 hat4;obtain⟨A4,c4,rfl,hA4⟩:=z0n hown4;have hcw:Chg (fun i=>ob A=some i) W w4:=(Chg.refl _ W).grown hgr4 (fun kk e _=>by rwa [z14] at e);have hat:ob A4=ob A\/ob A4=some W.heap.size:=by rw [<- z14 A4 (n+1) c4,<- z14 A n c];exact hat4
 have hsz:=h.siz
 have hback:∀ i,i<W.heap.size->i<w.heap.size\/ob A4=some i->i<w.heap.size\/ob A=some i:=fun i hi e=>by
  rcases e with e|e
  ·exact .inl e
  ·rcases hat with e2|e2
   ·exact .inr (e2 ▸ e)
   ·rw [e2] at e;cases e;omega
 refine k A4 c4 w4 ⟨by rw [y4v];exact hown4,fun g hg=>?_,Nat.le_trans hsz hcw.size,by rw [List.length_append,h.len];rfl,fun y hy=>?_⟩ (fun S hS=>hcw.mono (fun i _ e=>hS i (h.new i e)))
 ·rcases hat with e2|e2
  ·exact h.new g (by rw [<- e2];exact hg)
  ·rw [e2] at hg;cases hg;omega
 ·rcases List.mem_append.1 hy with h1|h1
  ·exact(h.is y h1).turn (hcw.mono (fun _ _ e=>.inr e)) hback
  ·rw [List.mem_singleton] at h1;subst h1;exact his.turn (hcw.mono (fun _ _ e=>.inr e)) hback
def fcl (q:Value) (A2:Option Addr) (n2 c2:Nat):Array Value:=#[q,.slice A2 n2 c2]
def KF (R:Nat) (V W:World):Prop:=∀ g o,g≠R->(∀ cs,o≠.cells cs 5 (0,0))->V.heap[g]?=some o->W.heap[g]?=some o
theorem KF.refl (R:Nat) (V:World):KF R V V:=fun _ _ _ _ h=>h
theorem KF.trans {R:Nat} {V W X:World} (h:KF R V W) (k:KF R W X):KF R V X:=fun g o a b c=>k g o a b (h g o a b c)
theorem KF.chg {R:Nat} {V W:World} (h:Chg NoS V W):KF R V W:=fun g o _ _ c=>(h.block g (Array.getElem?_eq_some_iff.1 c).1 (fun h=>h)).trans c
theorem KF.set {R:Nat} {V W:World} (h:KF R V W) (i:Nat) (u:Value):KF R V (W.setCell ⟨R,i,none⟩ u):=fun g o a b c=>(Below.heap_setCell W ⟨R,i,none⟩ u g a).trans (h g o a b c)
theorem KF.grown {R:Nat} {V W W':World} {base:Nat} {v:Value} {m:Nat} {xs:List Value} (h:KF R V W) (ho:W.ownsRow base 5 1 v m xs) (hg:W.grownBy W' v.ownBlock):KF R V W':=fun g o a b c=>by
 have h1:=h g o a b c;refine(hg.block g (Array.getElem?_eq_some_iff.1 h1).1 fun e=>?_).trans h1;rcases ho.2 with⟨rfl,_⟩|⟨k,cap,cur,rfl,_,hk,_⟩
 ·cases e
 ·have e2:g=k:=Option.some.inj e;subst e2;rw [hk] at h1;exact b cur (Option.some.inj h1).symm
structure FBx (V w W:World) (R:Nat) (out:List Nat) (q:Value) (A2:Option Addr) (c2:Nat):Prop where
 blk:Blk W R 157 (fcl q A2 out.length c2)
 used:q=.pointer none\/q=.pointer (some ⟨R,0,none⟩)
 own:W.ownsRow w.heap.size 5 1 (.slice A2 out.length c2) out.length (z08 out)
 chg:Chg NoS w W
 new:w.heap.size<=R
 kf:KF R V W
def FB (V w W:World) (R:Nat) (out:List Nat):Prop:=∃ q A2 c2,FBx V w W R out q A2 c2
section
variable {V w W W':World} {A2:Option Addr} {R c2:Nat} {out:List Nat} {q:Value}
theorem FBx.cells (h:FBx V w W R out q A2 c2):W.cell? ⟨R,0,none⟩=some q/\W.cell? ⟨R,1,none⟩=some (.slice A2 out.length c2):=by
 refine⟨?_,?_⟩<;>(rw [h.blk.cell];rfl)
theorem FBx.frozen (h:FBx V w W R out q A2 c2) (i:Nat):W.frozen? ⟨R,i,none⟩=false:=h.blk.frozen i
theorem FBx.shape (h:FBx V w W R out q A2 c2):W.shape? R=some (157,2):=by
 have h':W.heap[R]?=some (.cells (fcl q A2 out.length c2) 157 (0,0)):=h.blk;simp [World.shape?,h',fcl]
theorem FBx.neq (h:FBx V w W R out q A2 c2):(Value.slice A2 out.length c2).ownBlock≠some R:=z1i h.own h.blk (by decide)
theorem FBx.use (h:FBx V w W R out q A2 c2):FBx V w (W.setCell ⟨R,0,none⟩ (.pointer (some ⟨R,0,none⟩))) R out (.pointer (some ⟨R,0,none⟩)) A2 c2 :=
 ⟨h.blk.set_ 0 _,.inr rfl,z4h h.own h.neq,h.chg.setCell (p:=⟨R,0,none⟩) (fun e=>absurd e (Nat.not_lt.2 h.new)) _,h.new,h.kf.set _ _⟩
theorem FBx.call (h:FBx V w W R out q A2 c2) (hc:Chg NoS W W'):FBx V w W' R out q A2 c2 :=
 ⟨h.blk.chg hc (fun h=>h),h.used,z0i (S:=NoS) h.own hc (fun _ _ e=>e),h.chg.trans hc (fun _ _ e=>e),h.new,h.kf.trans (KF.chg hc)⟩
theorem FBx.drew (h:FBx V w W R out q A2 c2):FBx V w W.drew R out q A2 c2:=h.call ((Chg.refl _ _).drew)
theorem FBx.alloc (h:FBx V w W R out q A2 c2) (o:Obj):FBx V w (W.alloc o) R out q A2 c2:=h.call ((Chg.refl _ _).alloc o)
theorem FBx.grow {A3:Option Addr} {c3:Nat} {out':List Nat} (h:FBx V w W R out q A2 c2) (hg:W.grownBy W' (Value.slice A2 out.length c2).ownBlock)
  (ho:W'.ownsRow w.heap.size 5 1 (.slice A3 out'.length c3) out'.length (z08 out')):FBx V w (W'.setCell ⟨R,1,none⟩ (.slice A3 out'.length c3)) R out' q A3 c3:=by
 have hb:Blk W' R 157 (fcl q A2 out.length c2):=h.blk.grown hg h.neq.symm;have hne:(Value.slice A3 out'.length c3).ownBlock≠some R:=z1i ho hb (by decide);refine⟨hb.set_ 1 _,h.used,z4h ho hne,?_,h.new,(h.kf.grown h.own hg).set _ _⟩;exact(h.chg.grown hg (fun k hk e=>absurd e (Nat.not_lt.2 (h.own.lt k hk).1))).setCell (p:=⟨R,1,none⟩) (fun e=>absurd e (Nat.not_lt.2 h.new)) _
theorem FBx.at_cells (h:FBx V w W R out q A2 c2) (hg:W.grownBy W' (Value.slice A2 out.length c2).ownBlock):W'.cell? ⟨R,0,none⟩=some q/\W'.cell? ⟨R,1,none⟩=some (.slice A2 out.length c2)/\W'.frozen? ⟨R,1,none⟩=false:=by
 have hb:Blk W' R 157 (fcl q A2 out.length c2):=h.blk.grown hg h.neq.symm;exact⟨by rw [hb.cell];rfl,by rw [hb.cell];rfl,hb.frozen 1⟩
theorem FBx.fb (h:FBx V w W R out q A2 c2):FB V w W R out:=⟨_,_,_,h⟩
theorem FB.chg (h:FB V w W R out):Chg NoS w W:=by
 obtain⟨_,_,_,h⟩:=h;exact h.chg
theorem FB.call (h:FB V w W R out) (hc:Chg NoS W W'):FB V w W' R out:=by
 obtain⟨_,_,_,h⟩:=h;exact⟨_,_,_,h.call hc⟩
theorem FB.drew (h:FB V w W R out):FB V w W.drew R out:=h.call ((Chg.refl _ _).drew)
theorem FB.alloc (h:FB V w W R out) (o:Obj):FB V w (W.alloc o) R out:=h.call ((Chg.refl _ _).alloc o)
theorem FB.lt (h:FB V w W R out):R<W.heap.size:=by
 obtain⟨_,_,_,h⟩:=h;exact h.blk.lt
theorem FB.kf (h:FB V w W R out):KF R V W:=by
 obtain⟨_,_,_,h⟩:=h;exact h.kf
theorem FB.base {V':World} (h:FB V w W R out) (k:KF R V' W):FB V' w W R out:=by
 obtain⟨_,_,_,h⟩:=h;exact⟨_,_,_,h.blk,h.used,h.own,h.chg,h.new,k⟩
theorem FB.here (h:FB V w W R out):FB W w W R out:=h.base (KF.refl _ _)
theorem FB.start (w W:World) (hc:Chg NoS w W):FB w w (W.alloc (.cells #[.pointer none,.slice none 0 0] 157)) W.heap.size [] :=
 ⟨.pointer none,none,0,Blk.new W _ _,.inl rfl,z2p _ _ _ _,hc.alloc _,hc.size,KF.chg (hc.alloc _)⟩
end
theorem v1v:liesAt Tryz.prog Tryz.prog.depth 157 (2 / Tryz.prog.cellsOf 157) 0 155 1=true:=by kernel_rfl
theorem z84 {V w W:World} {A2:Option Addr} {R c2:Nat} {out:List Nat} {q:Value} (h:FBx V w W R out q A2 c2) :
  Calls Tryz.prog 166 #[.pointer (some ⟨R,0,none⟩)] W fun e W'=>e=.returned (.tuple #[])/\FBx V w W' R out (.pointer (some ⟨R,0,none⟩)) A2 c2:=by
 obtain⟨j,hj,hjs⟩:=Option.map_eq_some_iff.1 y3n;rcases h.used with rfl|rfl
 ·have h0:=h.cells.1;have hf:=h.frozen 0;have hsh:=h.shape;have HU:=kf h.use
  have g1:(convert 153 229 (.pointer (some ⟨R,0,none⟩))).run Tryz.prog W=.ok (.pointer (some ⟨R,0,none⟩)) W :=
   Lib.run_to_unsafe W ⟨R,0,none⟩ Tryz.underlying153 Tryz.underlying229 hj (by rw [hjs];decide) hsh (Nat.zero_lt_succ 1)
  have g2:(convert 229 153 (.pointer (some ⟨R,0,none⟩))).run Tryz.prog W=.ok (.pointer (some ⟨R,0,none⟩)) W :=
   Lib.run_from_unsafe W ⟨R,0,none⟩ Tryz.underlying229 Tryz.underlying153 hj hsh v1v
  clear h;go_enter Tryz.func166,Tryz.ntmps166;go_wp2;rw [run_callFunc_extern z4q (by kernel_rfl) (by kernel_rfl) (by kernel_rfl) (e:=Extern.AbiNoEscape.same) (by kernel_rfl)];rw [Lib.run_noEscape];simp only [Result.andThen];rw [Oper.upon_value];go_wp2;go_end0;exact⟨rfl,HU.out⟩
 ·have h0:=h.cells.1;have HU:=kf h;clear h;go_enter Tryz.func166,Tryz.ntmps166;go_wp2;rw [Lib.run_neq_ptr_same W _ Tryz.underlying153 hj];go_wp2;go_end0;exact⟨rfl,HU.out⟩
theorem z1u {V w W:World} {R:Nat} {out:List Nat} (h:FB V w W R out) (x:Nat) (hl:out.length<=1000000) :
  Calls Tryz.prog 172 #[.pointer (some ⟨R,0,none⟩),.int .u8 (x:Nat)] W fun e W'=>e=.returned .nilIface/\FB V w W' R (out++[x]):=by
 obtain⟨q,A2,c2,h⟩:=h;obtain⟨i0,hi,hz0,hz1,hz2⟩:=z2s z67;have HC:=kf (z84 h);clear h;go_enter Tryz.func172,Tryz.ntmps172;go_wp2_with (go_at_call 166;refine HC.out.mono ?_);rintro e w1 ⟨rfl,h1⟩;have c0:=h1.cells.1;have c1:=h1.cells.2;have hs:=h1.chg.size;have hown:=h1.own;have HR:=kf h1;clear h1;go_wp2_with (at_builtin;refine wpList_append_own _ rfl _ _ 32 rfl w.heap.size 5 i0 (.int .u8 0) 1 1 Tryz.underlying32 hi hz0 hz1 hz2 rfl (by decide) _ _ _ rfl (hown.alloc _) ⟨w1.heap.size,0,none⟩ 1 1 [.int .u8 (x:Nat)] rfl rfl ?c1 ?c2 ?c3 ?c4 ?c5 ?_)
 case c1 =>
  intro j u hj;match j,hj with
  |0,hj=>simp at hj;subst hj;simp [Addr.add]
 case c2=>intro u hu;simp at hu;subst hu;rfl
 case c3=>unfold maxLen;omega
 case c4=>omega
 case c5=>simp;omega
 intro v' w2 hown' hgrow _;have h2:=(HR.out.alloc (.cells #[.int .u8 (x:Nat)] 5)).at_cells hgrow;obtain⟨d0,d1,f1⟩:=h2;obtain⟨A3,c3,rfl,_⟩:=z0n hown';have hl1:(out++[x]).length=out.length+1:=by simp
 have HF:=kf ((HR.out.alloc (.cells #[.int .u8 (x:Nat)] 5)).grow (out':=out++[x]) (A3:=A3) (c3:=c3) hgrow (by rw [hl1,z3j];exact hown'));rw [hl1] at HF;clear hown hown' hgrow hl1;go_wp2;go_ret;exact⟨rfl,HF.out.fb⟩
theorem z16 {V w W:World} {R:Nat} {out:List Nat} (h:FB V w W R out) (l:List Nat) (hb:∀ d∈l,d<256) (hl:out.length<=1000000) (hl2:l.length<=1000000) :
  Calls Tryz.prog 136 #[.pointer (some ⟨R,0,none⟩),.string (sb l)] W fun e W'=>e=.returned (.tuple #[.int .i64 (l.length:Nat),.nilIface])/\FB V w W' R (out++l):=by
 obtain⟨q,A2,c2,h⟩:=h;obtain⟨i0,hi,hz0,hz1,hz2⟩:=z2s z67;have HC:=kf (z84 h);have hsz:=z01 l;have HS:=kf (z6d l hb);obtain⟨s,hs⟩:∃ s,sb l=s:=⟨_,rfl⟩
 rw [hs] at hsz HS ⊢;obtain⟨m,hm⟩:∃ m,l.length=m:=⟨_,rfl⟩
 have hm2:(out++l).length=out.length+m:=by rw [List.length_append,hm]
 rw [hm] at hsz hl2 ⊢;clear h hs hb;go_enter Tryz.func136,Tryz.ntmps136;go_wp2_with (go_at_call 166;refine HC.out.mono ?_);rintro e w1 ⟨rfl,h1⟩;have c0:=h1.cells.1;have c1:=h1.cells.2;have hs:=h1.chg.size;have hown:=h1.own;have HR:=kf h1;clear h1;go_wp2_with (at_builtin;refine Lib.wpList_append_own_string _ rfl _ _ 32 9 rfl w.heap.size 5 i0 Tryz.underlying32 Tryz.underlying9 hi hz0 hz1 hz2 _ _ _ rfl hown s rfl ?c3 ?c4 ?c5 ?_)
 case c3=>unfold maxLen;omega
 case c4=>omega
 case c5=>omega
 intro v' w2 hown' hgrow _;have h2:=HR.out.at_cells hgrow;obtain⟨d0,d1,f1⟩:=h2;(try rw [hsz] at hown')
 rw [HS.out,<- z3j] at hown';obtain⟨A3,c3,rfl,_⟩:=z0n hown';have HF:=kf (HR.out.grow (out':=out++l) (A3:=A3) (c3:=c3) hgrow (by rw [hm2];exact hown'));rw [hm2] at HF;clear hown hown' hgrow hm2 hm HS;go_wp2;go_ret2;exact⟨rfl,HF.out.fb⟩
theorem y0h {V w W:World} {R:Nat} {out:List Nat} (h:FB V w W R out) (hb:∀ d∈out,d<256) (hl:out.length<=1000000) :
  Calls Tryz.prog 99 #[.pointer (some ⟨R,0,none⟩)] W fun e W'=>e=.returned (.string (sb out))/\Chg NoS w W':=by
 obtain⟨q,A2,c2,h⟩:=h;have mixed:Tryz.prog.follows Departure.mixedOrders=true:=by kernel_rfl
 have hre:=h.chg.drew;have c1:=h.drew.cells.2;have hown:=h.own;have hne:=h.neq;have hnew:=h.new;obtain⟨m,hm⟩:∃ m,out.length=m:=⟨_,rfl⟩
 rw [hm] at c1 hown hne hl;rcases hown.2 with⟨hv,h0⟩|⟨g,cap,cur,hv,hbg,hg,hnc,hcm,hcs,htake⟩
 ·simp only [Value.slice.injEq] at hv;obtain⟨rfl,h0',rfl⟩:=hv;subst h0';obtain rfl:out=[]:=List.eq_nil_of_length_eq_zero hm;have hUS:∀ W2,(Builtin.unsafeString_ #[192,3] 9 #[.pointer none,.int .i64 0]).run Tryz.prog W2=.ok (.string .empty) W2:=fun W2=>Lib.run_unsafeString_none W2 _ _ _ none;have hSD:(Builtin.unsafeSliceData_ #[32] 192 #[.slice none 0 0]).run Tryz.prog W.drew=.ok (.pointer none) W.drew:=rfl;have HRE:=kf hre;clear hre hne hown h hm;go_enter Tryz.func99,Tryz.ntmps99;go_wp2;go_region_o
  all_goals (go_wp2;go_ret;exact⟨rfl,HRE.out⟩)
 ·simp only [Value.slice.injEq] at hv;obtain⟨rfl,_,rfl⟩:=hv;have hgR:R≠g:=fun e=>hne (by rw [e];rfl);have hgd:W.drew.heap[g]?=some (.cells cur 5 (0,0)):=hg;have hsh:W.drew.shape? g=some (5,cur.size):=by simp [World.shape?,hgd]
  by_cases h0:m=0
  ·subst h0;obtain rfl:out=[]:=List.eq_nil_of_length_eq_zero hm;have hUS:∀ W2 q,(Builtin.unsafeString_ #[192,3] 9 #[.pointer q,.int .i64 0]).run Tryz.prog W2=.ok (.string .empty) W2:=fun W2 q=>Lib.run_unsafeString_none W2 _ _ _ q;by_cases hc0:c2=0
   ·subst hc0
    have hSD:(Builtin.unsafeSliceData_ #[32] 192 #[.slice (some ⟨g,0,none⟩) 0 0]).run Tryz.prog W.drew=.ok (.pointer (some ⟨W.drew.heap.size,0,none⟩)) (W.drew.alloc (.view ⟨g,0,none⟩ 5)) :=
     Lib.run_unsafeSliceData_zero W.drew _ _ 5 Tryz.underlying192 ⟨g,0,none⟩ 0 (5,cur.size) hsh
    have k2:(W.drew.alloc (.view ⟨g,0,none⟩ 5)).cell? ⟨R,1,none⟩=some (.slice (some ⟨g,0,none⟩) 0 0) :=
     (((Chg.refl NoS W.drew).alloc _).cell (p:=⟨R,1,none⟩) (z04 c1) (fun h=>h)).trans c1
    have c3:(W.alloc (.view ⟨g,0,none⟩ 5)).drew.cell? ⟨R,1,none⟩=some (.slice (some ⟨g,0,none⟩) 0 0):=k2;have c0:W.cell? ⟨R,1,none⟩=some (.slice (some ⟨g,0,none⟩) 0 0):=c1;have HRE:=kf (hre.alloc (.view ⟨g,0,none⟩ 5));clear hre hne hown h hm hsh hgd hg hgR htake hcs hcm hnc;go_enter Tryz.func99,Tryz.ntmps99;go_wp2;go_region_o
    all_goals (go_wp2;go_ret;exact⟨rfl,HRE.out⟩)
   ·have hSD:(Builtin.unsafeSliceData_ #[32] 192 #[.slice (some ⟨g,0,none⟩) 0 c2]).run Tryz.prog W.drew=.ok (.pointer (some ⟨g,0,none⟩)) W.drew :=
     Lib.run_unsafeSliceData_row _ _ _ _ _ _ hc0
    have HRE:=kf hre;clear hre hne hown h hm hsh hgd hg hgR htake hcs hcm hnc hc0;go_enter Tryz.func99,Tryz.ntmps99;go_wp2;go_region_o
    all_goals (go_wp2;go_ret;exact⟨rfl,HRE.out⟩)
  ·have hSD:(Builtin.unsafeSliceData_ #[32] 192 #[.slice (some ⟨g,0,none⟩) m c2]).run Tryz.prog W.drew=.ok (.pointer (some ⟨g,0,none⟩)) W.drew :=
    Lib.run_unsafeSliceData_row _ _ _ _ _ _ (by omega)
   have hml:(out.map UInt8.ofNat).length=m:=by rw [List.length_map,hm]
   have hUS:(Builtin.unsafeString_ #[192,3] 9 #[.pointer (some ⟨g,0,none⟩),.int .i64 (m:Nat)]).run Tryz.prog W.drew=.ok (.string (sb out)) (W.drew.freeze ⟨g,0,none⟩ m):=by
    have hu:=Lib.run_unsafeString_row (P:=Tryz.prog) W.drew 192 3 9 5 Tryz.underlying192 z87 g cur.size hsh (out.map UInt8.ofNat) (fun e=>h0 (by rw [<- hml,e];rfl)) (by rw [hml];omega) (by rw [hml];unfold maxLen at hcm;omega) (fun j x hx=>by
     rw [List.getElem?_map] at hx;cases hj:out[j]? with
     |none=>rw [hj] at hx;cases hx
     |some y =>
      rw [hj] at hx;simp only [Option.map_some,Option.some.injEq] at hx;subst hx;have hy:=hb y (List.mem_of_getElem? hj);have:=hown.cells (g:=g) rfl j _ (z4n hj);have e:((UInt8.ofNat y).toNat:Nat)=y:=by simp;omega
      rw [e];exact this)
    rw [hml] at hu;exact hu
   have HRE:=kf (hre.freeze hbg m);obtain⟨s,hs⟩:∃ s,sb out=s:=⟨_,rfl⟩
   rw [hs] at hUS ⊢;clear hre hne hown h hm hsh hgd hg hgR htake hcs hcm hnc hml hs;go_enter Tryz.func99,Tryz.ntmps99;go_wp2;go_region_o
   all_goals (go_wp2;go_ret;exact⟨rfl,HRE.out⟩)
def z8p (d:Nat):Nat:=if d<10 then 48+d else 87+d
def z9a (c:Nat):List Nat:=[z8p (c / 16),z8p (c%16)]
theorem v55:∀ d,d<16->y0c (z8p d)=true/\z3s (z8p d)=false/\z8p d≠62/\z8p d≠60/\z8p d<256:=by decide
def nmC (c:Nat):List Nat:=if 32<c/\c<127/\c≠35/\z4p c=false then [c] else 35::z9a c
def nmL:List Nat->List Nat
 |[]=>[]
 |c::s=>nmC c++nmL s
def esC (c:Nat):List Nat:=if c=40\/c=41\/c=92 then [92,c] else [c]
def esL:List Nat->List Nat
 |[]=>[]
 |c::s=>esC c++esL s
def hxL:List Nat->List Nat
 |[]=>[]
 |c::s=>z9a c++hxL s
def z2i (s:List Nat):Prop:=∀ c∈s,32<=c/\c<=126
instance (s:List Nat):Decidable (z2i s):=inferInstanceAs (Decidable (∀ c∈s,32<=c/\c<=126))
def nmF (s:List Nat):List Nat:=47::nmL s
def txF (s:List Nat):List Nat:=if z2i s then 40::(esL s++[41]) else 60::(hxL s++[62])
theorem v2v (x:Int):∀ d∈z33 x,isD d\/d=45\/d=46:=by
 intro d hd;unfold z33 at hd;split at hd
 ·rw [List.mem_singleton] at hd;exact .inr (.inl hd)
 ·cases hd
theorem v4u (x:Int):∀ d∈z06 x,isD d\/d=45\/d=46:=by
 intro d hd;rcases List.mem_append.1 hd with h|h
 ·exact v2v x d h
 ·exact .inl (z52 _ _ d h)
theorem v2x (x:Int):∀ d∈z0q x,isD d\/d=45\/d=46:=by
 intro d hd;rcases List.mem_append.1 hd with h|h
 ·exact v2v x d h
 rcases List.mem_append.1 h with h|h
 ·exact .inl (z52 _ _ d h)
 rcases List.mem_cons.1 h with h|h
 ·exact .inr (.inr h)
 ·exact .inl (y5x 5 _ (z52 _ _) d h)
theorem y7y:∀ d,d<16->∀ h:d<(ByteArray.mk #[48,49,50,51,52,53,54,55,56,57,97,98,99,100,101,102]).size,((ByteArray.mk #[48,49,50,51,52,53,54,55,56,57,97,98,99,100,101,102])[d]'h).toNat=z8p d:=by decide
theorem y7z {d:Nat} (h:d<16):z8p d<256:=(v55 d h).2.2.2.2
theorem y80 {c:Nat} (h:c<256):∀ d∈z9a c,d<256:=by
 intro d hd;unfold z9a at hd;simp only [List.mem_cons,List.not_mem_nil,or_false] at hd;rcases hd with rfl|rfl
 ·exact y7z (by omega)
 ·exact y7z (by omega)
theorem v99 (c:Nat) (h:c<256):bits .and .u8 (c:Int) 15=(c%16:Nat):=by
 have hx:(BitVec.ofInt 8 (c:Int) &&& BitVec.ofInt 8 15).toNat=c%16:=by
  rw [BitVec.toNat_and];have e7:(BitVec.ofInt 8 15).toNat=2 ^ 4-1:=by decide
  rw [e7,Nat.and_two_pow_sub_one_eq_mod,BitVec.toNat_ofInt];omega
 show IntKind.u8.wrap ((BitVec.ofInt 8 (c:Int) &&& BitVec.ofInt 8 15).toNat:Int)=_;rw [hx];unfold IntKind.wrap;simp [IntKind.bits,IntKind.signed];omega
theorem y3f {V w W:World} {R:Nat} {out:List Nat} (h:FB V w W R out) (c:Nat) (hc:c<256) (hl:out.length<=500000) :
  Calls Tryz.prog 174 #[.pointer (some ⟨R,0,none⟩),.int .u8 (c:Nat)] W fun e W'=>e=.returned (.tuple #[])/\FB V w W' R (out++z9a c):=by
 obtain⟨a,ha⟩:∃ a,a=c / 16:=⟨_,rfl⟩
 obtain⟨b,hb⟩:∃ b,b=c%16:=⟨_,rfl⟩
 have ha16:a<16:=by omega
 have hb16:b<16:=by omega
 have HE:=kf (show out++z9a c=(out++[z8p a])++[z8p b] from by rw [ha,hb];unfold z9a;simp);have HW:=kf (fun V X o x (hX:FB V w X R o) (ho:o.length<=1000000)=>z1u hX x ho);have g1:=y7y a ha16;have g2:=y7y b hb16;have s2:c >>> 4=a:=by rw [ha,Nat.shiftRight_eq_div_pow]
 have s1:(c:Int) / 16=(a:Int):=by omega
 have s3:bits .and .u8 (c:Int) 15=(b:Int):=by rw [hb];exact v99 c hc
 have HF:=kf h;have i1:(a:Int)<16:=by omega
 have i2:(b:Int)<16:=by omega
 clear h ha hb;go_enter Tryz.func174,Tryz.ntmps174;go_wp2;go_region_held3 (fun _=>True) (first|trivial|(go_keep;done)) ((go_at_call 172;with_reducible refine(HW.out _ _ _ (z8p a) HF.out.drew (by omega)).mono ?_;rintro e w3 ⟨rfl,h3⟩;have HF2:=kf h3;clear h3))
 go_wp2;have hl2:(out++[z8p a]).length<=1000000:=by simp;omega
 go_region_held3 (fun _=>True) (first|trivial|(go_keep;done)) ((go_at_call 172;with_reducible refine(HW.out _ _ _ (z8p b) HF2.out.drew hl2).mono ?_;rintro e w4 ⟨rfl,h4⟩;have HF3:=kf h4;clear h4))
 go_wp2;go_end0;exact⟨rfl,by rw [HE.out];exact HF3.out⟩
theorem Chg.freezeP {w W:World} (h:Chg NoS w W) {p:Addr} (hg:w.heap.size<=p.block) (n:Nat):Chg NoS w (W.freeze p n) :=
 Chg.of_below (Lib.below_freeze (B:=w.heap.size) h.no_below hg n)
theorem y1x (W:World) (s:ByteArray) {R:Nat} (hR:R<W.heap.size):∃ cp W2,(convert 9 32 (.string s)).run Tryz.prog W=.ok (.slice (some ⟨W.heap.size,0,none⟩) s.size cp) W2/\Chg NoS W W2/\(∀ k,k<s.size->W2.cell? ⟨W.heap.size,k,none⟩=some (.int .u8 ((sl s).getD k 0:Nat))) /\
  ∀ k,k<s.size->∀ X,KF R W2 X->X.cell? ⟨W.heap.size,k,none⟩=some (.int .u8 ((sl s).getD k 0:Nat)):=by
 have hcell:∀ k,k<s.size->(Lib.bytesWorld W 5 s).cell? ⟨W.heap.size,k,none⟩=some (.int .u8 ((sl s).getD k 0:Nat)):=fun k hk=>by
  rw [Lib.bytesWorld_cell W 5 s k hk];have h1:k<s.data.toList.length:=by rw [Array.length_toList];exact hk
  rw [List.getD_eq_getElem?_getD,List.getD_eq_getElem?_getD,sl,List.getElem?_map,List.getElem?_eq_getElem h1];rfl
 refine⟨_,_,Lib.run_convert_string_bytes W 9 32 5 s Tryz.underlying9 Tryz.underlying32 Tryz.underlying5,?_,hcell,fun k hk X hX=>?_⟩
 ·unfold Lib.bytesWorld;exact(((Chg.refl NoS W).drew).alloc _).freezeP (p:=⟨W.heap.size,_,none⟩) (Nat.le_refl _) 1
 ·rw [<- hcell k hk];have h1:=Lib.bytesWorld_at_new W 5 s;refine World.cell?_of_block (a:=⟨W.heap.size,k,none⟩) ((hX _ _ (by omega) (fun cs e=>?_) h1).trans h1.symm);have h2:=(Obj.cells.inj e).2.2;exact absurd (congrArg Prod.snd h2) (Nat.succ_ne_zero _)
theorem y8z {l:List Nat} {k:Nat} (h:k<l.length):l.drop k=l.getD k 0::l.drop (k+1):=by
 rw [List.getD_eq_getElem?_getD,List.getElem?_eq_getElem h];exact List.drop_eq_getElem_cons h
theorem y3a {l:List Nat} {k:Nat} (h:k<l.length):hxL (l.take (k+1))=hxL (l.take k)++z9a (l.getD k 0):=by
 have e:l.take (k+1)=l.take k++[l.getD k 0]:=z1k (by rw [List.getD_eq_getElem?_getD,List.getElem?_eq_getElem h];rfl)
 have ha:∀ a b,hxL (a++b)=hxL a++hxL b:=by
  intro a b;induction a with
  |nil=>rfl
  |cons c a ih=>rw [List.cons_append,hxL,hxL,ih,List.append_assoc]
 rw [e,ha];simp [hxL]
theorem y8u:∀ a b,esL (a++b)=esL a++esL b:=by
 intro a b;induction a with
 |nil=>rfl
 |cons c a ih=>rw [List.cons_append,esL,esL,ih,List.append_assoc]
theorem y3g {l:List Nat} {k:Nat} (h:k<l.length):esL (l.take (k+1))=esL (l.take k)++esC (l.getD k 0):=by
 have e:l.take (k+1)=l.take k++[l.getD k 0]:=z1k (by rw [List.getD_eq_getElem?_getD,List.getElem?_eq_getElem h];rfl);rw [e,y8u];simp [esL]
theorem z8o:∀ l:List Nat,(hxL l).length=2*l.length
 |[]=>rfl
 |c::l=>by rw [hxL,List.length_append,z8o l,List.length_cons];show 2+_=_;omega
theorem v7y (c:Nat):1<=(esC c).length:=by unfold esC;split<;>simp
theorem y8t:∀ l:List Nat,l.length<=(esL l).length
 |[]=>Nat.le_refl _
 |c::l=>by rw [esL,List.length_append,List.length_cons];have:=y8t l;have:=v7y c;omega
theorem v1y (l:List Nat) (k:Nat):(esL (l.take k)).length<=(esL l).length:=by
 have e:esL l=esL (l.take k)++esL (l.drop k):=by rw [<- y8u,List.take_append_drop]
 rw [e,List.length_append];omega
theorem z6x (s:ByteArray) (k:Nat):(sl s).getD k 0<256:=by
 rw [List.getD_eq_getElem?_getD];cases h:(sl s)[k]? with
 |none=>exact Nat.zero_lt_succ _
 |some x=>exact v0g s x (List.mem_of_getElem? h)
theorem v1u {V w W:World} {R:Nat} {out:List Nat} (h:FB V w W R out) (s:ByteArray) (hl:out.length+(hxL (sl s)).length+2<=400000) :
  Calls Tryz.prog 170 #[.pointer (some ⟨R,0,none⟩),.string s] W fun e W'=>e=.returned (.tuple #[])/\FB V w W' R (out++60::(hxL (sl s)++[62])):=by
 have HW:=kf (fun V X o x (hX:FB V w X R o) (ho:o.length<=1000000)=>z1u hX x ho);have HD:=kf (fun V X o c (hX:FB V w X R o) (hc:c<256) (ho:o.length<=500000)=>y3f hX c hc ho);have HF:=kf h;obtain⟨n,hn⟩:∃ n,s.size=n:=⟨_,rfl⟩
 have HN:=kf (show(sl s).length=n from by rw [z1a,hn]);rw [z8o,HN.out] at hl;have hn1:n<=400000:=by omega
 clear h;go_enter Tryz.func170,Tryz.ntmps170;go_upto_region 1 with(go_at_call 172;refine(HW.out _ _ _ 60 HF.out (by omega)).mono ?_;rintro e w1 ⟨rfl,h1⟩;have HF1:=kf h1;clear h1);obtain⟨cp,W2,hcv,hc2,hcell,hkeep⟩:=y1x w1 s HF1.out.lt;rw [hn] at hcv hcell hkeep;have HF2:=kf (HF1.out.call hc2);have HCE:=kf hkeep;have HGL:=kf (show ∀ k,(sl s).getD k 0<256 from z6x s);obtain⟨g,hg⟩:∃ g,g=w1.heap.size:=⟨_,rfl⟩
 rw [<- hg] at hcv HCE;have HKF:=kf HF2.out.kf;clear hc2 hcell hkeep hn hg;go_upto_region 2 with fail;go_loopw [13] (fun vi wr=>∃ k:Nat,k<=n/\vi=.int .i64 (k:Nat)/\Hid (FB W2 w wr R (out++[60]++hxL ((sl s).take k)))) (fun vi _=>n-(intOf vi).toNat)
 case atStart=>exact⟨0,by omega,rfl,by rw [List.take_zero,hxL,List.append_nil];exact HF2.out.here⟩
 case round =>
  obtain⟨k,hk,rfl,HT⟩:=hrel
  have hlen:(out++[60]++hxL ((sl s).take k)).length<=500000:=by
   rw [List.length_append,z8o,List.length_append,List.length_take];simp only [List.length_cons,List.length_nil];omega
  obtain⟨o,ho⟩:∃ o,o=out++[60]++hxL ((sl s).take k):=⟨_,rfl⟩
  rw [<- ho] at HT hlen;have HO:=kf ho;clear ho;by_cases hlt:k<n
  ·have c0:=HCE.out k hlt wr HT.out.kf;have hc256:=HGL.out k;have HV:=kf (show out++[60]++hxL ((sl s).take (k+1))=o++z9a ((sl s).getD k 0) from by rw [HO.out,y3a (by rw [HN.out];exact hlt),<- List.append_assoc]);obtain⟨c,hc⟩:∃ c,c=(sl s).getD k 0:=⟨_,rfl⟩
   rw [<- hc] at c0 hc256 HV;clear hc;go_wp2_with (go_at_call 174;refine(HD.out _ _ _ c HT.out hc256 hlen).mono ?_;rintro e w3 ⟨rfl,h3⟩;have HT3:=kf h3;clear h3);go_roundw
   case rel=>exact⟨k+1,by omega,by go_num,by rw [HV.out];exact HT3.out⟩
   case measure=>simp [intOf];omega
  ·obtain rfl:k=n:=by omega
   have HV:=kf (show out++60::(hxL (sl s)++[62])=o++[62] from by rw [HO.out,List.take_of_length_le (by rw [HN.out];exact Nat.le_refl _)];simp);go_wp2_with (go_at_call 172;refine(HW.out _ _ _ 62 HT.out (by omega)).mono ?_;rintro e w3 ⟨rfl,h3⟩;have HT3:=kf h3;clear h3);go_end0;exact⟨rfl,by rw [HV.out];exact HT3.out.base (HKF.out.trans HT3.out.kf)⟩
theorem v7x {c:Nat} (h:c<256):∀ d∈esC c,d<256:=by
 intro d hd;unfold esC at hd;split at hd
 ·simp only [List.mem_cons,List.not_mem_nil,or_false] at hd;omega
 ·simp only [List.mem_cons,List.not_mem_nil,or_false] at hd;omega
theorem y4y {V w W:World} {R:Nat} {out:List Nat} (h:FB V w W R out) (s:ByteArray) (hl:out.length+(esL (sl s)).length+2<=400000) :
  Calls Tryz.prog 171 #[.pointer (some ⟨R,0,none⟩),.string s] W fun e W'=>e=.returned (.tuple #[])/\FB V w W' R (out++40::(esL (sl s)++[41])):=by
 have HW:=kf (fun V X o x (hX:FB V w X R o) (ho:o.length<=1000000)=>z1u hX x ho);have HF:=kf h;obtain⟨n,hn⟩:∃ n,s.size=n:=⟨_,rfl⟩
 have HN:=kf (show(sl s).length=n from by rw [z1a,hn]);have hn1:n<=400000:=by have:=y8t (sl s);rw [HN.out] at this;omega
 have hle:Hid (∀ k,out.length+1+(esL ((sl s).take k)).length<=400000):=fun k=>by have:=v1y (sl s) k;omega
 clear h;go_enter Tryz.func171,Tryz.ntmps171;go_upto_region 1 with(go_at_call 172;refine(HW.out _ _ _ 40 HF.out (by omega)).mono ?_;rintro e w1 ⟨rfl,h1⟩;have HF1:=kf h1;clear h1);obtain⟨cp,W2,hcv,hc2,hcell,hkeep⟩:=y1x w1 s HF1.out.lt;rw [hn] at hcv hcell hkeep;have HF2:=kf (HF1.out.call hc2);have HCE:=kf hkeep;have HGL:=kf (show ∀ k,(sl s).getD k 0<256 from z6x s);obtain⟨g,hg⟩:∃ g,g=w1.heap.size:=⟨_,rfl⟩
 rw [<- hg] at hcv HCE;have HKF:=kf HF2.out.kf;clear hc2 hcell hkeep hn hg;go_upto_region 2 with fail;go_loopw [13] (fun vi wr=>∃ k:Nat,k<=n/\vi=.int .i64 (k:Nat)/\Hid (FB W2 w wr R (out++[40]++esL ((sl s).take k)))) (fun vi _=>n-(intOf vi).toNat)
 case atStart=>exact⟨0,by omega,rfl,by rw [List.take_zero,esL,List.append_nil];exact HF2.out.here⟩
 case round =>
  obtain⟨k,hk,rfl,HT⟩:=hrel
  have hlen:(out++[40]++esL ((sl s).take k)).length<=500000:=by
   have:=hle.out k;rw [List.length_append,List.length_append];simp only [List.length_cons,List.length_nil];omega
  obtain⟨o,ho⟩:∃ o,o=out++[40]++esL ((sl s).take k):=⟨_,rfl⟩
  rw [<- ho] at HT hlen;have HO:=kf ho;clear ho;by_cases hlt:k<n
  ·have c0:=HCE.out k hlt wr HT.out.kf;have hc256:=HGL.out k;have HV:=kf (show out++[40]++esL ((sl s).take (k+1))=o++esC ((sl s).getD k 0) from by rw [HO.out,y3g (by rw [HN.out];exact hlt),<- List.append_assoc]);obtain⟨c,hc⟩:∃ c,c=(sl s).getD k 0:=⟨_,rfl⟩
   rw [<- hc] at c0 hc256 HV;clear hc;by_cases h40:c=40
   ·subst h40;have HVE:=kf (show o++esC 40=o++[92]++[40] from by simp [esC]);have hl2:(o++[92]).length<=1000000:=by simp;omega
    go_wp2_with first
     |(have hx:=HT3.out;go_at_call 172;refine(HW.out _ _ _ 40 HT3.out hl2).mono ?_;rintro e w4 ⟨rfl,h4⟩;have HT4:=kf h4;clear h4 hx)
     |(go_at_call 172;refine(HW.out _ _ _ 92 HT.out (by omega)).mono ?_;rintro e w3 ⟨rfl,h3⟩;have HT3:=kf h3;clear h3)
    go_roundw
    case rel=>exact⟨k+1,by omega,by go_num,by rw [HV.out,HVE.out];exact HT4.out⟩
    case measure=>simp [intOf];omega
   by_cases h41:c=41
   ·subst h41;have HVE:=kf (show o++esC 41=o++[92]++[41] from by simp [esC]);have hl2:(o++[92]).length<=1000000:=by simp;omega
    go_wp2_with first
     |(have hx:=HT3.out;go_at_call 172;refine(HW.out _ _ _ 41 HT3.out hl2).mono ?_;rintro e w4 ⟨rfl,h4⟩;have HT4:=kf h4;clear h4 hx)
     |(go_at_call 172;refine(HW.out _ _ _ 92 HT.out (by omega)).mono ?_;rintro e w3 ⟨rfl,h3⟩;have HT3:=kf h3;clear h3)
    go_roundw
    case rel=>exact⟨k+1,by omega,by go_num,by rw [HV.out,HVE.out];exact HT4.out⟩
    case measure=>simp [intOf];omega
   by_cases h92:c=92
   ·subst h92;have HVE:=kf (show o++esC 92=o++[92]++[92] from by simp [esC]);have hl2:(o++[92]).length<=1000000:=by simp;omega
    go_wp2_with first
     |(have hx:=HT3.out;go_at_call 172;refine(HW.out _ _ _ 92 HT3.out hl2).mono ?_;rintro e w4 ⟨rfl,h4⟩;have HT4:=kf h4;clear h4 hx)
     |(go_at_call 172;refine(HW.out _ _ _ 92 HT.out (by omega)).mono ?_;rintro e w3 ⟨rfl,h3⟩;have HT3:=kf h3;clear h3)
    go_roundw
    case rel=>exact⟨k+1,by omega,by go_num,by rw [HV.out,HVE.out];exact HT4.out⟩
    case measure=>simp [intOf];omega
   have HVE:=kf (show o++esC c=o++[c] from by unfold esC;rw [if_neg (by omega)]);have e1:((c:Int)==40)=false:=by simp;omega
   have e1':(c==40)=false:=by simp;omega
   have e2:((c:Int)==41)=false:=by simp;omega
   have e2':(c==41)=false:=by simp;omega
   have e3:((c:Int)==92)=false:=by simp;omega
   have e3':(c==92)=false:=by simp;omega
   clear h40 h41 h92;go_wp2_with (go_at_call 172;with_reducible refine(HW.out _ _ _ c HT.out (by omega)).mono ?_;rintro e w3 ⟨rfl,h3⟩;have HT3:=kf h3;clear h3);go_roundw
   case rel=>exact⟨k+1,by omega,by go_num,by rw [HV.out,HVE.out];exact HT3.out⟩
   case measure=>simp [intOf];omega
  ·obtain rfl:k=n:=by omega
   have HV:=kf (show out++40::(esL (sl s)++[41])=o++[41] from by rw [HO.out,List.take_of_length_le (by rw [HN.out];exact Nat.le_refl _)];simp);go_wp2_with (go_at_call 172;refine(HW.out _ _ _ 41 HT.out (by omega)).mono ?_;rintro e w3 ⟨rfl,h3⟩;have HT3:=kf h3;clear h3);go_end0;exact⟨rfl,by rw [HV.out];exact HT3.out.base (HKF.out.trans HT3.out.kf)⟩
def v2l (x:Nat):Bool:=decide (x<32\/126<x)
theorem v1h (s:ByteArray):∀ f pos,s.size<=pos+f->(Lib.idxFuncFrom v2l true s f pos<0↔∀ k,pos<=k->k<s.size->32<=(sl s).getD k 0/\(sl s).getD k 0<=126):=by
 intro f;induction f with
 |zero=>intro pos h;simp only [Lib.idxFuncFrom];exact⟨fun _ k h1 h2=>by omega,fun _=>by decide⟩
 |succ f ih =>
  intro pos h;rw [Lib.idxFuncFrom];by_cases hp:pos<s.size
  ·rw [if_pos hp];have hat:=z5t s pos hp;by_cases h128:(s[pos]'hp).toNat<128
   ·rw [decode_ascii s pos hp h128];simp only [];rw [hat];by_cases hb:v2l ((sl s).getD pos 0)=true
    ·rw [if_pos hb];have hb2:=of_decide_eq_true hb;refine⟨fun h=>by omega,fun h2=>?_⟩;have:=h2 pos (Nat.le_refl _) hp;omega
    ·rw [if_neg hb,ih (pos+1) (by omega)];have hb2:¬((sl s).getD pos 0<32\/126<(sl s).getD pos 0):=fun e=>hb (decide_eq_true e);refine⟨fun h2 k hk1 hk2=>?_,fun h2 k hk1 hk2=>h2 k (by omega) hk2⟩;by_cases e:k=pos
     ·subst e;omega
     ·exact h2 k (by omega) hk2
   ·have hd:=(decode_high s pos hp (by omega)).1;have hb:v2l (Utf8.decode s pos).1=true:=decide_eq_true (.inr (by omega));rw [if_pos hb];refine⟨fun h=>by omega,fun h2=>?_⟩;have:=h2 pos (Nat.le_refl _) hp;omega
  ·rw [if_neg hp];exact⟨fun _ k h1 h2=>by omega,fun _=>by decide⟩
theorem v1t (s:ByteArray):decide (0<=Lib.idxFunc v2l true s)=!decide (z2i (sl s)):=by
 have h:=v1h s s.size 0 (by omega)
 have h2:z2i (sl s)↔∀ k,0<=k->k<s.size->32<=(sl s).getD k 0/\(sl s).getD k 0<=126:=by
  constructor
  ·intro hf k _ hk;exact hf _ (List.mem_of_getElem? (z9s hk))
  ·intro hf c hc;obtain⟨k,hk,rfl⟩:=List.mem_iff_getElem.1 hc;have:=hf k (Nat.zero_le _) (by rwa [z1a] at hk);rwa [List.getD_eq_getElem?_getD,List.getElem?_eq_getElem hk] at this
 unfold Lib.idxFunc;by_cases hf:z2i (sl s)
 ·have:=h.2 (h2.1 hf);rw [decide_eq_true hf,decide_eq_false (by omega)];rfl
 ·have:¬_:=fun e=>hf (h2.2 (h.1 e));rw [decide_eq_false hf,decide_eq_true (by omega)];rfl
theorem v1w (x:Nat) (w:World):Calls Tryz.prog 169 #[.int .i32 (x:Nat)] w fun e w'=>e=.returned (.bool (v2l x))/\w'=w:=by
 by_cases h1:x<32
 ·have e:v2l x=true:=decide_eq_true (.inl h1);have d1:decide ((x:Int)<32)=true:=by simp;omega
  have d1':decide (x<32)=true:=by simp;omega
  rw [e];clear e;go_enter Tryz.func169,Tryz.ntmps169;go_wp2;go_ret;exact⟨rfl,rfl⟩
 ·have d1:decide ((x:Int)<32)=false:=by simp;omega
  have d1':decide (x<32)=false:=by simp;omega
  by_cases h2:126<x
  ·have e:v2l x=true:=decide_eq_true (.inr h2);have d2:decide ((126:Int)<x)=true:=by simp;omega
   have d2':decide (126<x)=true:=by simp;omega
   rw [e];clear e;go_enter Tryz.func169,Tryz.ntmps169;go_wp2;go_ret;exact⟨rfl,rfl⟩
  ·have e:v2l x=false:=decide_eq_false (by omega);have d2:decide ((126:Int)<x)=false:=by simp;omega
   have d2':decide (126<x)=false:=by simp;omega
   rw [e];clear e;go_enter Tryz.func169,Tryz.ntmps169;go_wp2;go_ret;exact⟨rfl,rfl⟩
theorem y8a {V w W:World} {R:Nat} {out:List Nat} (h:FB V w W R out) (s:ByteArray) (hl:out.length+(txF (sl s)).length<=400000) :
  Calls Tryz.prog 139 #[.pointer (some ⟨R,0,none⟩),.string s] W fun e W'=>e=.returned (.tuple #[])/\FB V w W' R (out++txF (sl s)):=by
 have HC:=kf (Go.Proofs.Tryz.strings_ContainsFunc_grows 169 #[] (fun args w=>rfl) v2l s W (fun X x _ _=>(v1w x X).mono fun e w' h=>⟨h.1,h.2 ▸ Below.refl _ _⟩));rw [v1t] at HC;have HF:=kf h;by_cases hf:z2i (sl s)
 ·have HE:=kf (show txF (sl s)=40::(esL (sl s)++[41]) from by unfold txF;rw [if_pos hf]);have HP:=kf (fun X (hX:FB V w X R out)=>y4y hX s (by rw [HE.out] at hl;simp at hl;omega));rw [decide_eq_true hf] at HC;rw [Bool.not_true] at HC;clear h hf;go_enter Tryz.func139,Tryz.ntmps139
  go_wp2_with first
   |(go_at_call 168;refine HC.out.mono ?_;rintro e w1 ⟨rfl,h1⟩;have HF1:=kf (HF.out.call (Chg.of_below h1));clear h1)
   |(go_at_call 171;refine(HP.out _ HF1.out).mono ?_;rintro e w2 ⟨rfl,h2⟩;have HF2:=kf h2;clear h2)
  go_end0;exact⟨rfl,by rw [HE.out];exact HF2.out⟩
 ·have HE:=kf (show txF (sl s)=60::(hxL (sl s)++[62]) from by unfold txF;rw [if_neg hf]);have HH:=kf (fun X (hX:FB V w X R out)=>v1u hX s (by rw [HE.out] at hl;simp at hl;omega));rw [decide_eq_false hf] at HC;rw [Bool.not_false] at HC;clear h hf;go_enter Tryz.func139,Tryz.ntmps139
  go_wp2_with first
   |(go_at_call 168;refine HC.out.mono ?_;rintro e w1 ⟨rfl,h1⟩;have HF1:=kf (HF.out.call (Chg.of_below h1));clear h1)
   |(go_at_call 170;refine(HH.out _ HF1.out).mono ?_;rintro e w2 ⟨rfl,h2⟩;have HF2:=kf h2;clear h2)
  go_end0;exact⟨rfl,by rw [HE.out];exact HF2.out⟩
theorem y7b:∀ a b,nmL (a++b)=nmL a++nmL b:=by
 intro a b;induction a with
 |nil=>rfl
 |cons c a ih=>rw [List.cons_append,nmL,nmL,ih,List.append_assoc]
theorem y35 {l:List Nat} {k:Nat} (h:k<l.length):nmL (l.take (k+1))=nmL (l.take k)++nmC (l.getD k 0):=by
 have e:l.take (k+1)=l.take k++[l.getD k 0]:=z1k (by rw [List.getD_eq_getElem?_getD,List.getElem?_eq_getElem h];rfl);rw [e,y7b];simp [nmL]
theorem v7f (c:Nat):1<=(nmC c).length:=by unfold nmC;split<;>simp
theorem v34:∀ l:List Nat,l.length<=(nmL l).length
 |[]=>Nat.le_refl _
 |c::l=>by rw [nmL,List.length_append,List.length_cons];have:=v34 l;have:=v7f c;omega
theorem v18 (l:List Nat) (k:Nat):(nmL (l.take k)).length<=(nmL l).length:=by
 have e:nmL l=nmL (l.take k)++nmL (l.drop k):=by rw [<- y7b,List.take_append_drop]
 rw [e,List.length_append];omega
theorem y8k {V w W:World} {R:Nat} {out:List Nat} (h:FB V w W R out) (s:ByteArray) (hl:out.length+(nmF (sl s)).length<=400000) :
  Calls Tryz.prog 140 #[.pointer (some ⟨R,0,none⟩),.string s] W fun e W'=>e=.returned (.tuple #[])/\FB V w W' R (out++nmF (sl s)):=by
 have HW:=kf (fun V X o x (hX:FB V w X R o) (ho:o.length<=1000000)=>z1u hX x ho);have HD:=kf (fun V X o c (hX:FB V w X R o) (hc:c<256) (ho:o.length<=500000)=>y3f hX c hc ho);have HDL:=kf (fun y X=>z7w y X);have HF:=kf h;obtain⟨n,hn⟩:∃ n,s.size=n:=⟨_,rfl⟩
 have HN:=kf (show(sl s).length=n from by rw [z1a,hn]);rw [nmF,List.length_cons] at hl;have hn1:n<=400000:=by have:=v34 (sl s);rw [HN.out] at this;omega
 have hle:Hid (∀ k,out.length+1+(nmL ((sl s).take k)).length<=400000):=fun k=>by have:=v18 (sl s) k;omega
 clear h;go_enter Tryz.func140,Tryz.ntmps140;go_upto_region 1 with(go_at_call 172;refine(HW.out _ _ _ 47 HF.out (by omega)).mono ?_;rintro e w1 ⟨rfl,h1⟩;have HF1:=kf h1;clear h1);obtain⟨cp,W2,hcv,hc2,hcell,hkeep⟩:=y1x w1 s HF1.out.lt;rw [hn] at hcv hcell hkeep;have HF2:=kf (HF1.out.call hc2);have HCE:=kf hkeep;have HGL:=kf (show ∀ k,(sl s).getD k 0<256 from z6x s);obtain⟨g,hg⟩:∃ g,g=w1.heap.size:=⟨_,rfl⟩
 rw [<- hg] at hcv HCE;have HKF:=kf HF2.out.kf;clear hc2 hcell hkeep hn hg;go_upto_region 2 with fail;go_loopw [13] (fun vi wr=>∃ k:Nat,k<=n/\vi=.int .i64 (k:Nat)/\Hid (FB W2 w wr R (out++[47]++nmL ((sl s).take k)))) (fun vi _=>n-(intOf vi).toNat)
 case atStart=>exact⟨0,by omega,rfl,by rw [List.take_zero,nmL,List.append_nil];exact HF2.out.here⟩
 case round =>
  obtain⟨k,hk,rfl,HT⟩:=hrel
  have hlen:(out++[47]++nmL ((sl s).take k)).length<=499000:=by
   have:=hle.out k;rw [List.length_append,List.length_append];simp only [List.length_cons,List.length_nil];omega
  obtain⟨o,ho⟩:∃ o,o=out++[47]++nmL ((sl s).take k):=⟨_,rfl⟩
  rw [<- ho] at HT hlen;have HO:=kf ho;clear ho;by_cases hlt:k<n
  ·have c0:=HCE.out k hlt wr HT.out.kf;have hc256:=HGL.out k;have HV:=kf (show out++[47]++nmL ((sl s).take (k+1))=o++nmC ((sl s).getD k 0) from by rw [HO.out,y35 (by rw [HN.out];exact hlt),<- List.append_assoc]);obtain⟨c,hc⟩:∃ c,c=(sl s).getD k 0:=⟨_,rfl⟩
   rw [<- hc] at c0 hc256 HV;clear hc;have hl2:(o++[35]).length<=500000:=by simp;omega
   have HDC:=kf (fun X=>HDL.out c X);by_cases hg:32<c/\c<127/\c≠35/\z4p c=false
   ·have HVE:=kf (show o++nmC c=o++[c] from by unfold nmC;rw [if_pos hg]);have HDC1:=kf (fun X=>HDC.out X);rw [hg.2.2.2] at HDC1;obtain⟨g1,g2,g3,_⟩:=hg;have d1:decide ((c:Int)<33)=false:=by simp;omega
    have d1':decide (c<33)=false:=by simp;omega
    have d2:decide ((126:Int)<c)=false:=by simp;omega
    have d2':decide (126<c)=false:=by simp;omega
    have d3:((c:Int)==35)=false:=by simp;omega
    have d3':(c==35)=false:=by simp;omega
    clear g1 g2 g3 HDC
    go_wp2_with first
     |(go_at_call 173;refine(HDC1.out _).mono ?_;rintro e w5 ⟨rfl,rfl⟩)
     |(go_at_call 172;with_reducible refine(HW.out _ _ _ c HT.out (by omega)).mono ?_;rintro e w3 ⟨rfl,h3⟩;have HT3:=kf h3;clear h3)
    go_roundw
    case rel=>exact⟨k+1,by omega,by go_num,by rw [HV.out,HVE.out];exact HT3.out⟩
    case measure=>simp [intOf];omega
   have HVE:=kf (show o++nmC c=o++[35]++z9a c from by unfold nmC;rw [if_neg hg];simp);by_cases h1:c<33
   ·have d1:decide ((c:Int)<33)=true:=by simp;omega
    have d1':decide (c<33)=true:=by simp;omega
    clear hg h1
    go_wp2_with first
     |(go_at_call 172;refine(HW.out _ _ _ 35 HT.out (by omega)).mono ?_;rintro e w3 ⟨rfl,h3⟩;have HT3:=kf h3;clear h3)
     |(go_at_call 174;refine(HD.out _ _ _ c HT3.out hc256 hl2).mono ?_;rintro e w4 ⟨rfl,h4⟩;have HT4:=kf h4;clear h4)
    go_roundw
    case rel=>exact⟨k+1,by omega,by go_num,by rw [HV.out,HVE.out];exact HT4.out⟩
    case measure=>simp [intOf];omega
   have d1:decide ((c:Int)<33)=false:=by simp;omega
   have d1':decide (c<33)=false:=by simp;omega
   by_cases h2:126<c
   ·have d2:decide ((126:Int)<c)=true:=by simp;omega
    have d2':decide (126<c)=true:=by simp;omega
    clear hg h1 h2
    go_wp2_with first
     |(go_at_call 172;refine(HW.out _ _ _ 35 HT.out (by omega)).mono ?_;rintro e w3 ⟨rfl,h3⟩;have HT3:=kf h3;clear h3)
     |(go_at_call 174;refine(HD.out _ _ _ c HT3.out hc256 hl2).mono ?_;rintro e w4 ⟨rfl,h4⟩;have HT4:=kf h4;clear h4)
    go_roundw
    case rel=>exact⟨k+1,by omega,by go_num,by rw [HV.out,HVE.out];exact HT4.out⟩
    case measure=>simp [intOf];omega
   have d2:decide ((126:Int)<c)=false:=by simp;omega
   have d2':decide (126<c)=false:=by simp;omega
   by_cases h3:c=35
   ·subst h3;clear hg h1 h2
    go_wp2_with first
     |(go_at_call 172;refine(HW.out _ _ _ 35 HT.out (by omega)).mono ?_;rintro e w3 ⟨rfl,h3⟩;have HT3:=kf h3;clear h3)
     |(go_at_call 174;refine(HD.out _ _ _ 35 HT3.out hc256 hl2).mono ?_;rintro e w4 ⟨rfl,h4⟩;have HT4:=kf h4;clear h4)
    go_roundw
    case rel=>exact⟨k+1,by omega,by go_num,by rw [HV.out,HVE.out];exact HT4.out⟩
    case measure=>simp [intOf];omega
   have d3:((c:Int)==35)=false:=by simp;omega
   have d3':(c==35)=false:=by simp;omega
   have hdl:z4p c=true:=by
    cases h4:z4p c with
    |true=>rfl
    |false=>exact absurd ⟨by omega,by omega,h3,h4⟩ hg
   have HDC1:=kf (fun X=>HDC.out X);rw [hdl] at HDC1;clear hg h1 h2 h3 hdl HDC
   go_wp2_with first
    |(go_at_call 173;refine(HDC1.out _).mono ?_;rintro e w5 ⟨rfl,rfl⟩)
    |(go_at_call 172;refine(HW.out _ _ _ 35 HT.out (by omega)).mono ?_;rintro e w3 ⟨rfl,h3⟩;have HT3:=kf h3;clear h3)
    |(go_at_call 174;refine(HD.out _ _ _ c HT3.out hc256 hl2).mono ?_;rintro e w4 ⟨rfl,h4⟩;have HT4:=kf h4;clear h4)
   go_roundw
   case rel=>exact⟨k+1,by omega,by go_num,by rw [HV.out,HVE.out];exact HT4.out⟩
   case measure=>simp [intOf];omega
  ·obtain rfl:k=n:=by omega
   have HV:=kf (show out++nmF (sl s)=o from by rw [HO.out,List.take_of_length_le (by rw [HN.out];exact Nat.le_refl _)];simp [nmF]);go_wp2_with fail;go_end0;exact⟨rfl,by rw [HV.out];exact HT.out.base (HKF.out.trans HT.out.kf)⟩
end Go.Proofs.YtnhlalkeaaiefaaGreatDoor
