/- Merged by program. -/
import Derived.Test.YthejpkflcgjdoaaGreatDoorE21
import Derived.Test.YthejpkflcgjdoaaGreatDoorE25
set_option linter.unusedVariables false
set_option linter.unusedSimpArgs false
namespace Go.Proofs.YthejpkflcgjdoaaGreatDoor
open Go.RowKit
def askX (e:Int) (b:Bool):Int:=if e=0/\b=false then 20 else e
theorem askX_err {e:Int} {b:Bool} (h:e≠0):askX e b=e:=by unfold askX;rw [if_neg (fun h1=>h h1.1)]
theorem askX_ok {e:Int} {b:Bool} (h:askX e b=0):e=0/\b=true:=by
 unfold askX at h
 split at h
 ·cases h
 ·next h1=>subst h;exact⟨rfl,by cases b with
  |true=>rfl
  |false=>exact absurd ⟨rfl,rfl⟩ h1⟩
structure XEn where
 pl:Int
 gen:Int
 us:Bool
structure XGr where
 first:Int
 es:List XEn
def sXref:ByteArray:=⟨#[120,114,101,102]⟩
def sTrailer:ByteArray:=⟨#[116,114,97,105,108,101,114]⟩
def tokX (bs:List Nat) (last:Bool) (s:FS):Tkn × FS :=
 if s.2≠0 then(noT 0,s) else((nextA bs s.1 last).2,((nextA bs s.1 last).2.to:Nat),if (nextA bs s.1 last).1=0/\(nextA bs s.1 last).2.kind=0 then 10 else(nextA bs s.1 last).1)
def whlX (t:Tkn) (s:FS):FS:=(s.1,askX s.2 (decide (t.vk=2)))
def fitsX (first count:Int):Bool:=decide (0<=first)&&(decide (0<=count)&&decide (first<=4097-count))
def spcX (bs:List Nat) (p:Nat):Nat:=((bs.drop p).takeWhile isSp).length
def lineE (l:List Nat):Int :=
 askX (askX (askX (askX 0 (decide ((dgOf (l.take 10)).2=0)&&(decide ((dgOf ((l.drop 11).take 5)).2=0)&&decide ((dgOf ((l.drop 11).take 5)).1<=65535))))
  (decide (l.getD 10 0=32)&&decide (l.getD 16 0=32))) (decide (l.getD 17 0=110) || decide (l.getD 17 0=102))) (decide (l.getD 18 0=32) || (decide (l.getD 18 0=10) || decide (l.getD 18 0=13)))
def lineX (l:List Nat):XEn:=⟨(dgOf (l.take 10)).1,(dgOf ((l.drop 11).take 5)).1,decide (l.getD 17 0=110)⟩
def entX (bs:List Nat) (last:Bool) (p:Nat):XEn × FS :=
 if bs.length<p+19 then(⟨0,0,false⟩,((p:Int),endE last)) else(lineX ((bs.drop p).take 19),(((p+19:Nat):Int),lineE ((bs.drop p).take 19)))
def entsX (bs:List Nat) (last:Bool):Nat->FS->List XEn->List XEn × FS
 |0,s,l=>(l,s)
 |n+1,s,l=>if s.2≠0 then(l,s) else entsX bs last n (entX bs last (s.1.toNat+spcX bs s.1.toNat)).2 (l++[(entX bs last (s.1.toNat+spcX bs s.1.toNat)).1])
def twoX (bs:List Nat) (last:Bool) (k:Nat) (t:Tkn) (s:FS):Int × FS :=
 ((tokX bs last (whlX t s)).1.vn,((tokX bs last (whlX t s)).2.1,askX (whlX (tokX bs last (whlX t s)).1 (tokX bs last (whlX t s)).2).2 (decide (k<64)&&fitsX t.vn (tokX bs last (whlX t s)).1.vn)))
def grpX (bs:List Nat) (last:Bool):Nat->FS->List XGr->List XGr × FS
 |0,s,l=>(l,s)
 |n+1,s,l =>
  if s.2≠0 then(l,s)
  else if (tokX bs last s).1.kind=6/\sb (tokX bs last s).1.s=sTrailer then(l,(tokX bs last s).2)
  else grpX bs last n (entsX bs last (twoX bs last l.length (tokX bs last s).1 (tokX bs last s).2).1.toNat (twoX bs last l.length (tokX bs last s).1 (tokX bs last s).2).2 []).2
   (l++[⟨(tokX bs last s).1.vn,(entsX bs last (twoX bs last l.length (tokX bs last s).1 (tokX bs last s).2).1.toNat (twoX bs last l.length (tokX bs last s).1 (tokX bs last s).2).2 []).1⟩])
noncomputable def dicX (bs:List Nat) (last:Bool) (s:FS):VT × FS :=
 if s.2≠0 then(nilT,s) else((runI bs last s.1 []).2.1,((runI bs last s.1 []).2.2:Nat),askX (runI bs last s.1 []).1 (decide ((runI bs last s.1 []).2.1.kind=7)))
structure XR where
 gs:List XGr
 v:VT
 tz:Int
 e:Int
noncomputable def xrfO (bs:List Nat) (a:Int) (last:Bool):XR :=
 if (dicX bs last (grpX bs last 66 (wrdS bs last sXref (a,0)) []).2).2.2≠0 then⟨[],nilT,0,(dicX bs last (grpX bs last 66 (wrdS bs last sXref (a,0)) []).2).2.2⟩
 else⟨(grpX bs last 66 (wrdS bs last sXref (a,0)) []).1,(dicX bs last (grpX bs last 66 (wrdS bs last sXref (a,0)) []).2).1,(dicX bs last (grpX bs last 66 (wrdS bs last sXref (a,0)) []).2).2.1,0⟩
section
variable {b:List Nat} {k:Nat} {last:Bool}
theorem next_kept {bs:List Nat} {a:Int} (h:(if (nextA bs a last).1=0/\(nextA bs a last).2.kind=0 then(10:Int) else(nextA bs a last).1)=0):0<=((nextA bs a last).2.to:Int)/\((nextA bs a last).2.to:Int)<=bs.length:=by
 have h2:(mustO (nextA bs a last)).1=0:=by
  unfold mustO
  split
  ·next h3=>rw [if_pos h3] at h;cases h
  ·next h3=>rw [if_neg h3] at h;exact h
 have h4:=next_in h2
 have h5:mustO (nextA bs a last)=nextA bs a last:=by
  unfold mustO
  rw [if_neg (fun h3=>by rw [if_pos h3] at h;cases h)]
 rw [h5] at h4
 omega
theorem tokX_fn {bs:List Nat} {s:FS} (hs:Fine4 bs.length s):Fine4 bs.length (tokX bs last s).2:=by
 unfold tokX
 by_cases h0:s.2≠0
 ·rw [if_pos h0];exact hs
 rw [if_neg h0]
 by_cases h1:(if (nextA bs s.1 last).1=0/\(nextA bs s.1 last).2.kind=0 then(10:Int) else(nextA bs s.1 last).1)=0
 ·exact .inr (next_kept h1)
 ·exact .inl h1
theorem whlX_fn {n:Nat} {t:Tkn} {s:FS} (hs:Fine4 n s):Fine4 n (whlX t s):=by
 rcases hs with h|h
 ·left;show askX _ _≠0;rw [askX_err h];exact h
 ·exact .inr h
theorem ask_fn {n:Nat} {s:FS} {c:Bool} (hs:Fine4 n s):Fine4 n (s.1,askX s.2 c):=by
 rcases hs with h|h
 ·left;show askX _ _≠0;rw [askX_err h];exact h
 ·exact .inr h
theorem spc_le (bs:List Nat) (p:Nat) (hp:p<=bs.length):p+spcX bs p<=bs.length:=by
 unfold spcX
 have h1:=(List.takeWhile_prefix isSp (l:=bs.drop p)).length_le
 rw [List.length_drop] at h1
 omega
theorem entX_fn {bs:List Nat} {p:Nat}:Fine4 bs.length (entX bs last p).2:=by
 unfold entX
 split
 ·left;show endE last≠0;unfold endE;cases last<;>simp
 ·next h=>right;simp only [];omega
theorem entsX_err {bs:List Nat} {n:Nat} {s:FS} {l:List XEn} (h:s.2≠0):entsX bs last n s l=(l,s):=by
 cases n with
 |zero=>rfl
 |succ n=>rw [entsX,if_pos h]
theorem entsX_fn {bs:List Nat}:∀ (n:Nat) (s:FS) (l:List XEn),Fine4 bs.length s->Fine4 bs.length (entsX bs last n s l).2:=by
 intro n
 induction n with
 |zero=>intro s l h;exact h
 |succ n ih =>
  intro s l h
  rw [entsX]
  split
  ·exact h
  ·exact ih _ _ entX_fn
theorem twoX_fn {bs:List Nat} {j:Nat} {t:Tkn} {s:FS} (hs:Fine4 bs.length s):Fine4 bs.length (twoX bs last j t s).2:=ask_fn (whlX_fn (tokX_fn (whlX_fn hs)))
end
def Ev (O:Nat->Prop) (w:World) (P:World->Prop):Prop:=∀ V,Chg O w V->P V
theorem Ev.turn {O O':Nat->Prop} {w w':World} {P:World->Prop} (h:Ev O w P) (hc:Chg O w w') (hO:∀ i,i<w.heap.size->O' i->O i):Ev O' w' P:=fun V hV=>h V (hc.trans hV hO)
theorem Ev.chg {O:Nat->Prop} {w w':World} {P:World->Prop} (h:Ev O w P) (hc:Chg NoS w w'):Ev O w' P:=h.turn (hc.mono (fun _ _ e=>e.elim)) (fun _ _ h=>h)
def XEn.cells (e:XEn):List Value:=[.int .i64 e.pl,.int .i64 e.gen,.bool e.us]
def ecells (l:List XEn):List Value:=l.flatMap XEn.cells
structure GC where
 g:XGr
 A:Option Addr
 c:Nat
def GC.cells (x:GC):List Value:=[.int .i64 x.g.first,.slice x.A x.g.es.length x.c]
def gcells (l:List GC):List Value:=l.flatMap GC.cells
theorem flatk_len {α:Type} (f:α->List Value) (k:Nat) (hf:∀ a,(f a).length=k) (l:List α):(l.flatMap f).length=l.length*k:=by
 induction l with
 |nil=>simp
 |cons e es ih=>rw [List.flatMap_cons,List.length_append,ih,hf,List.length_cons,Nat.succ_mul];omega
theorem flatk_at {α:Type} (f:α->List Value) (k:Nat) (hf:∀ a,(f a).length=k):∀ {l:List α} {j i:Nat} {e:α},l[j]?=some e->i<k->(l.flatMap f)[j*k+i]?=(f e)[i]?:=by
 intro l
 induction l with
 |nil=>intro j i e h;simp at h
 |cons x es ih =>
  intro j i e h hi
  rw [List.flatMap_cons]
  cases j with
  |zero =>
   simp at h
   subst h
   rw [Nat.zero_mul,Nat.zero_add,List.getElem?_append_left (by rw [hf];exact hi)]
  |succ j =>
   rw [List.getElem?_append_right (by rw [hf,Nat.succ_mul];omega),hf,show(j+1)*k+i-k=j*k+i from by rw [Nat.succ_mul];omega]
   exact ih (by simpa using h) hi
theorem ecells_app (a b:List XEn):ecells (a++b)=ecells a++ecells b:=by simp [ecells]
theorem gcells_app (a b:List GC):gcells (a++b)=gcells a++gcells b:=by simp [gcells]
theorem ecells_cell (es:List XEn):∀ u∈ecells es,u.oneCell'=true:=by
 intro u hu
 obtain⟨e,_,h⟩:=List.mem_flatMap.1 hu
 unfold XEn.cells at h
 simp only [List.mem_cons,List.not_mem_nil,or_false] at h
 rcases h with rfl|rfl|rfl<;>rfl
theorem gcells_cell (es:List GC):∀ u∈gcells es,u.oneCell'=true:=by
 intro u hu
 obtain⟨e,_,h⟩:=List.mem_flatMap.1 hu
 unfold GC.cells at h
 simp only [List.mem_cons,List.not_mem_nil,or_false] at h
 rcases h with rfl|rfl<;>rfl
def EnS (es:List XEn) (A:Option Addr) (c:Nat) (V:World):Prop:=Src V 3 A es.length c (ecells es)/\es.length<=c
def GsIs (xs:List GC) (A:Option Addr) (c:Nat) (V:World):Prop:=(Src V 2 A xs.length c (gcells xs)/\xs.length<=c)/\∀ x∈xs,EnS x.g.es x.A x.c V
theorem own_cap {w:World} {b:Nat} {T:TypeId} {k n c:Nat} {A:Option Addr} {l:List Value} (h:w.ownsRow b T k (.slice A n c) n l):n<=c:=by
 rcases h.2 with⟨h1,h0⟩|⟨g',cap,cur,h1,hb,hh,h2,h3,_⟩
 ·simp only [Value.slice.injEq] at h1
  obtain⟨rfl,_,rfl⟩:=h1
  omega
 ·simp only [Value.slice.injEq] at h1
  obtain⟨rfl,_,rfl⟩:=h1
  exact h2
structure RwE (w W:World) (es:List XEn) (n:Nat) (A:Option Addr) (c:Nat):Prop where
 own:W.ownsRow 0 29 3 (.slice A n c) n (ecells es)
 new:∀ g,ob A=some g->w.heap.size<=g
 siz:w.heap.size<=W.heap.size
 len:es.length=n
theorem RwE.start {w W:World} (h:w.heap.size<=W.heap.size):RwE w W [] 0 none 0:=⟨own_nil W 0 _ 3,fun _ h=>(by cases h),h,rfl⟩
theorem RwE.turn {w W W':World} {es:List XEn} {n c:Nat} {A:Option Addr} {S:Nat->Prop} (h:RwE w W es n A c) (hc:Chg S W W') (hS:∀ i,S i->i<w.heap.size):RwE w W' es n A c :=
 ⟨own_chg h.own hc (fun g hg e=>by rw [ob_eq] at hg;have:=h.new g hg;have:=hS g e;omega),h.new,Nat.le_trans h.siz hc.size,h.len⟩
theorem RwE.ev {w W:World} {es:List XEn} {n c:Nat} {A:Option Addr} (h:RwE w W es n A c):Ev (fun i=>i<w.heap.size) W (EnS es A c):=fun V hV=>by
 have h1:=own_chg h.own hV (fun g hg e=>by rw [ob_eq] at hg;have:=h.new g hg;omega)
 have h2:=src_own h1
 have h3:=own_cap h1
 have h4:=h.len
 subst h4
 exact⟨h2,h3⟩
theorem info_XE:(Tryz.prog.info? 29).map (fun i=>(i.zero,i.size,i.bytes))=some (some (.agg #[.int .i64 0,.int .i64 0,.bool false]),3,24):=by kernel_rfl
theorem info_XG:(Tryz.prog.info? 56).map (fun i=>(i.zero,i.size,i.bytes))=some (some (.agg #[.int .i64 0,.slice none 0 0]),2,32):=by kernel_rfl
theorem appE {w W:World} {ops:Array Oper} {rest:List Oper} {o:Oper} {a:Act} {Q:Exit->Act->World->Prop} {es:List XEn} {e:XEn} {n c cx:Nat} {A X:Option Addr} (hgd:o.guard=none) (s x:Operand)
  (ho:o.op=.call { callee:=.builtin .append,args:=#[s,x],argTypes:=#[54,54] }) (hs:a.eval s=.slice A n c) (hx:a.eval x=.slice X 1 cx)
  (h:RwE w W es n A c) (hn:n<=2000000000) (hsrc:Src W 3 X 1 cx (ecells [e]))
  (k:∀ A3 c3 w',RwE w w' (es++[e]) (n+1) A3 c3->(∀ (S:Nat->Prop),(∀ i,w.heap.size<=i->S i)->Chg S W w')->wpList Tryz.prog ops Q rest (a.put o.dst (.slice A3 (n+1) c3)) w') :
  wpList Tryz.prog ops Q (o::rest) a W:=by
 obtain⟨i0,hi,hz0,hz1,hz2⟩:=info_partsV info_XE
 refine wpList_append_src hgd s x 54 ho 29 i0 _ 3 24 Tryz.underlying54 hi hz0 hz1 hz2 rfl (by decide) (.slice A n c) n (ecells es) hs h.own X 1 cx (ecells [e]) hx hsrc (ecells_cell _) (by unfold maxLen;omega) (by omega) ?_
 intro S2 w4 hown4 hgr4 hat4
 obtain⟨A4,c4,rfl,hA4⟩:=own_slice hown4
 have hcw:Chg (fun i=>ob A=some i) W w4:=(Chg.refl _ W).grown hgr4 (fun kk e _=>by rwa [ob_eq] at e)
 have hat:ob A4=ob A\/ob A4=some W.heap.size:=by rw [<- ob_eq A4 (n+1) c4,<- ob_eq A n c];exact hat4
 have hsz:=h.siz
 refine k A4 c4 w4 ⟨by rw [ecells_app];exact hown4,fun g hg=>?_,Nat.le_trans hsz hcw.size,by rw [List.length_append,h.len];rfl⟩ (fun S hS=>hcw.mono (fun i _ e=>hS i (h.new i e)))
 rcases hat with e2|e2
 ·exact h.new g (by rw [<- e2];exact hg)
 ·rw [e2] at hg;cases hg;omega
structure RwG (w W:World) (xs:List GC) (n:Nat) (A:Option Addr) (c:Nat):Prop where
 own:W.ownsRow 0 56 2 (.slice A n c) n (gcells xs)
 new:∀ g,ob A=some g->w.heap.size<=g
 siz:w.heap.size<=W.heap.size
 len:xs.length=n
 is:∀ x∈xs,Ev (fun i=>i<w.heap.size\/ob A=some i) W (EnS x.g.es x.A x.c)
theorem RwG.start {w W:World} (h:w.heap.size<=W.heap.size):RwG w W [] 0 none 0:=⟨own_nil W 0 _ 2,fun _ h=>(by cases h),h,rfl,fun _ h=>(by cases h)⟩
theorem RwG.lt {w W:World} {xs:List GC} {n c:Nat} {A:Option Addr} (h:RwG w W xs n A c) {g:Nat} (hg:ob A=some g):g<W.heap.size:=own_lt h.own (by rw [ob_eq];exact hg)
theorem RwG.turn {w W W':World} {xs:List GC} {n c:Nat} {A:Option Addr} {S:Nat->Prop} (h:RwG w W xs n A c) (hc:Chg S W W') (hS:∀ i,S i->i<w.heap.size):RwG w W' xs n A c :=
 ⟨own_chg h.own hc (fun g hg e=>by rw [ob_eq] at hg;have:=h.new g hg;have:=hS g e;omega),h.new,Nat.le_trans h.siz hc.size,h.len,fun x hx=>(h.is x hx).turn (hc.mono (fun i _ e=>.inl (hS i e))) (fun _ _ e=>e)⟩
theorem RwG.ev {w W:World} {xs:List GC} {n c:Nat} {A:Option Addr} (h:RwG w W xs n A c):Ev (fun i=>i<w.heap.size) W (GsIs xs A c):=fun V hV=>by
 have h1:=own_chg h.own hV (fun g hg e=>by rw [ob_eq] at hg;have:=h.new g hg;omega)
 have h2:=src_own h1
 have h3:=own_cap h1
 have h4:=h.len
 subst h4
 exact⟨⟨h2,h3⟩,fun x hx=>h.is x hx V (hV.mono (fun i _ e=>.inl e))⟩
theorem appG {w W:World} {ops:Array Oper} {rest:List Oper} {o:Oper} {a:Act} {Q:Exit->Act->World->Prop} {xs:List GC} {e:GC} {n c cx:Nat} {A X:Option Addr} (hgd:o.guard=none) (s x:Operand)
  (ho:o.op=.call { callee:=.builtin .append,args:=#[s,x],argTypes:=#[22,22] }) (hs:a.eval s=.slice A n c) (hx:a.eval x=.slice X 1 cx)
  (h:RwG w W xs n A c) (hn:n<=2000000000) (hsrc:Src W 2 X 1 cx (gcells [e])) (his:Ev (fun i=>i<w.heap.size\/ob A=some i) W (EnS e.g.es e.A e.c))
  (k:∀ A3 c3 w',RwG w w' (xs++[e]) (n+1) A3 c3->(∀ (S:Nat->Prop),(∀ i,w.heap.size<=i->S i)->Chg S W w')->wpList Tryz.prog ops Q rest (a.put o.dst (.slice A3 (n+1) c3)) w') :
  wpList Tryz.prog ops Q (o::rest) a W:=by
 obtain⟨i0,hi,hz0,hz1,hz2⟩:=info_partsV info_XG
 refine wpList_append_src hgd s x 22 ho 56 i0 _ 2 32 Tryz.underlying22 hi hz0 hz1 hz2 rfl (by decide) (.slice A n c) n (gcells xs) hs h.own X 1 cx (gcells [e]) hx hsrc (gcells_cell _) (by unfold maxLen;omega) (by omega) ?_
 intro S2 w4 hown4 hgr4 hat4
 obtain⟨A4,c4,rfl,hA4⟩:=own_slice hown4
 have hcw:Chg (fun i=>ob A=some i) W w4:=(Chg.refl _ W).grown hgr4 (fun kk e _=>by rwa [ob_eq] at e)
 have hat:ob A4=ob A\/ob A4=some W.heap.size:=by rw [<- ob_eq A4 (n+1) c4,<- ob_eq A n c];exact hat4
 have hsz:=h.siz
 have hback:∀ i,i<W.heap.size->i<w.heap.size\/ob A4=some i->i<w.heap.size\/ob A=some i:=fun i hi e=>by
  rcases e with e|e
  ·exact .inl e
  ·rcases hat with e2|e2
   ·exact .inr (e2 ▸ e)
   ·rw [e2] at e;cases e;omega
 refine k A4 c4 w4 ⟨by rw [gcells_app];exact hown4,fun g hg=>?_,Nat.le_trans hsz hcw.size,by rw [List.length_append,h.len];rfl,fun y hy=>?_⟩ (fun S hS=>hcw.mono (fun i _ e=>hS i (h.new i e)))
 ·rcases hat with e2|e2
  ·exact h.new g (by rw [<- e2];exact hg)
  ·rw [e2] at hg;cases hg;omega
 ·rcases List.mem_append.1 hy with h1|h1
  ·exact(h.is y h1).turn (hcw.mono (fun _ _ e=>.inr e)) hback
  ·rw [List.mem_singleton] at h1
   subst h1
   exact his.turn (hcw.mono (fun _ _ e=>.inr e)) hback
end Go.Proofs.YthejpkflcgjdoaaGreatDoor
