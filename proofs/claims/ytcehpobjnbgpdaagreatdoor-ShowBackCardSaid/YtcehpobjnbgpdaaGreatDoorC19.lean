/- Merged by program. -/
import Derived.Test.YtcehpobjnbgpdaaGreatDoorC13
import Derived.Test.YtcehpobjnbgpdaaGreatDoorC18
set_option linter.unusedVariables false
set_option linter.unusedSimpArgs false
namespace Go.Proofs.YtcehpobjnbgpdaaGreatDoor
open Go.RowKit
def emF (S:Nat->ByteArray) (V:Nat->VT):List Nat->List VT
 |[]=>[]
 |[p]=>[nmT (S p),V p]
 |p::q::r=>(if S q=S p then [] else [nmT (S p),V p])++emF S V (q::r)
theorem emF_last {S:Nat->ByteArray} {V:Nat->VT} {p:Nat}:emF S V [p]=[nmT (S p),V p]++emF S V []:=rfl
theorem emF_eq {S:Nat->ByteArray} {V:Nat->VT} {p q:Nat} {r:List Nat} (h:S q=S p):emF S V (p::q::r)=emF S V (q::r):=by rw [emF,if_pos h];rfl
theorem emF_ne {S:Nat->ByteArray} {V:Nat->VT} {p q:Nat} {r:List Nat} (h:S q≠S p):emF S V (p::q::r)=[nmT (S p),V p]++emF S V (q::r):=by rw [emF,if_neg h]
theorem PRow.blk {w:World} {g cap b off:Nat} {d:List Nat} (h:PRow w g cap b off d):∃ cs,Blk w g 22 cs/\∀ w':World,Blk w' g 22 cs->PRow w' g cap b off d:=by
 rcases h.2 with⟨h1,_⟩|⟨g',cap',cur,h1,h2,hh,h3⟩
 ·cases h1
 ·simp only [Value.slice.injEq,Option.some.injEq,Addr.mk.injEq] at h1
  obtain⟨⟨rfl,_,_⟩,_,rfl⟩:=h1
  exact⟨cur,hh,fun w' hb=>⟨h.1,.inr ⟨_,_,cur,rfl,h2,hb,h3⟩⟩⟩
theorem own_base {W:World} {B:Nat} {e:TypeId} {size:Nat} {v:Value} {n:Nat} {xs:List Value} (h:W.ownsRow B e size v n xs):W.ownsRow 0 e size v n xs :=
 ⟨h.1,h.2.imp id (fun⟨g,cap,cur,h1,_,h2⟩=>⟨g,cap,cur,h1,Nat.zero_le _,h2⟩)⟩
theorem col_row {W:World} {B b off m:Nat} {A1:Option Addr} {c1:Nat} (h:W.ownsRow B 22 1 (.slice A1 m c1) m (pcells b off m)) (h0:0<m):∃ gs,A1=some ⟨gs,0,none⟩/\B<=gs/\PRow W gs c1 b off (List.range m):=by
 rcases h.2 with⟨_,h1⟩|⟨g,cap,cur,h1,h2,h3,h4⟩
 ·omega
 ·simp only [Value.slice.injEq] at h1
  obtain⟨rfl,_,rfl⟩:=h1
  refine⟨g,rfl,h2,?_⟩
  unfold PRow
  rw [List.length_range]
  exact own_base h
def keyAt (l:List VT) (x:Nat):ByteArray:=((l[2*x]?).getD nilT).str
def valAt (l:List VT) (x:Nat):VT:=(l[2*x+1]?).getD nilT
noncomputable def dictT (l:List VT):List VT:=emF (keyAt l) (valAt l) (sortR (keyAt l) (List.range (l.length / 2))).reverse
def emR (S:Nat->ByteArray) (V:Nat->VT):Option ByteArray->List Nat->List VT
 |_,[]=>[]
 |prev,p::R=>emR S V (some (S p)) R++(if prev=some (S p) then [] else [nmT (S p),V p])
theorem emF_rev {S:Nat->ByteArray} {V:Nat->VT}:∀ (R:List Nat) (p:Nat) (t:List Nat),emF S V (R.reverse++p::t)=emR S V (some (S p)) R++emF S V (p::t)
 |[],p,t=>by rw [emR];rfl
 |q::R,p,t=>by
  rw [List.reverse_cons,List.append_assoc,List.singleton_append,emF_rev R q (p::t),emF,emR]
  by_cases h:S p=S q
  ·rw [if_pos h,if_pos (by rw [h])];simp
  ·rw [if_neg h,if_neg (fun e=>h (Option.some.inj e))];simp
theorem emF_none {S:Nat->ByteArray} {V:Nat->VT}:∀ R:List Nat,emF S V R.reverse=emR S V none R
 |[]=>by rw [emR];rfl
 |p::R=>by
  rw [List.reverse_cons,emF_rev R p [],emR,if_neg (by simp)]
  rfl
def lowL (key:ByteArray):List VT->Prop
 |[]=>True
 |[_]=>False
 |t::_::l=>Op.bytesLess t.str.toList key.toList=true/\lowL key l
theorem low_two {P:List VT->Prop} {key:ByteArray} (h0:P []) (h2:∀ t u l,Op.bytesLess t.str.toList key.toList=true->lowL key l->P l->P (t::u::l)):∀ l:List VT,lowL key l->P l
 |[],_=>h0
 |[t],h=>h.elim
 |t::u::l,h=>h2 t u l h.1 h.2 (low_two h0 h2 l h.2)
theorem no_hit {key:ByteArray} {t:VT} (h:Op.bytesLess t.str.toList key.toList=true):¬hitT key t:=fun e=>by
 rw [e.2,less_self] at h
 cases h
theorem no_gt {key:ByteArray} {t:VT} (h:Op.bytesLess t.str.toList key.toList=true):¬gtT key t:=fun e=>by
 have:=less_tr h e.2
 rw [less_self] at this
 cases this
theorem low_mono {a b:ByteArray} (hab:Op.bytesLess a.toList b.toList=true):∀ l:List VT,lowL a l->lowL b l:=low_two trivial (fun t u l h _ ih=>⟨less_tr h hab,ih⟩)
theorem low_app {key s:ByteArray} {v:VT} (hs:Op.bytesLess s.toList key.toList=true):∀ l:List VT,lowL key l->lowL key (l++[nmT s,v]):=low_two ⟨hs,trivial⟩ (fun t u l h _ ih=>⟨h,ih⟩)
theorem low_find {key:ByteArray}:∀ l:List VT,lowL key l->findL key l=none:=low_two (findL_nil key) (fun t u l h _ ih=>by rw [find_two (no_hit h),ih];rfl)
theorem low_ins {key:ByteArray} {x:VT}:∀ l:List VT,lowL key l->insL key x l=l++[nmT key,x]:=low_two (by rw [insL];rfl) (fun t u l h _ ih=>by rw [ins_le (no_gt h),ih];rfl)
theorem low_put {key:ByteArray} {x:VT} {l:List VT} (h:lowL key l):putL key x l=l++[nmT key,x]:=by
 unfold putL
 rw [low_find l h,low_ins l h]
theorem low_last {key:ByteArray} {x v:VT}:∀ l:List VT,lowL key l->∃ j,findL key (l++[nmT key,v])=some j/\replL j x (l++[nmT key,v])=l++[nmT key,x] :=
 low_two ⟨0,findL_hit (hit_nm key),rfl⟩ (fun t u l h _ ih=>by
  obtain⟨j,h1,h2⟩:=ih
  refine⟨j+1,?_,?_⟩
  ·show findL key (t::u::(l++[nmT key,v]))=_
   rw [find_two (no_hit h),h1]
   rfl
  ·show replL (j+1) x (t::u::(l++[nmT key,v]))=_
   rw [repl_succ,h2]
   rfl)
theorem low_eq {key:ByteArray} {x v:VT} {l:List VT} (h:lowL key l):putL key x (l++[nmT key,v])=l++[nmT key,x]:=by
 obtain⟨j,h1,h2⟩:=low_last (x:=x) (v:=v) l h
 unfold putL
 rw [h1]
 exact h2
theorem find_app {key s:ByteArray} {v:VT} (hs:Op.bytesLess key.toList s.toList=true):∀ l:List VT,l.length%2=0->findL key (l++[nmT s,v])=findL key l:=by
 have hno:¬hitT key (nmT s):=fun e=>by
  have h2:s=key:=e.2
  rw [h2,less_self] at hs
  cases hs
 refine two_ind ?_ (fun t u l hl ih=>?_)
 ·show findL key [nmT s,v]=_
  rw [find_two hno,findL_nil]
  rfl
 ·show findL key (t::u::(l++[nmT s,v]))=_
  by_cases ht:hitT key t
  ·rw [findL_hit ht,findL_hit ht]
  ·rw [find_two ht,find_two ht,ih]
theorem ins_app {key s:ByteArray} {x v:VT} (hs:Op.bytesLess key.toList s.toList=true):∀ l:List VT,l.length%2=0->insL key x (l++[nmT s,v])=insL key x l++[nmT s,v]:=by
 refine two_ind ?_ (fun t u l hl ih=>?_)
 ·show insL key x [nmT s,v]=_
  rw [ins_gt ⟨rfl,hs⟩,insL]
  rfl
 ·show insL key x (t::u::(l++[nmT s,v]))=_
  by_cases hg:gtT key t
  ·rw [ins_gt hg,ins_gt hg];rfl
  ·rw [ins_le hg,ins_le hg,ih];rfl
theorem repl_app {x:VT} {T:List VT} {j:Nat} {l:List VT} (h:2*j+2<=l.length):replL j x (l++T)=replL j x l++T:=by
 unfold replL
 rw [List.take_append_of_le_length (by omega),List.drop_append_of_le_length (by omega),List.append_assoc,List.cons_append]
theorem put_app {key s:ByteArray} {x v:VT} {l:List VT} (hs:Op.bytesLess key.toList s.toList=true) (hl:l.length%2=0):putL key x (l++[nmT s,v])=putL key x l++[nmT s,v]:=by
 unfold putL
 rw [find_app hs l hl]
 cases hf:findL key l with
 |none=>exact ins_app hs l hl
 |some j =>
  have:=findL_lt key _ l (Nat.le_refl _) j hf
  exact repl_app (by omega)
def fallR (S:Nat->ByteArray):List Nat->Prop
 |[]=>True
 |[_]=>True
 |p::q::R=>Op.bytesLess (S p).toList (S q).toList≠true/\fallR S (q::R)
theorem fall_tail {S:Nat->ByteArray} {p:Nat}:∀ {R:List Nat},fallR S (p::R)->fallR S R
 |[],_=>trivial
 |q::R,h=>h.2
theorem less_as {a b:ByteArray} (h:Op.bytesLess a.toList b.toList=true):Op.bytesLess b.toList a.toList≠true:=fun e=>by
 have:=less_tr h e
 rw [less_self] at this
 cases this
theorem fall_cons {S:Nat->ByteArray} {k:Nat}:∀ (R:List Nat) (p:Nat),Op.bytesLess (S k).toList (S p).toList=true->fallR S (p::R)->fallR S (p::insR S k R)
 |[],p,h,_=>⟨less_as h,trivial⟩
 |q::R,p,h,hf=>by
  rw [insR]
  by_cases hq:Op.bytesLess (S k).toList (S q).toList=true
  ·rw [if_pos hq]
   exact⟨hf.1,fall_cons R q hq hf.2⟩
  ·rw [if_neg hq]
   exact⟨less_as h,hq,hf.2⟩
theorem fall_ins {S:Nat->ByteArray} {k:Nat}:∀ {R:List Nat},fallR S R->fallR S (insR S k R)
 |[],_=>trivial
 |p::R,h=>by
  rw [insR]
  by_cases hp:Op.bytesLess (S k).toList (S p).toList=true
  ·rw [if_pos hp]
   exact fall_cons R p hp h
  ·rw [if_neg hp]
   exact⟨hp,h⟩
theorem emR_even {S:Nat->ByteArray} {V:Nat->VT}:∀ (R:List Nat) (prev:Option ByteArray),(emR S V prev R).length%2=0
 |[],_=>by rw [emR];rfl
 |p::R,prev=>by
  rw [emR,List.length_append]
  have:=emR_even (S:=S) (V:=V) R (some (S p))
  split
  ·simp only [List.length_nil];omega
  ·simp only [List.length_cons,List.length_nil];omega
theorem emR_low {S:Nat->ByteArray} {V:Nat->VT}:∀ (R:List Nat) (p:Nat),fallR S (p::R)->lowL (S p) (emR S V (some (S p)) R)
 |[],_,_=>by rw [emR];trivial
 |q::R,p,h=>by
  rw [emR]
  have ih:=emR_low (V:=V) R q h.2
  by_cases hq:S p=S q
  ·rw [if_pos (by rw [hq]),List.append_nil,hq]
   exact ih
  ·rw [if_neg (fun e=>hq (Option.some.inj e))]
   have hl:=less_tot h.1 hq
   exact low_app hl _ (low_mono hl _ ih)
theorem put_em {S:Nat->ByteArray} {V:Nat->VT} {k:Nat}:∀ (R:List Nat) (prev:Option ByteArray),(∀ s,prev=some s->Op.bytesLess (S k).toList s.toList=true)->fallR S R->putL (S k) (V k) (emR S V prev R)=emR S V prev (insR S k R)
 |[],prev,hp,_=>by
  have hne:prev≠some (S k):=fun e=>by
   have:=hp _ e
   rw [less_self] at this
   cases this
  rw [insR,emR,emR,emR,if_neg hne]
  exact low_put (l:=[]) trivial
 |p::R,prev,hp,hf=>by
  have hne:prev≠some (S k):=fun e=>by
   have:=hp _ e
   rw [less_self] at this
   cases this
  rw [insR]
  by_cases h:Op.bytesLess (S k).toList (S p).toList=true
  ·rw [if_pos h,emR,emR,<- put_em R (some (S p)) (fun s e=>by cases e;exact h) (fall_tail hf)]
   by_cases h2:prev=some (S p)
   ·rw [if_pos h2,List.append_nil,List.append_nil]
   ·rw [if_neg h2]
    exact put_app h (emR_even R _)
  ·have h2:prev≠some (S p):=fun e=>h (hp _ e)
   have hlow:=emR_low (V:=V) R p hf
   rw [if_neg h,emR,if_neg h2,emR,if_neg hne,emR]
   by_cases hk:S k=S p
   ·rw [if_pos (by rw [hk]),List.append_nil,hk]
    exact low_eq hlow
   ·rw [if_neg (fun e=>hk (Option.some.inj e))]
    have hl:=less_tot h hk
    exact low_put (low_app hl _ (low_mono hl _ hlow))
noncomputable def dictF (S:Nat->ByteArray) (V:Nat->VT) (d:List Nat):List VT:=d.foldl (fun D k=>putL (S k) (V k) D) []
theorem dictF_snoc (S:Nat->ByteArray) (V:Nat->VT) (d:List Nat) (k:Nat):dictF S V (d++[k])=putL (S k) (V k) (dictF S V d):=by simp [dictF]
theorem dictF_em {S:Nat->ByteArray} {V:Nat->VT}:∀ m:Nat,fallR S (sortR S (List.range m))/\dictF S V (List.range m)=emR S V none (sortR S (List.range m))
 |0=>by
  refine⟨trivial,?_⟩
  show []=emR S V none []
  rw [emR]
 |m+1=>by
  obtain⟨h1,h2⟩:=dictF_em (S:=S) (V:=V) m
  rw [List.range_succ,sortR_snoc,dictF_snoc,h2]
  exact⟨fall_ins h1,put_em _ none (fun s e=>by cases e) h1⟩
theorem dictF_T (l:List VT):dictF (keyAt l) (valAt l) (List.range (l.length / 2))=dictT l:=by
 unfold dictT
 rw [emF_none,(dictF_em _).2]
def roomO (st:List (Int × List VT)) (kind:Int):Int :=
 match st with
 |[]=>0
 |(k,l)::r=>if k=7/\l.length%2=0/\kind≠5 then 11 else if 64<=r.length+1 then 15 else 0
def wordO (s:List Nat):Int × VT :=
 if sb s=⟨#[110,117,108,108]⟩ then(0,nilT) else if sb s=⟨#[102,97,108,115,101]⟩ then(0,.mk 1 0 ⟨#[]⟩ []) else if sb s=⟨#[116,114,117,101]⟩ then(0,.mk 1 1 ⟨#[]⟩ []) else(11,nilT)
def tokV (t:Tkn):VT:=.mk (t.vk:Nat) t.vn (sb t.vs) []
def thirdO (bs:List Nat) (last:Bool) (r2:Int × Tkn):Int × Tkn:=if r2.2.vk=2 then nextO bs r2.2.to last else(r2.1,noT 0)
def refO (bs:List Nat) (last:Bool) (t:Tkn):Int × VT × Nat :=
 if t.vk≠2 then(0,tokV t,t.to)
 else if (thirdO bs last (nextO bs t.to last)).1=6 then(6,nilT,0)
 else if (thirdO bs last (nextO bs t.to last)).2.kind≠6\/sb (thirdO bs last (nextO bs t.to last)).2.s≠⟨#[82]⟩ then(0,tokV t,t.to)
 else if t.vn<1\/4096<t.vn\/(nextO bs t.to last).2.vn≠0 then(26,nilT,0)
 else(0,.mk 8 t.vn ⟨#[]⟩ [],(thirdO bs last (nextO bs t.to last)).2.to)
noncomputable def dicO (l:List VT):Int × VT:=if l.length%2≠0 then(11,nilT) else if (dictT l).length<l.length then(16,nilT) else(0,.mk 7 0 ⟨#[]⟩ (dictT l))
noncomputable def popO (st:List (Int × List VT)) (kind:Int):Int × VT :=
 match st with
 |[]=>(11,nilT)
 |(k,l)::_=>if k≠kind then(11,nilT) else if kind=7 then dicO l else(0,.mk k 0 ⟨#[]⟩ l)
inductive Out
 |done (er:Int) (v:VT) (tz:Nat)
 |next (p:Nat) (st:List (Int × List VT))
def putO (er:Int) (v:VT) (tz:Nat) (st:List (Int × List VT)):Out :=
 if er≠0 then .done er nilT 0
 else match st with
  |[]=>.done 0 v tz
  |(k,l)::r=>if roomO ((k,l)::r) v.kind≠0 then .done (roomO ((k,l)::r) v.kind) nilT 0 else .next tz ((k,l++[v])::r)
def opnO (kind:Int) (tz:Nat) (st:List (Int × List VT)):Out:=if roomO st kind≠0 then .done (roomO st kind) nilT 0 else .next tz ((kind,[])::st)
noncomputable def actO (bs:List Nat) (last:Bool) (r:Int × Tkn) (st:List (Int × List VT)):Out :=
 if r.1≠0 then .done r.1 nilT 0
 else if r.2.kind=0 then .done 10 nilT 0
 else if r.2.kind=2 then opnO 6 r.2.to st
 else if r.2.kind=4 then opnO 7 r.2.to st
 else if r.2.kind=3 then putO (popO st 6).1 (popO st 6).2 r.2.to st.tail
 else if r.2.kind=5 then putO (popO st 7).1 (popO st 7).2 r.2.to st.tail
 else if r.2.kind=6 then putO (wordO r.2.s).1 (wordO r.2.s).2 r.2.to st
 else putO (refO bs last r.2).1 (refO bs last r.2).2.1 (refO bs last r.2).2.2 st
noncomputable def stepO (bs:List Nat) (last:Bool) (p:Nat) (st:List (Int × List VT)):Out:=actO bs last (nextO bs p last) st
noncomputable def runO (bs:List Nat) (last:Bool) (p:Nat) (st:List (Int × List VT)):Int × VT × Nat :=
 match stepO bs last p st with
 |.done er v tz=>(er,v,tz)
 |.next q st'=>if h:p<q/\q<=bs.length then runO bs last q st' else(0,nilT,0)
termination_by bs.length-p
decreasing_by omega
theorem run_done {bs:List Nat} {last:Bool} {p:Nat} {st:List (Int × List VT)} {er:Int} {v:VT} {tz:Nat} (h:stepO bs last p st=.done er v tz):runO bs last p st=(er,v,tz):=by
 rw [runO,h]
theorem run_next {bs:List Nat} {last:Bool} {p q:Nat} {st st':List (Int × List VT)} (h:stepO bs last p st=.next q st') (hq:p<q/\q<=bs.length):runO bs last p st=runO bs last q st':=by
 rw [runO,h]
 simp only [dif_pos hq]
theorem next_tok (bs:List Nat) (p:Nat) (last:Bool) (hp:p<=bs.length):((nextO bs p last).2.kind=0/\(nextO bs p last).2.vk=0/\(nextO bs p last).2.s=[])\/((nextO bs p last).1=0/\(nextO bs p last).2.kind≠0/\p<(nextO bs p last).2.to/\(nextO bs p last).2.to<=bs.length):=by
 rcases nextO_place bs p last hp with⟨q,_,_,h,_⟩|⟨h1,h2,h3,h4,h5,_⟩
 ·rw [h];exact .inl ⟨rfl,rfl,rfl⟩
 ·exact .inr ⟨h1,h2,by omega,h5⟩
theorem next_err {bs:List Nat} {p:Nat} {last:Bool} (hp:p<=bs.length) (h:(nextO bs p last).1≠0):(nextO bs p last).2.vk=0:=by
 rcases next_tok bs p last hp with h1|h1
 ·exact h1.2.1
 ·exact absurd h1.1 h
theorem ref_to {bs:List Nat} {last:Bool} {t:Tkn} (ht:t.to<=bs.length) (h:(refO bs last t).1=0):t.to<=(refO bs last t).2.2/\(refO bs last t).2.2<=bs.length:=by
 unfold refO at h ⊢
 by_cases h1:t.vk≠2
 ·rw [if_pos h1];exact⟨Nat.le_refl _,ht⟩
 rw [if_neg h1] at h ⊢
 by_cases h2:(thirdO bs last (nextO bs t.to last)).1=6
 ·rw [if_pos h2] at h;cases h
 rw [if_neg h2] at h ⊢
 by_cases h3:(thirdO bs last (nextO bs t.to last)).2.kind≠6\/sb (thirdO bs last (nextO bs t.to last)).2.s≠⟨#[82]⟩
 ·rw [if_pos h3];exact⟨Nat.le_refl _,ht⟩
 rw [if_neg h3] at h ⊢
 by_cases h4:t.vn<1\/4096<t.vn\/(nextO bs t.to last).2.vn≠0
 ·rw [if_pos h4] at h;cases h
 rw [if_neg h4]
 simp only []
 have h5:(thirdO bs last (nextO bs t.to last)).2.kind=6:=by omega
 unfold thirdO at h5 ⊢
 by_cases h6:(nextO bs t.to last).2.vk=2
 ·rw [if_pos h6] at h5 ⊢
  rcases next_tok bs t.to last ht with h7|h7
  ·rw [h7.2.1] at h6;cases h6
  ·rcases next_tok bs _ last h7.2.2.2 with h8|h8
   ·rw [h8.1] at h5;cases h5
   ·omega
 ·rw [if_neg h6] at h5;cases h5
theorem put_to {er:Int} {v:VT} {tz q:Nat} {st st':List (Int × List VT)} (h:putO er v tz st=.next q st'):q=tz/\er=0:=by
 unfold putO at h
 by_cases h1:er≠0
 ·rw [if_pos h1] at h;cases h
 rw [if_neg h1] at h
 refine⟨?_,by omega⟩
 cases st with
 |nil=>cases h
 |cons x r =>
  obtain⟨k,l⟩:=x
  simp only [] at h
  split at h
  ·cases h
  ·cases h;rfl
theorem opn_to {kind:Int} {tz q:Nat} {st st':List (Int × List VT)} (h:opnO kind tz st=.next q st'):q=tz:=by
 unfold opnO at h
 split at h
 ·cases h
 ·cases h;rfl
theorem step_to {bs:List Nat} {last:Bool} {p q:Nat} {st st':List (Int × List VT)} (hp:p<=bs.length) (h:stepO bs last p st=.next q st'):p<q/\q<=bs.length:=by
 unfold stepO actO at h
 rcases next_tok bs p last hp with⟨h1,_⟩|⟨h1,h2,h3,h4⟩
 ·by_cases h0:(nextO bs p last).1≠0
  ·rw [if_pos h0] at h;cases h
  ·rw [if_neg h0,if_pos h1] at h;cases h
 rw [if_neg (by rw [h1];decide),if_neg h2] at h
 split at h
 ·rw [opn_to h];exact⟨h3,h4⟩
 split at h
 ·rw [opn_to h];exact⟨h3,h4⟩
 split at h
 ·rw [(put_to h).1];exact⟨h3,h4⟩
 split at h
 ·rw [(put_to h).1];exact⟨h3,h4⟩
 split at h
 ·rw [(put_to h).1];exact⟨h3,h4⟩
 ·have h5:=put_to h
  have h6:=ref_to h4 h5.2
  rw [h5.1]
  omega
theorem tok_kind (last:Bool) (p c:Nat) (l:List Nat):(tokO last p c l).2.kind<=6:=by
 have hno:∀ e:Int,((e,noT p):Int × Tkn).2.kind<=6:=fun _=>Nat.zero_le _
 unfold tokO
 by_cases h1:c=91
 ·rw [if_pos h1];simp
 rw [if_neg h1]
 by_cases h2:c=93
 ·rw [if_pos h2];simp
 rw [if_neg h2]
 by_cases h3:c=60/\l.head?=some 60
 ·rw [if_pos h3];simp
 rw [if_neg h3]
 by_cases h4:c=62/\l.head?=some 62
 ·rw [if_pos h4];simp
 rw [if_neg h4]
 by_cases h5:c=62/\l=[]/\last=false
 ·rw [if_pos h5];exact hno _
 rw [if_neg h5]
 by_cases h6:c=60
 ·rw [if_pos h6]
  split
  ·exact hno _
  ·simp
 rw [if_neg h6]
 by_cases h7:c=40
 ·rw [if_pos h7]
  split
  ·exact hno _
  ·simp
 rw [if_neg h7]
 by_cases h8:c=47
 ·rw [if_pos h8]
  split
  ·exact hno _
  ·split
   ·exact hno _
   ·simp
 rw [if_neg h8]
 by_cases h9:isDl c=true
 ·rw [if_pos h9];exact hno _
 rw [if_neg h9]
 by_cases h10:rgs l=l.length/\last=false
 ·rw [if_pos h10];exact hno _
 rw [if_neg h10]
 by_cases h11:isNm c=true
 ·rw [if_pos h11]
  split
  ·exact hno _
  ·simp
 ·rw [if_neg h11];simp
theorem next_kind (bs:List Nat) (p:Nat) (last:Bool):(nextO bs p last).2.kind<=6:=by
 unfold nextO
 split
 ·simp [noT]
 ·exact tok_kind _ _ _ _
theorem esc_len (last:Bool) (l:List Nat):(escO last l).2.1.toList.length<=1:=by
 cases (escO last l).2.1<;>simp
theorem txtO_len (last:Bool):∀ (n:Nat) (l:List Nat) (deep:Nat) (out:List Nat) (p:Nat),l.length<=n->(txtO last deep out p l).2.1.length<=out.length+l.length:=by
 intro n
 induction n with
 |zero =>
  intro l deep out p hn
  obtain rfl:l=[]:=List.length_eq_zero_iff.1 (by omega)
  rw [txtO_nil]
  exact Nat.zero_le _
 |succ n ih =>
  intro l deep out p hn
  cases l with
  |nil=>rw [txtO_nil];exact Nat.zero_le _
  |cons c l =>
   have hl:l.length<=n:=by simp only [List.length_cons] at hn;omega
   simp only [List.length_cons]
   rw [txtO_cons]
   have he:=esc_len last l
   have h1:∀ x:Nat,(out++[x]).length=out.length+1:=fun x=>by simp
   split
   ·split
    ·exact Nat.zero_le _
    ·have:=ih (l.drop (escO last l).2.2) deep (out++(escO last l).2.1.toList) (p+1+(escO last l).2.2) (by rw [List.length_drop];omega)
     rw [List.length_append,List.length_drop] at this
     omega
   ·split
    ·split
     ·exact Nat.zero_le _
     ·split
      ·have:=ih (l.drop 1) deep (out++[10]) (p+2) (by rw [List.length_drop];omega)
       rw [h1,List.length_drop] at this
       omega
      ·have:=ih l deep (out++[10]) (p+1) hl
       rw [h1] at this
       omega
    ·split
     ·have:=ih l (deep+1) (out++[40]) (p+1) hl
      rw [h1] at this
      omega
     ·split
      ·split
       ·show out.length<=_;omega
       ·have:=ih l (deep-1) (out++[41]) (p+1) hl
        rw [h1] at this
        omega
      ·have:=ih l deep (out++[c]) (p+1) hl
       rw [h1] at this
       omega
theorem pairs_len:∀ ds:List Nat,(pairs ds).length<=ds.length
 |[]=>Nat.le_refl _
 |[a]=>Nat.le_refl _
 |a::b::l=>by
  have:=pairs_len l
  rw [pairs,List.length_cons,List.length_cons,List.length_cons]
  omega
theorem hexO_len (last:Bool):∀ (l ds:List Nat) (p:Nat),(hexO last ds p l).2.1.length<=ds.length+l.length:=by
 intro l
 induction l with
 |nil=>intro ds p;exact Nat.zero_le _
 |cons c l ih =>
  intro ds p
  simp only [hexO,List.length_cons]
  split
  ·have:=pairs_len ds;simp only [];omega
  ·split
   ·have:=ih ds (p+1);omega
   ·split
    ·exact Nat.zero_le _
    ·next d _ =>
     have:=ih (ds++[d]) (p+1)
     rw [List.length_append,List.length_singleton] at this
     omega
theorem nameF_small:∀ (n:Nat) (l o:List Nat),l.length<=n->(∀ x∈l,x<256)->nameF l=some o->o.length<=l.length/\∀ x∈o,x<256:=by
 intro n
 induction n with
 |zero =>
  intro l o hn hb h
  obtain rfl:l=[]:=List.length_eq_zero_iff.1 (by omega)
  simp [nameF] at h
  subst h
  exact⟨Nat.le_refl _,fun x hx=>by cases hx⟩
 |succ n ih =>
  intro l o hn hb h
  match l,hn,hb,h with
  |[],_,_,h =>
   simp [nameF] at h
   subst h
   exact⟨Nat.le_refl _,fun x hx=>by cases hx⟩
  |[c],hn,hb,h =>
   unfold nameF at h
   by_cases hc:c≠35
   ·rw [if_pos hc] at h
    simp [nameF] at h
    subst h
    exact⟨Nat.le_refl _,fun x hx=>hb x hx⟩
   ·rw [if_neg hc] at h;cases h
  |[c,x],hn,hb,h =>
   unfold nameF at h
   by_cases hc:c≠35
   ·rw [if_pos hc] at h
    obtain⟨o',h1,h2⟩:=Option.map_eq_some_iff.1 h
    obtain⟨h3,h4⟩:=ih [x] o' (by simp only [List.length_cons] at hn ⊢;omega) (fun z hz=>hb z (List.mem_cons_of_mem _ hz)) h1
    subst h2
    refine⟨by simp only [List.length_cons] at h3 ⊢;omega,fun z hz=>?_⟩
    rcases List.mem_cons.1 hz with rfl|hz
    ·exact hb _ (List.mem_cons_self ..)
    ·exact h4 z hz
   ·rw [if_neg hc] at h;cases h
  |c::x::y::m,hn,hb,h =>
   unfold nameF at h
   by_cases hc:c≠35
   ·rw [if_pos hc] at h
    obtain⟨o',h1,h2⟩:=Option.map_eq_some_iff.1 h
    obtain⟨h3,h4⟩:=ih (x::y::m) o' (by simp only [List.length_cons] at hn ⊢;omega) (fun z hz=>hb z (List.mem_cons_of_mem _ hz)) h1
    subst h2
    refine⟨by simp only [List.length_cons] at h3 ⊢;omega,fun z hz=>?_⟩
    rcases List.mem_cons.1 hz with rfl|hz
    ·exact hb _ (List.mem_cons_self ..)
    ·exact h4 z hz
   ·rw [if_neg hc] at h
    simp only [] at h
    cases hx:hexD x with
    |none=>rw [hx] at h;cases h
    |some a =>
     cases hy:hexD y with
     |none=>rw [hx,hy] at h;cases h
     |some b =>
      rw [hx,hy] at h
      simp only [] at h
      obtain⟨o',h1,h2⟩:=Option.map_eq_some_iff.1 h
      obtain⟨h3,h4⟩:=ih m o' (by simp only [List.length_cons] at hn;omega) (fun z hz=>hb z (by simp [hz])) h1
      subst h2
      have ha:=hexD_lt hx
      have hbb:=hexD_lt hy
      refine⟨by simp only [List.length_cons];omega,fun z hz=>?_⟩
      rcases List.mem_cons.1 hz with rfl|hz
      ·omega
      ·exact h4 z hz
def TokV (N:Nat) (t:Tkn):Prop:=t.vs.length<=N/\((t.vk=4/\t.vn=0)\/(t.vk=5/\t.vn=0/\textO (sb t.vs))\/(t.vk=2/\t.vs=[]/\t.vn.natAbs<=2147483647)\/(t.vk=3/\t.vs=[]/\t.vn.natAbs<=2147483647*1000000))
theorem tok_val (last:Bool) (p c:Nat) (l:List Nat) (hb:∀ x∈l,x<256) (h:(tokO last p c l).1=0) (hk:(tokO last p c l).2.kind=1):TokV l.length (tokO last p c l).2:=by
 unfold tokO at h hk ⊢
 by_cases h1:c=91
 ·rw [if_pos h1] at hk;cases hk
 rw [if_neg h1] at h hk ⊢
 by_cases h2:c=93
 ·rw [if_pos h2] at hk;cases hk
 rw [if_neg h2] at h hk ⊢
 by_cases h3:c=60/\l.head?=some 60
 ·rw [if_pos h3] at hk;cases hk
 rw [if_neg h3] at h hk ⊢
 by_cases h4:c=62/\l.head?=some 62
 ·rw [if_pos h4] at hk;cases hk
 rw [if_neg h4] at h hk ⊢
 by_cases h5:c=62/\l=[]/\last=false
 ·rw [if_pos h5] at h;cases h
 rw [if_neg h5] at h hk ⊢
 by_cases h6:c=60
 ·rw [if_pos h6] at h hk ⊢
  by_cases h9:(hexO last [] (p+1) l).1≠0
  ·rw [if_pos h9] at h;exact absurd h h9
  ·rw [if_neg h9]
   have:=hexO_len last l [] (p+1)
   exact⟨by simpa using this,.inl ⟨rfl,rfl⟩⟩
 rw [if_neg h6] at h hk ⊢
 by_cases h7:c=40
 ·rw [if_pos h7] at h hk ⊢
  by_cases h9:(txtO last 1 [] (p+1) l).1≠0
  ·rw [if_pos h9] at h;exact absurd h h9
  ·rw [if_neg h9]
   have:=txtO_len last _ l 1 [] (p+1) (Nat.le_refl _)
   exact⟨by simpa using this,.inl ⟨rfl,rfl⟩⟩
 rw [if_neg h7] at h hk ⊢
 have hrl:=rgs_le l
 by_cases h8:c=47
 ·rw [if_pos h8] at h hk ⊢
  by_cases h9:rgs l=l.length/\last=false
  ·rw [if_pos h9] at h;cases h
  rw [if_neg h9] at h hk ⊢
  by_cases h10:(nameO (l.take (rgs l))).1≠0
  ·rw [if_pos h10] at h;exact absurd h h10
  rw [if_neg h10]
  unfold nameO at h10 ⊢
  cases hn:nameF (l.take (rgs l)) with
  |none=>rw [hn] at h10;exact absurd (by decide) h10
  |some o =>
   rw [hn] at h10
   simp only [] at h10 ⊢
   by_cases h11:0∈o\/127<o.length
   ·rw [if_pos h11] at h10;exact absurd (by decide) h10
   rw [if_neg h11]
   obtain⟨h12,h13⟩:=nameF_small _ _ o (Nat.le_refl _) (fun x hx=>hb x (List.mem_of_mem_take hx)) hn
   rw [List.length_take] at h12
   refine⟨by simp only [];omega,.inr (.inl ⟨rfl,rfl,?_⟩)⟩
   simp only []
   refine⟨fun d hd=>?_,by rw [sb_size];omega⟩
   rw [sl_sb o h13] at hd
   intro e
   subst e
   exact h11 (.inl hd)
 rw [if_neg h8] at h hk ⊢
 by_cases h9:isDl c=true
 ·rw [if_pos h9] at h;cases h
 rw [if_neg h9] at h hk ⊢
 by_cases h10:rgs l=l.length/\last=false
 ·rw [if_pos h10] at h;cases h
 rw [if_neg h10] at h hk ⊢
 by_cases h11:isNm c=true
 ·rw [if_pos h11] at h hk ⊢
  by_cases h12:(numOf ((c::l).take (rgs l+1))).1≠0
  ·rw [if_pos h12] at h;exact absurd h h12
  rw [if_neg h12]
  obtain⟨k,x,hx⟩:∃ k x,numOf ((c::l).take (rgs l+1))=(0,k,x):=⟨_,_,by rw [<- Decidable.not_not.1 h12]⟩
  have:=numOf_may hx
  rw [hx]
  refine⟨Nat.zero_le _,?_⟩
  rcases this with⟨rfl,h⟩|⟨rfl,h⟩
  ·exact .inr (.inr (.inl ⟨rfl,rfl,h⟩))
  ·exact .inr (.inr (.inr ⟨rfl,rfl,h⟩))
 ·rw [if_neg h11] at hk;cases hk
theorem next_val (bs:List Nat) (p:Nat) (last:Bool) (hb:∀ x∈bs,x<256) (h:(nextO bs p last).1=0) (hk:(nextO bs p last).2.kind=1):TokV bs.length (nextO bs p last).2:=by
 unfold nextO at h hk ⊢
 cases hc:bs.drop (p+skp false (bs.drop p)) with
 |nil=>rw [hc] at hk;cases hk
 |cons c l =>
  rw [hc] at h hk
  simp only [] at h hk ⊢
  have hlen:=congrArg List.length hc
  rw [List.length_drop,List.length_cons] at hlen
  have h1:=tok_val last _ c l (fun x hx=>hb x (List.mem_of_mem_drop (by rw [hc];exact List.mem_cons_of_mem _ hx))) h hk
  exact⟨by have:=h1.1;omega,h1.2⟩
noncomputable def runI (bs:List Nat) (last:Bool) (p:Int) (st:List (Int × List VT)):Int × VT × Nat:=if p<0\/(bs.length:Int)<p then(2,nilT,0) else runO bs last p.toNat st
theorem actO_err {bs:List Nat} {last:Bool} {r:Int × Tkn} {st:List (Int × List VT)} (h:r.1≠0):actO bs last r st=.done r.1 nilT 0:=by unfold actO;rw [if_pos h]
theorem runI_done {bs:List Nat} {last:Bool} {p:Int} {st:List (Int × List VT)} {er:Int} {v:VT} {tz:Nat} (h:actO bs last (nextA bs p last) st=.done er v tz):runI bs last p st=(er,v,tz):=by
 unfold runI
 unfold nextA at h
 by_cases hp:p<0\/(bs.length:Int)<p
 ·rw [if_pos hp] at h ⊢
  rw [actO_err (by decide)] at h
  cases h
  rfl
 ·rw [if_neg hp] at h ⊢
  exact run_done h
theorem runI_next {bs:List Nat} {last:Bool} {p:Int} {q:Nat} {st st':List (Int × List VT)} (h:actO bs last (nextA bs p last) st=.next q st'):runI bs last p st=runI bs last (q:Nat) st'/\p<q/\q<=bs.length/\0<=p:=by
 unfold runI
 unfold nextA at h
 by_cases hp:p<0\/(bs.length:Int)<p
 ·rw [if_pos hp,actO_err (by decide)] at h
  cases h
 ·rw [if_neg hp] at h ⊢
  have hq:=step_to (by omega) h
  rw [if_neg (by omega),run_next h hq,Int.toNat_natCast]
  exact⟨rfl,by omega,hq.2,by omega⟩
theorem sizL_app:∀ a b:List VT,sizL (a++b)=sizL a+sizL b
 |[],b=>by rw [List.nil_append,sizL,Nat.zero_add]
 |t::a,b=>by rw [List.cons_append,sizL_cons,sizL_cons,sizL_app a b,Nat.add_assoc]
theorem siz_insL (key:ByteArray) (x:VT):∀ (n:Nat) (l:List VT),l.length<=n->sizL (insL key x l)<=sizL l+1+sizT x:=by
 have hn:sizT (nmT key)=1:=by rw [nmT,sizT_mk];rfl
 intro n
 induction n with
 |zero =>
  intro l h
  obtain rfl:l=[]:=List.length_eq_zero_iff.1 (by omega)
  rw [insL,sizL_cons,sizL_cons,hn]
  omega
 |succ n ih =>
  intro l h
  match l,h with
  |[],_ =>
   rw [insL,sizL_cons,sizL_cons,hn]
   omega
  |[t],_ =>
   rw [insL]
   split
   ·rw [sizL_cons,sizL_cons,hn];omega
   ·rw [sizL_cons,sizL_cons,sizL_cons,hn];simp only [sizL];omega
  |t::u::l,h =>
   rw [insL]
   split
   ·rw [sizL_cons,sizL_cons,hn];omega
   ·rw [sizL_cons,sizL_cons,sizL_cons,sizL_cons]
    have:=ih l (by simp only [List.length_cons] at h;omega)
    omega
theorem sizL_cut (l:List VT) (a:Nat):sizL l=sizL (l.take a)+sizL (l.drop a):=by rw [<- sizL_app,List.take_append_drop]
theorem siz_putL (key:ByteArray) (x:VT) (l:List VT):sizL (putL key x l)<=sizL l+1+sizT x:=by
 unfold putL
 split
 ·next j _ =>
  unfold replL
  rw [sizL_app,sizL_cons]
  have h1:=sizL_cut l (2*j+1)
  have h2:=sizL_drop (l.drop (2*j+1)) 1
  rw [List.drop_drop,show 2*j+1+1=2*j+2 from rfl] at h2
  omega
 ·exact siz_insL key x _ l (Nat.le_refl _)
theorem dictT_short {l:List VT} (h:l.length<=1):dictT l=[]:=by
 unfold dictT
 rw [show l.length / 2=0 by omega]
 rfl
def mustO (r:Int × Tkn):Int × Tkn:=if r.1=0/\r.2.kind=0 then(10,noT 0) else r
set_option maxHeartbeats 4000000 in
set_option maxRecDepth 100000 in
theorem qtok_any (bs:List Nat) (A:Option Addr) (c:Nat) (p:Int) (last:Bool) (w:World) (hS:Src w 1 A bs.length c (lcells bs)) (hl:bs.length<=400000) (hc:bs.length<=c) (hb:∀ x∈bs,x<256) :
  Calls Tryz.prog 60 #[.slice A bs.length c,.int .i64 p,.bool last] w (NxTo w (mustO (nextA bs p last))):=by
 have HNX:=kf (fun W (hW:Chg NoS w W)=>pnext_any bs A c p last W (Src.below (w0:=w) hS hW) hl hc hb)
 obtain⟨n,hn⟩:∃ n,n=bs.length:=⟨_,rfl⟩
 obtain⟨R,hR⟩:∃ R,R=nextA bs p last:=⟨_,rfl⟩
 rw [<- hR,<- hn] at HNX
 rw [<- hR,<- hn]
 obtain⟨er,t⟩:=R
 obtain⟨tk,tf,tt_,tvk,tvn,tvs,ts⟩:=t
 unfold NxTo tknV at HNX ⊢
 simp only [] at HNX
 have HZ0:=kf (fun(r:Int × Tkn) (h:mustO (er,⟨tk,tf,tt_,tvk,tvn,tvs,ts⟩)=r)=>h)
 obtain⟨S6,hS6⟩:∃ S6,S6=sb tvs:=⟨_,rfl⟩
 obtain⟨S7,hS7⟩:∃ S7,S7=sb ts:=⟨_,rfl⟩
 rw [<- hS6,<- hS7] at HNX
 have HS6:=kf hS6
 have HS7:=kf hS7
 have HB0:=kf (Blk.new w 62 #[.int .i64 0,.int .i64 0,.int .i64 0,.int .i64 0,.int .i64 0,.string ⟨#[]⟩,.slice none 0 0,.string ⟨#[]⟩])
 have HC0:=kf ((Chg.refl NoS w).alloc (.cells #[.int .i64 0,.int .i64 0,.int .i64 0,.int .i64 0,.int .i64 0,.string ⟨#[]⟩,.slice none 0 0,.string ⟨#[]⟩] 62))
 clear hS hb hR hn hS6 hS7 hl hc
 by_cases he:er=0
 ·subst he
  by_cases hk:tk=0
  ·subst hk
   have HZ:=kf (HZ0.out (10,noT 0) (if_pos ⟨rfl,rfl⟩))
   clear HZ0
   go_enter Tryz.func60,Tryz.ntmps60
   go_upto_region 2 with(go_at_call 35;refine(HNX.out _ HC0.out).mono ?_;rintro e w3 ⟨rfl,hc3⟩;have HC3:=kf hc3;clear hc3)
   have HB6:=kf ((HB0.out.chg HC3.out (fun e=>e)).alloc (.cells #[.int .i64 0,.int .i64 (tf:Nat),.int .i64 (tt_:Nat),.int .i64 (tvk:Nat),.int .i64 tvn,.string S6,.slice none 0 0,.string S7] 62))
   have HB8:=kf (Blk.new w3 62 #[.int .i64 0,.int .i64 (tf:Nat),.int .i64 (tt_:Nat),.int .i64 (tvk:Nat),.int .i64 tvn,.string S6,.slice none 0 0,.string S7])
   have HC4:=kf ((HC0.out.trans HC3.out (fun _ _ e=>e)).alloc (.cells #[.int .i64 0,.int .i64 (tf:Nat),.int .i64 (tt_:Nat),.int .i64 (tvk:Nat),.int .i64 tvn,.string S6,.slice none 0 0,.string S7] 62))
   obtain⟨W4,hW4⟩:∃ W4,W4=w3.alloc (.cells #[.int .i64 0,.int .i64 (tf:Nat),.int .i64 (tt_:Nat),.int .i64 (tvk:Nat),.int .i64 tvn,.string S6,.slice none 0 0,.string S7] 62):=⟨_,rfl⟩
   obtain⟨g8,hg8⟩:∃ g8,g8=w3.heap.size:=⟨_,rfl⟩
   rw [<- hW4] at HB6 HB8 HC4 ⊢
   rw [<- hg8] at HB8 ⊢
   obtain⟨g6,hg6⟩:∃ g6,g6=w.heap.size:=⟨_,rfl⟩
   rw [<- hg6] at HB6 ⊢
   have hge6:w.heap.size<=g6:=by omega
   obtain⟨q0,q1,q2,q3,q4,q5,q6,q7,y0,y1,y2,y3,y4,y5,y6,y7⟩:=HB8.out.cl8
   obtain⟨r0,r1,r2,r3,r4,r5,r6,r7,z0,z1,z2,z3,z4,z5,z6,z7⟩:=HB6.out.cl8
   clear hW4 hg6 hg8 HB0 HC0 HC3 HB6 HB8 HNX
   go_wp2_with fail
   refine bodyPost_ret (v:=.tuple #[.agg #[.int .i64 0,.int .i64 0,.int .i64 0,.int .i64 0,.int .i64 0,.string ⟨#[]⟩,.slice none 0 0,.string ⟨#[]⟩],.int .i64 10]) (by simp [results,Tryz.results60,go_sem,r0,r1,r2,r3,r4,r5,r6,r7]) rfl ?_
   refine⟨by rw [HZ.out];rfl,?_⟩
   exact Chg.newc hge6 (Chg.newc hge6 (Chg.newc hge6 (Chg.newc hge6 (Chg.newc hge6 (Chg.newc hge6 (Chg.newc hge6 (Chg.newc hge6 HC4.out)))))))
  ·have HZ:=kf (HZ0.out _ (if_neg (fun h=>hk h.2)))
   have e1:((tk:Int)==0)=false:=by simp;omega
   have e2:(tk==0)=false:=by simp;omega
   clear HZ0 hk
   go_enter Tryz.func60,Tryz.ntmps60
   go_upto_region 2 with(go_at_call 35;refine(HNX.out _ HC0.out).mono ?_;rintro e w3 ⟨rfl,hc3⟩;have HC3:=kf hc3;clear hc3)
   have HB6:=kf ((HB0.out.chg HC3.out (fun e=>e)).alloc (.cells #[.int .i64 (tk:Nat),.int .i64 (tf:Nat),.int .i64 (tt_:Nat),.int .i64 (tvk:Nat),.int .i64 tvn,.string S6,.slice none 0 0,.string S7] 62))
   have HB8:=kf (Blk.new w3 62 #[.int .i64 (tk:Nat),.int .i64 (tf:Nat),.int .i64 (tt_:Nat),.int .i64 (tvk:Nat),.int .i64 tvn,.string S6,.slice none 0 0,.string S7])
   have HC4:=kf ((HC0.out.trans HC3.out (fun _ _ e=>e)).alloc (.cells #[.int .i64 (tk:Nat),.int .i64 (tf:Nat),.int .i64 (tt_:Nat),.int .i64 (tvk:Nat),.int .i64 tvn,.string S6,.slice none 0 0,.string S7] 62))
   obtain⟨W4,hW4⟩:∃ W4,W4=w3.alloc (.cells #[.int .i64 (tk:Nat),.int .i64 (tf:Nat),.int .i64 (tt_:Nat),.int .i64 (tvk:Nat),.int .i64 tvn,.string S6,.slice none 0 0,.string S7] 62):=⟨_,rfl⟩
   obtain⟨g8,hg8⟩:∃ g8,g8=w3.heap.size:=⟨_,rfl⟩
   rw [<- hW4] at HB6 HB8 HC4 ⊢
   rw [<- hg8] at HB8 ⊢
   obtain⟨g6,hg6⟩:∃ g6,g6=w.heap.size:=⟨_,rfl⟩
   rw [<- hg6] at HB6 ⊢
   have hge6:w.heap.size<=g6:=by omega
   obtain⟨q0,q1,q2,q3,q4,q5,q6,q7,y0,y1,y2,y3,y4,y5,y6,y7⟩:=HB8.out.cl8
   obtain⟨r0,r1,r2,r3,r4,r5,r6,r7,z0,z1,z2,z3,z4,z5,z6,z7⟩:=HB6.out.cl8
   clear hW4 hg6 hg8 HB0 HC0 HC3 HB6 HB8 HNX
   go_wp2_with fail
   refine bodyPost_ret (v:=.tuple #[.agg #[.int .i64 (tk:Nat),.int .i64 (tf:Nat),.int .i64 (tt_:Nat),.int .i64 (tvk:Nat),.int .i64 tvn,.string S6,.slice none 0 0,.string S7],.int .i64 0]) (by simp [results,Tryz.results60,go_sem,r0,r1,r2,r3,r4,r5,r6,r7]) rfl ?_
   refine⟨by rw [HZ.out];rw [HS6.out,HS7.out],?_⟩
   exact Chg.newc hge6 (Chg.newc hge6 (Chg.newc hge6 (Chg.newc hge6 (Chg.newc hge6 (Chg.newc hge6 (Chg.newc hge6 (Chg.newc hge6 HC4.out)))))))
 ·have HZ:=kf (HZ0.out _ (if_neg (fun h=>he h.1)))
  have e1:(er==0)=false:=by simpa using he
  clear HZ0 he
  go_enter Tryz.func60,Tryz.ntmps60
  go_upto_region 2 with(go_at_call 35;refine(HNX.out _ HC0.out).mono ?_;rintro e w3 ⟨rfl,hc3⟩;have HC3:=kf hc3;clear hc3)
  have HB6:=kf ((HB0.out.chg HC3.out (fun e=>e)).alloc (.cells #[.int .i64 (tk:Nat),.int .i64 (tf:Nat),.int .i64 (tt_:Nat),.int .i64 (tvk:Nat),.int .i64 tvn,.string S6,.slice none 0 0,.string S7] 62))
  have HB8:=kf (Blk.new w3 62 #[.int .i64 (tk:Nat),.int .i64 (tf:Nat),.int .i64 (tt_:Nat),.int .i64 (tvk:Nat),.int .i64 tvn,.string S6,.slice none 0 0,.string S7])
  have HC4:=kf ((HC0.out.trans HC3.out (fun _ _ e=>e)).alloc (.cells #[.int .i64 (tk:Nat),.int .i64 (tf:Nat),.int .i64 (tt_:Nat),.int .i64 (tvk:Nat),.int .i64 tvn,.string S6,.slice none 0 0,.string S7] 62))
  obtain⟨W4,hW4⟩:∃ W4,W4=w3.alloc (.cells #[.int .i64 (tk:Nat),.int .i64 (tf:Nat),.int .i64 (tt_:Nat),.int .i64 (tvk:Nat),.int .i64 tvn,.string S6,.slice none 0 0,.string S7] 62):=⟨_,rfl⟩
  obtain⟨g8,hg8⟩:∃ g8,g8=w3.heap.size:=⟨_,rfl⟩
  rw [<- hW4] at HB6 HB8 HC4 ⊢
  rw [<- hg8] at HB8 ⊢
  obtain⟨g6,hg6⟩:∃ g6,g6=w.heap.size:=⟨_,rfl⟩
  rw [<- hg6] at HB6 ⊢
  have hge6:w.heap.size<=g6:=by omega
  obtain⟨q0,q1,q2,q3,q4,q5,q6,q7,y0,y1,y2,y3,y4,y5,y6,y7⟩:=HB8.out.cl8
  obtain⟨r0,r1,r2,r3,r4,r5,r6,r7,z0,z1,z2,z3,z4,z5,z6,z7⟩:=HB6.out.cl8
  clear hW4 hg6 hg8 HB0 HC0 HC3 HB6 HB8 HNX
  go_wp2_with fail
  refine bodyPost_ret (v:=.tuple #[.agg #[.int .i64 (tk:Nat),.int .i64 (tf:Nat),.int .i64 (tt_:Nat),.int .i64 (tvk:Nat),.int .i64 tvn,.string S6,.slice none 0 0,.string S7],.int .i64 er]) (by simp [results,Tryz.results60,go_sem,r0,r1,r2,r3,r4,r5,r6,r7]) rfl ?_
  refine⟨by rw [HZ.out];rw [HS6.out,HS7.out],?_⟩
  exact Chg.newc hge6 (Chg.newc hge6 (Chg.newc hge6 (Chg.newc hge6 (Chg.newc hge6 (Chg.newc hge6 (Chg.newc hge6 (Chg.newc hge6 HC4.out)))))))
end Go.Proofs.YtcehpobjnbgpdaaGreatDoor
