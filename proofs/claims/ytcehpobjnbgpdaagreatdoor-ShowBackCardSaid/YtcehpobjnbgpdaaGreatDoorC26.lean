/- Merged by program. -/
import Derived.Test.YtcehpobjnbgpdaaGreatDoorC21
import Derived.Test.YtcehpobjnbgpdaaGreatDoorC25
import Derived.Lib.ConvBytes
set_option linter.unusedVariables false
set_option linter.unusedSimpArgs false
namespace Go.Proofs.YtcehpobjnbgpdaaGreatDoor
noncomputable def contO (bs:List Nat) (last:Bool):Out->Int × VT × Nat
 |.done er v tz=>(er,v,tz)
 |.next q st=>runO bs last q st
theorem run_cont {bs:List Nat} {last:Bool} {p:Nat} {st:List (Int × List VT)} (hp:p<=bs.length):runO bs last p st=contO bs last (stepO bs last p st):=by
 cases h:stepO bs last p st with
 |done er v tz=>rw [run_done h];rfl
 |next q st'=>rw [run_next h (step_to hp h)];rfl
def leafO (bs:List Nat) (last:Bool) (t:Tkn):Int × VT × Nat:=if t.kind=6 then((wordO t.s).1,(wordO t.s).2,t.to) else refO bs last t
mutual
inductive Reads (bs:List Nat) (last:Bool):Nat->Tkn->VT->Nat->Prop
 |leaf {deep:Nat} {t:Tkn} {v:VT} {q:Nat} (hk:t.kind=6\/t.kind=1) (hd:deep<64) (h:leafO bs last t=(0,v,q)):Reads bs last deep t v q
 |arr {deep:Nat} {t:Tkn} {l:List VT} {q:Nat} (hk:t.kind=2) (hd:deep<64) (h:Elems bs last (deep+1) t.to l q):Reads bs last deep t (.mk 6 0 ⟨#[]⟩ l) q
 |dict {deep:Nat} {t:Tkn} {l:List VT} {q:Nat} (hk:t.kind=4) (hd:deep<64) (h:Names bs last (deep+1) t.to [] l q):Reads bs last deep t (.mk 7 0 ⟨#[]⟩ (dictT l)) q
inductive Elems (bs:List Nat) (last:Bool):Nat->Nat->List VT->Nat->Prop
 |nil {deep p:Nat} {t:Tkn} (hp:p<=bs.length) (h:nextO bs p last=(0,t)) (hk:t.kind=3):Elems bs last deep p [] t.to
 |cons {deep p q q':Nat} {t:Tkn} {v:VT} {l:List VT} (hp:p<=bs.length) (h:nextO bs p last=(0,t)) (hv:Reads bs last deep t v q) (hl:Elems bs last deep q l q'):Elems bs last deep p (v::l) q'
inductive Names (bs:List Nat) (last:Bool):Nat->Nat->List VT->List VT->Nat->Prop
 |nil {deep p:Nat} {acc:List VT} {t:Tkn} (hp:p<=bs.length) (h:nextO bs p last=(0,t)) (hk:t.kind=5):Names bs last deep p acc acc t.to
 |cons {deep p q q':Nat} {acc l:List VT} {t u:Tkn} {v:VT} (hp:p<=bs.length) (hd:deep<64) (h:nextO bs p last=(0,t)) (hk:t.kind=1) (hn:t.vk=5) (hno:findL (sb t.vs) (dictT acc)=none) (h2:nextO bs t.to last=(0,u)) (hv:Reads bs last deep u v q) (hl:Names bs last deep q (acc++[tokV t,v]) l q'):Names bs last deep p acc l q'
end
theorem dictT_snoc {acc:List VT} {n v:VT} (he:acc.length%2=0):dictT (acc++[n,v])=putL n.str v (dictT acc):=by
 rw [<- dictF_T,<- dictF_T]
 have hl:(acc++[n,v]).length / 2=acc.length / 2+1:=by rw [List.length_append,show([n,v]:List VT).length=2 from rfl];omega
 rw [hl,List.range_succ,dictF_snoc]
 have hk:∀ j,j<acc.length / 2->keyAt (acc++[n,v]) j=keyAt acc j/\valAt (acc++[n,v]) j=valAt acc j:=fun j hj=>by
  unfold keyAt valAt
  rw [List.getElem?_append_left (by omega),List.getElem?_append_left (by omega)]
  exact⟨rfl,rfl⟩
 have key:∀ m,m<=acc.length / 2->dictF (keyAt (acc++[n,v])) (valAt (acc++[n,v])) (List.range m)=dictF (keyAt acc) (valAt acc) (List.range m):=by
  intro m
  induction m with
  |zero=>intro _;rfl
  |succ m ih =>
   intro hm
   rw [List.range_succ,dictF_snoc,dictF_snoc,ih (by omega),(hk m (by omega)).1,(hk m (by omega)).2]
 rw [key _ (Nat.le_refl _)]
 have h1:keyAt (acc++[n,v]) (acc.length / 2)=n.str:=by
  unfold keyAt
  rw [List.getElem?_append_right (by omega),show 2*(acc.length / 2)-acc.length=0 by omega]
  rfl
 have h2:valAt (acc++[n,v]) (acc.length / 2)=v:=by
  unfold valAt
  rw [List.getElem?_append_right (by omega),show 2*(acc.length / 2)+1-acc.length=1 by omega]
  rfl
 rw [h1,h2]
theorem insL_len (key:ByteArray) (x:VT):∀ (n:Nat) (l:List VT),l.length<=n->(insL key x l).length=l.length+2:=by
 intro n
 induction n with
 |zero =>
  intro l h
  obtain rfl:l=[]:=List.length_eq_zero_iff.1 (by omega)
  rw [insL];rfl
 |succ n ih =>
  intro l h
  match l,h with
  |[],_=>rw [insL];rfl
  |[t],_ =>
   rw [insL]
   split<;>rfl
  |t::u::l,h =>
   rw [insL]
   split
   ·simp only [List.length_cons]
   ·have:=ih l (by simp only [List.length_cons] at h;omega)
    simp only [List.length_cons,this]
theorem dict_snoc_len {acc:List VT} {n v:VT} (he:acc.length%2=0) (hl:(dictT acc).length=acc.length) (hno:findL n.str (dictT acc)=none):(dictT (acc++[n,v])).length=(acc++[n,v]).length:=by
 rw [dictT_snoc he]
 unfold putL
 rw [hno]
 simp only []
 rw [insL_len _ _ _ _ (Nat.le_refl _),hl,List.length_append]
 rfl
theorem put_room {v:VT} {q:Nat} {k:Int} {acc:List VT} {r:List (Int × List VT)} (h:roomO ((k,acc)::r) v.kind=0):putO 0 v q ((k,acc)::r)=.next q ((k,acc++[v])::r):=by
 unfold putO
 rw [if_neg (by decide)]
 simp only []
 rw [if_neg (by rw [h];decide)]
theorem room_6 {acc:List VT} {r:List (Int × List VT)} {k:Int} (hd:r.length+1<64):roomO ((6,acc)::r) k=0:=by
 unfold roomO
 simp only []
 rw [if_neg (fun h=>absurd h.1 (by decide)),if_neg (by omega)]
theorem room_7n {acc:List VT} {r:List (Int × List VT)} (hd:r.length+1<64):roomO ((7,acc)::r) 5=0:=by
 unfold roomO
 simp only []
 rw [if_neg (fun h=>h.2.2 rfl),if_neg (by omega)]
theorem room_7v {acc:List VT} {r:List (Int × List VT)} {k:Int} (hd:r.length+1<64) (ho:acc.length%2=1):roomO ((7,acc)::r) k=0:=by
 unfold roomO
 simp only []
 rw [if_neg (fun h=>by have:=h.2.1;omega),if_neg (by omega)]
theorem reads_deep {bs:List Nat} {last:Bool} {deep q:Nat} {t:Tkn} {v:VT} (h:Reads bs last deep t v q):deep<64:=by
 cases h<;>assumption
theorem reads_kind {bs:List Nat} {last:Bool} {deep q:Nat} {t:Tkn} {v:VT} (h:Reads bs last deep t v q):t.kind=6\/t.kind=1\/t.kind=2\/t.kind=4:=by
 cases h with
 |leaf hk _ _=>rcases hk with h|h<;>simp [h]
 |arr hk _ _=>simp [hk]
 |dict hk _ _=>simp [hk]
theorem opn_put {bs:List Nat} {last:Bool} {k:Int} {p q:Nat} {v:VT} {st:List (Int × List VT)} (hv:v.kind=k) (h:roomO st k≠0):opnO k p st=putO 0 v q st:=by
 unfold opnO putO
 rw [if_pos h,if_neg (by decide)]
 match st,h with
 |[],h=>exact absurd rfl h
 |(k',l)::r,h =>
  simp only []
  rw [hv,if_pos h]
mutual
theorem run_reads {bs:List Nat} {last:Bool}:∀ {deep:Nat} {t:Tkn} {v:VT} {q:Nat},Reads bs last deep t v q->∀ (p:Nat) (st:List (Int × List VT)),p<=bs.length->nextO bs p last=(0,t)->st.length=deep->runO bs last p st=contO bs last (putO 0 v q st)
 |_,t,v,q,.leaf hk hd h,p,st,hp,hn,hst=>by
  rw [run_cont hp]
  unfold stepO
  rw [hn]
  unfold actO leafO at *
  rcases hk with hk|hk
  ·rw [if_pos hk] at h
   simp only [] at h ⊢
   have h1:(wordO t.s).1=0:=congrArg Prod.fst h
   have h2:(wordO t.s).2=v:=congrArg (fun x=>x.2.1) h
   have h3:t.to=q:=congrArg (fun x=>x.2.2) h
   rw [if_neg (by decide),if_neg (by rw [hk];decide),if_neg (by rw [hk];decide),if_neg (by rw [hk];decide),if_neg (by rw [hk];decide),if_neg (by rw [hk];decide),if_pos hk,h1,h2,h3]
  ·rw [if_neg (by rw [hk];decide)] at h
   simp only []
   rw [if_neg (by decide),if_neg (by rw [hk];decide),if_neg (by rw [hk];decide),if_neg (by rw [hk];decide),if_neg (by rw [hk];decide),if_neg (by rw [hk];decide),if_neg (by rw [hk];decide),h]
 |_,t,_,q,.arr (l:=l) hk hd h,p,st,hp,hn,hst=>by
  rw [run_cont hp]
  have hs:stepO bs last p st=opnO 6 t.to st:=by
   unfold stepO
   rw [hn]
   unfold actO
   simp only []
   rw [if_neg (by decide),if_neg (by rw [hk];decide),if_pos hk]
  rw [hs]
  by_cases hr:roomO st 6=0
  ·have ho:opnO 6 t.to st=.next t.to ((6,[])::st):=by unfold opnO;rw [if_neg (by rw [hr];decide)]
   rw [ho]
   show runO bs last t.to ((6,[])::st)=_
   have:=run_elems h [] st (by rw [hst])
   rwa [List.nil_append] at this
  ·rw [opn_put (bs:=bs) (last:=last) (k:=6) (p:=t.to) (v:=.mk 6 0 ⟨#[]⟩ l) (q:=q) rfl hr]
 |_,t,_,q,.dict (l:=l) hk hd h,p,st,hp,hn,hst=>by
  rw [run_cont hp]
  have hs:stepO bs last p st=opnO 7 t.to st:=by
   unfold stepO
   rw [hn]
   unfold actO
   simp only []
   rw [if_neg (by decide),if_neg (by rw [hk];decide),if_neg (by rw [hk];decide),if_pos hk]
  rw [hs]
  by_cases hr:roomO st 7=0
  ·have ho:opnO 7 t.to st=.next t.to ((7,[])::st):=by unfold opnO;rw [if_neg (by rw [hr];decide)]
   rw [ho]
   show runO bs last t.to ((7,[])::st)=_
   exact run_names h st (by rw [hst]) rfl (by unfold dictT;rfl)
  ·rw [opn_put (bs:=bs) (last:=last) (k:=7) (p:=t.to) (v:=.mk 7 0 ⟨#[]⟩ (dictT l)) (q:=q) rfl hr]
theorem run_elems {bs:List Nat} {last:Bool}:∀ {deep p:Nat} {l:List VT} {q:Nat},Elems bs last deep p l q->∀ (acc:List VT) (st:List (Int × List VT)),st.length+1=deep->runO bs last p ((6,acc)::st)=contO bs last (putO 0 (.mk 6 0 ⟨#[]⟩ (acc++l)) q st)
 |_,p,_,_,.nil (t:=t) hp h hk,acc,st,hst=>by
  rw [run_cont hp,List.append_nil]
  unfold stepO
  rw [h]
  unfold actO
  simp only []
  rw [if_neg (by decide),if_neg (by rw [hk];decide),if_neg (by rw [hk];decide),if_neg (by rw [hk];decide),if_pos hk]
  rfl
 |_,p,_,_,.cons (v:=v) (q:=q) hp h hv hl,acc,st,hst=>by
  rw [run_reads hv p _ hp h (by simpa using hst)]
  have hd:=reads_deep hv
  rw [put_room (room_6 (by omega))]
  show runO bs last q ((6,acc++[v])::st)=_
  rw [run_elems hl (acc++[v]) st hst,List.append_assoc]
  rfl
theorem run_names {bs:List Nat} {last:Bool}:∀ {deep p:Nat} {acc l:List VT} {q:Nat},Names bs last deep p acc l q->∀ (st:List (Int × List VT)),st.length+1=deep->acc.length%2=0->(dictT acc).length=acc.length->runO bs last p ((7,acc)::st)=contO bs last (putO 0 (.mk 7 0 ⟨#[]⟩ (dictT l)) q st)
 |_,p,acc,_,_,.nil (t:=t) hp h hk,st,hst,he,hln=>by
  rw [run_cont hp]
  unfold stepO
  rw [h]
  unfold actO
  simp only []
  rw [if_neg (by decide),if_neg (by rw [hk];decide),if_neg (by rw [hk];decide),if_neg (by rw [hk];decide),if_neg (by rw [hk];decide),if_pos hk]
  have hp0:popO ((7,acc)::st) 7=(0,.mk 7 0 ⟨#[]⟩ (dictT acc)):=by
   unfold popO
   simp only []
   rw [if_neg (by decide),if_pos trivial]
   unfold dicO
   rw [if_neg (by omega),if_neg (by omega)]
  rw [hp0]
  rfl
 |_,p,acc,l,_,.cons (t:=t) (u:=u) (v:=v) (q:=q) hp hd h hk hn hno h2 hv hl,st,hst,he,hln=>by
  have hto:=next_tok bs p last hp
  rw [h] at hto
  have htl:t.to<=bs.length:=by
   rcases hto with h0|h0
   ·rw [show t.kind=0 from h0.1] at hk;cases hk
   ·exact h0.2.2.2
  rw [run_cont hp]
  have hs:stepO bs last p ((7,acc)::st)=putO 0 (tokV t) t.to ((7,acc)::st):=by
   unfold stepO
   rw [h]
   unfold actO
   simp only []
   rw [if_neg (by decide),if_neg (by rw [hk];decide),if_neg (by rw [hk];decide),if_neg (by rw [hk];decide),if_neg (by rw [hk];decide),if_neg (by rw [hk];decide),if_neg (by rw [hk];decide)]
   have hr:refO bs last t=(0,tokV t,t.to):=by unfold refO;rw [if_pos (by rw [hn];decide)]
   rw [hr]
  have hk5:(tokV t).kind=5:=by show((t.vk:Nat):Int)=5;rw [hn];rfl
  rw [hs,put_room (by rw [hk5];exact room_7n (by omega))]
  show runO bs last t.to ((7,acc++[tokV t])::st)=_
  rw [run_reads hv t.to _ htl h2 (by simpa using hst),put_room (room_7v (by omega) (by rw [List.length_append];simp;omega))]
  show runO bs last q ((7,acc++[tokV t]++[v])::st)=_
  have e:acc++[tokV t]++[v]=acc++[tokV t,v]:=by simp
  rw [e]
  exact run_names hl st hst (by rw [List.length_append];simp;omega) (dict_snoc_len he hln hno)
end
theorem runI_reads {bs:List Nat} {last:Bool} {p q:Nat} {t:Tkn} {v:VT} (hp:p<=bs.length) (hn:nextO bs p last=(0,t)) (h:Reads bs last 0 t v q):runI bs last (p:Nat) []=(0,v,q):=by
 unfold runI
 rw [if_neg (by omega),Int.toNat_natCast,run_reads h p [] hp hn rfl]
 rfl
def hexC (d:Nat):Nat:=if d<10 then 48+d else 87+d
def hex2 (c:Nat):List Nat:=[hexC (c / 16),hexC (c%16)]
theorem hexC_D {d:Nat} (h:d<16):hexD (hexC d)=some d:=by
 unfold hexC hexD
 split
 ·rw [if_pos (by omega)];congr 1;omega
 ·rw [if_neg (by omega),if_pos (by omega)];congr 1;omega
theorem hexC_rg:∀ d,d<16->isRg (hexC d)=true/\isSp (hexC d)=false/\hexC d≠62/\hexC d≠60/\hexC d<256:=by decide
def nmC (c:Nat):List Nat:=if 32<c/\c<127/\c≠35/\isDl c=false then [c] else 35::hex2 c
def nmL:List Nat->List Nat
 |[]=>[]
 |c::s=>nmC c++nmL s
def esC (c:Nat):List Nat:=if c=40\/c=41\/c=92 then [92,c] else [c]
def esL:List Nat->List Nat
 |[]=>[]
 |c::s=>esC c++esL s
def hxL:List Nat->List Nat
 |[]=>[]
 |c::s=>hex2 c++hxL s
def fineT (s:List Nat):Prop:=∀ c∈s,32<=c/\c<=126
instance (s:List Nat):Decidable (fineT s):=inferInstanceAs (Decidable (∀ c∈s,32<=c/\c<=126))
def nmF (s:List Nat):List Nat:=47::nmL s
def txF (s:List Nat):List Nat:=if fineT s then 40::(esL s++[41]) else 60::(hxL s++[62])
def endsR (l:List Nat):Prop:=∀ c m,l=c::m->isRg c=false
theorem rgs_app:∀ (l m:List Nat),(∀ c∈l,isRg c=true)->endsR m->rgs (l++m)=l.length:=by
 intro l m
 induction l with
 |nil =>
  intro _ hm
  cases m with
  |nil=>rfl
  |cons c m =>
   show rgs (c::m)=0
   rw [rgs,if_neg (by rw [hm c m rfl];decide)]
 |cons c l ih =>
  intro hl hm
  show rgs (c::(l++m))=_
  rw [rgs,if_pos (hl c (List.mem_cons_self ..)),ih (fun d hd=>hl d (List.mem_cons_of_mem _ hd)) hm,List.length_cons]
theorem nmC_rg {c:Nat} (h:c<256):∀ d∈nmC c,isRg d=true:=by
 intro d hd
 unfold nmC at hd
 split at hd
 ·next hc =>
  rw [List.mem_singleton] at hd
  subst hd
  unfold isRg
  rw [hc.2.2.2]
  have:isSp d=false:=by
   unfold isSp
   simp only [Bool.or_eq_false_iff,beq_eq_false_iff_ne]
   omega
  rw [this]
  rfl
 ·unfold hex2 at hd
  simp only [List.mem_cons,List.not_mem_nil,or_false] at hd
  rcases hd with rfl|rfl|rfl
  ·decide
  ·exact(hexC_rg _ (by omega)).1
  ·exact(hexC_rg _ (by omega)).1
theorem nmL_rg:∀ (s:List Nat),(∀ c∈s,c<256)->∀ d∈nmL s,isRg d=true:=by
 intro s
 induction s with
 |nil=>intro _ d hd;cases hd
 |cons c s ih =>
  intro hs d hd
  rw [nmL] at hd
  rcases List.mem_append.1 hd with h|h
  ·exact nmC_rg (hs c (List.mem_cons_self ..)) d h
  ·exact ih (fun x hx=>hs x (List.mem_cons_of_mem _ hx)) d h
theorem nameF_nmL:∀ (s:List Nat),(∀ c∈s,c<256)->nameF (nmL s)=some s:=by
 intro s
 induction s with
 |nil=>intro _;rw [nmL,nameF]
 |cons c s ih =>
  intro hs
  have hc:=hs c (List.mem_cons_self ..)
  have hr:=ih (fun x hx=>hs x (List.mem_cons_of_mem _ hx))
  rw [nmL]
  unfold nmC
  split
  ·next h =>
   show nameF (c::nmL s)=_
   rw [nameF.eq_def]
   simp only []
   rw [if_pos h.2.2.1,hr]
   rfl
  ·show nameF (35::hexC (c / 16)::hexC (c%16)::nmL s)=_
   rw [nameF.eq_def]
   simp only []
   rw [if_neg (by decide)]
   simp only [hexC_D (show c / 16<16 by omega),hexC_D (show c%16<16 by omega),hr]
   show some ((16*(c / 16)+c%16)::s)=_
   congr 2
   omega
theorem tok_nm (p:Nat) (s rest:List Nat) (hs:∀ c∈s,c<256) (h0:∀ c∈s,c≠0) (hl:s.length<=127) (hr:endsR rest) :
  tokO true p 47 (nmL s++rest)=(0,⟨1,p,p+1+(nmL s).length,5,0,s,[]⟩):=by
 have hg:=rgs_app (nmL s) rest (nmL_rg s hs) hr
 have hn:nameO (nmL s)=(0,s):=by
  unfold nameO
  rw [nameF_nmL s hs]
  simp only []
  rw [if_neg (by rintro(h|h);exact h0 0 h rfl;omega)]
 unfold tokO
 rw [if_neg (by decide),if_neg (by decide),if_neg (fun e=>absurd e.1 (by decide)),if_neg (fun e=>absurd e.1 (by decide)),if_neg (fun e=>absurd e.1 (by decide)),if_neg (by decide),if_neg (by decide),if_pos rfl,if_neg (fun e=>absurd e.2 (by decide)),hg,List.take_left' rfl,hn,if_neg (fun e=>e rfl)]
theorem txtO_es:∀ (s rest out:List Nat) (p:Nat),fineT s->txtO true 1 out p (esL s++41::rest)=(0,out++s,p+(esL s).length+1):=by
 intro s rest
 induction s with
 |nil =>
  intro out p _
  show txtO true 1 out p (41::rest)=_
  rw [txtO_cons,if_neg (by decide),if_neg (by decide),if_neg (by decide),if_pos rfl,if_pos rfl,List.append_nil]
  rfl
 |cons c s ih =>
  intro out p hf
  have hc:=hf c (List.mem_cons_self ..)
  have hr:=fun o q=>ih o q (fun x hx=>hf x (List.mem_cons_of_mem _ hx))
  rw [esL]
  by_cases h:c=40\/c=41\/c=92
  ·have he:esC c=[92,c]:=by unfold esC;rw [if_pos h]
   have hesc:escO true (c::(esL s++41::rest))=(0,some c,1):=by
    rw [escO_cons]
    repeat rw [if_neg (by omega)]
    rw [if_pos (by omega)]
   rw [he]
   show txtO true 1 out p (92::c::(esL s++41::rest))=_
   rw [txtO_cons,if_pos rfl,hesc,if_neg (fun e=>e rfl)]
   show txtO true 1 (out++[c]) (p+1+1) (esL s++41::rest)=_
   rw [hr,List.append_assoc]
   simp only [List.singleton_append,List.length_append,List.length_cons,List.length_nil]
   congr 2
   omega
  ·have he:esC c=[c]:=by unfold esC;rw [if_neg h]
   rw [he]
   show txtO true 1 out p (c::(esL s++41::rest))=_
   rw [txtO_cons,if_neg (by omega),if_neg (by omega),if_neg (by omega),if_neg (by omega),hr,List.append_assoc]
   simp only [List.singleton_append,List.length_append,List.length_cons,List.length_nil]
   congr 2
   omega
theorem pairs_app:∀ (n:Nat) (ds es:List Nat),ds.length<=n->ds.length%2=0->pairs (ds++es)=pairs ds++pairs es:=by
 intro n
 induction n using Nat.strongRecOn with
 |_ n ih =>
  intro ds es hn he
  match ds,hn,he with
  |[],_,_=>rfl
  |[a],_,he=>simp at he
  |a::b::l,hn,he =>
   simp only [List.length_cons] at hn he
   show pairs (a::b::(l++es))=_
   rw [pairs,pairs,ih l.length (by omega) l es (Nat.le_refl _) (by omega)]
   rfl
theorem hexO_hx:∀ (s rest ds:List Nat) (p:Nat),(∀ c∈s,c<256)->ds.length%2=0->hexO true ds p (hxL s++62::rest)=(0,pairs ds++s,p+(hxL s).length+1):=by
 intro s rest
 induction s with
 |nil =>
  intro ds p _ _
  show hexO true ds p (62::rest)=_
  rw [hexO,if_pos rfl,List.append_nil]
  rfl
 |cons c s ih =>
  intro ds p hs he
  have hc:=hs c (List.mem_cons_self ..)
  have h1:=hexC_rg (c / 16) (by omega)
  have h2:=hexC_rg (c%16) (by omega)
  show hexO true ds p (hexC (c / 16)::hexC (c%16)::(hxL s++62::rest))=_
  rw [hexO,if_neg h1.2.2.1,if_neg (by rw [h1.2.1];decide),hexC_D (by omega)]
  simp only []
  rw [hexO,if_neg h2.2.2.1,if_neg (by rw [h2.2.1];decide),hexC_D (by omega)]
  simp only []
  rw [ih _ _ (fun x hx=>hs x (List.mem_cons_of_mem _ hx)) (by simp only [List.length_append,List.length_cons,List.length_nil];omega),List.append_assoc,pairs_app _ ds _ (Nat.le_refl _) he]
  show(0,(pairs ds++[16*(c / 16)+c%16])++s,_)=_
  rw [List.append_assoc,show 16*(c / 16)+c%16=c by omega]
  simp only [List.singleton_append,hxL,hex2,List.length_append,List.length_cons,List.length_nil]
  congr 2
  omega
theorem tok_tx (p:Nat) (s rest:List Nat) (hs:∀ c∈s,c<256) :
  ∃ c l,txF s++rest=c::l/\(c=40\/c=60)/\tokO true p c l=(0,⟨1,p,p+(txF s).length,4,0,s,[]⟩):=by
 unfold txF
 by_cases h:fineT s
 ·rw [if_pos h]
  refine⟨40,esL s++41::rest,by rw [List.cons_append,List.append_assoc];rfl,.inl rfl,?_⟩
  have hx:=txtO_es s rest [] (p+1) h
  unfold tokO
  rw [if_neg (by decide),if_neg (by decide),if_neg (fun e=>absurd e.1 (by decide)),if_neg (fun e=>absurd e.1 (by decide)),if_neg (fun e=>absurd e.1 (by decide)),if_neg (by decide),if_pos rfl,hx,if_neg (fun e=>e rfl)]
  simp only [List.nil_append,List.length_cons,List.length_append,List.length_nil]
  congr 2
  omega
 ·rw [if_neg h]
  refine⟨60,hxL s++62::rest,by rw [List.cons_append,List.append_assoc];rfl,.inr rfl,?_⟩
  have hx:=hexO_hx s rest [] (p+1) hs rfl
  have hh:(hxL s++62::rest).head?≠some 60:=by
   cases s with
   |nil=>simp [hxL]
   |cons c s =>
    show some (hexC (c / 16))≠some 60
    intro e
    exact(hexC_rg (c / 16) (by have:=hs c (List.mem_cons_self ..);omega)).2.2.2.1 (Option.some.inj e)
  rw [tokO_60 true p _ hh,hx,if_neg (fun e=>e rfl)]
  simp only [pairs,List.nil_append,List.length_cons,List.length_append,List.length_nil]
  congr 2
  omega
theorem num_rg {n:List Nat} (h:∀ d∈n,isD d\/d=45\/d=46):∀ c∈n,isRg c=true:=by
 intro c hc
 have hk:isD c\/c=45\/c=46:=h c hc
 have:∀ c,c<58->(48<=c\/c=45\/c=46)->isRg c=true:=by decide
 unfold isD at hk
 exact this c (by omega) (by omega)
theorem sign_b (x:Int):∀ d∈signL x,isD d\/d=45\/d=46:=by
 intro d hd
 unfold signL at hd
 split at hd
 ·rw [List.mem_singleton] at hd;exact .inr (.inl hd)
 ·cases hd
theorem int_b (x:Int):∀ d∈intTxt x,isD d\/d=45\/d=46:=by
 intro d hd
 rcases List.mem_append.1 hd with h|h
 ·exact sign_b x d h
 ·exact .inl (txt_dig _ _ d h)
theorem real_b (x:Int):∀ d∈realTxt x,isD d\/d=45\/d=46:=by
 intro d hd
 rcases List.mem_append.1 hd with h|h
 ·exact sign_b x d h
 rcases List.mem_append.1 h with h|h
 ·exact .inl (txt_dig _ _ d h)
 rcases List.mem_cons.1 h with h|h
 ·exact .inr (.inr h)
 ·exact .inl (trimZ_dig 5 _ (txt_dig _ _) d h)
theorem sign_cons (x:Int) (n:Nat) (m:List Nat):∃ c l,signL x++(txt n 1++m)=c::l/\(isD c\/c=45):=by
 unfold signL
 split
 ·exact⟨45,_,rfl,.inr rfl⟩
 ·obtain⟨c,l,e,hc⟩:=txt_cons n
  exact⟨c,l++m,by rw [e];rfl,.inl hc⟩
theorem int_cons (x:Int):∃ c l,intTxt x=c::l/\(isD c\/c=45):=by
 have:=sign_cons x x.natAbs []
 rwa [List.append_nil] at this
theorem real_cons (x:Int):∃ c l,realTxt x=c::l/\(isD c\/c=45):=sign_cons x _ _
theorem tok_num {p c:Nat} {n l rest:List Nat} {k:Nat} {x:Int} (hn:n=c::l) (hc:isD c\/c=45) (hb:∀ d∈n,isD d\/d=45\/d=46) (ho:numOf n=(0,k,x)) (hr:endsR rest) :
  tokO true p c (l++rest)=(0,⟨1,p,p+n.length,k,x,[],[]⟩):=by
 have hrg:=num_rg hb
 subst hn
 have hg:=rgs_app l rest (fun d hd=>hrg d (List.mem_cons_of_mem _ hd)) hr
 have h1:=hrg c (List.mem_cons_self ..)
 unfold isD at hc
 have hdl:¬isDl c=true:=by
  intro e
  unfold isRg at h1
  rw [e] at h1
  simp at h1
 have hnm:isNm c=true:=by
  unfold isNm
  rcases hc with hc|rfl
  ·simp [hc.1,hc.2]
  ·rfl
 have ht:(c::(l++rest)).take (l.length+1)=c::l:=by rw [List.take_succ_cons,List.take_left' rfl]
 unfold tokO
 rw [if_neg (by omega),if_neg (by omega),if_neg (fun e=>by omega),if_neg (fun e=>by omega),if_neg (fun e=>absurd e.2.2 (by decide)),if_neg (by omega),if_neg (by omega),if_neg (by omega),if_neg hdl,if_neg (fun e=>absurd e.2 (by decide)),if_pos hnm,hg,ht,ho,if_neg (fun e=>e rfl)]
 simp only [List.length_cons]
 congr 2
 omega
theorem tok_wd {p c:Nat} {l rest:List Nat} (hc:c=110\/c=116\/c=102\/c=82) (hl:∀ d∈l,isRg d=true) (hr:endsR rest) :
  tokO true p c (l++rest)=(0,⟨6,p,p+1+l.length,0,0,[],c::l⟩):=by
 have hg:=rgs_app l rest hl hr
 have hdl:¬isDl c=true:=by rcases hc with rfl|rfl|rfl|rfl<;>decide
 have hnm:¬isNm c=true:=by rcases hc with rfl|rfl|rfl|rfl<;>decide
 have ht:(c::(l++rest)).take (l.length+1)=c::l:=by rw [List.take_succ_cons,List.take_left' rfl]
 unfold tokO
 rw [if_neg (by omega),if_neg (by omega),if_neg (fun e=>by omega),if_neg (fun e=>by omega),if_neg (fun e=>absurd e.2.2 (by decide)),if_neg (by omega),if_neg (by omega),if_neg (by omega),if_neg hdl,if_neg (fun e=>absurd e.2 (by decide)),if_neg hnm,hg,ht]
theorem next_at {bs l:List Nat} {p j c:Nat} {last:Bool} (hb:bs.drop p=List.replicate j 32++c::l) (hs:isSp c=false) (h37:c≠37):nextO bs p last=tokO last (p+j) c l:=by
 have hk:∀ (j:Nat),skp false (List.replicate j 32++c::l)=j:=by
  intro j
  induction j with
  |zero=>rw [List.replicate_zero,List.nil_append,skp,if_neg (by rw [hs];decide),if_neg h37]
  |succ j ih=>rw [List.replicate_succ,List.cons_append,skp,if_pos (by decide),ih]
 have hd:bs.drop (p+j)=c::l:=by
  rw [<- List.drop_drop,hb]
  exact List.drop_left' (by rw [List.length_replicate])
 unfold nextO
 rw [hb,hk,hd]
open Go.RowKit
theorem hexS_at:∀ d,d<16->∀ h:d<(ByteArray.mk #[48,49,50,51,52,53,54,55,56,57,97,98,99,100,101,102]).size,((ByteArray.mk #[48,49,50,51,52,53,54,55,56,57,97,98,99,100,101,102])[d]'h).toNat=hexC d:=by decide
theorem hexC_lt {d:Nat} (h:d<16):hexC d<256:=(hexC_rg d h).2.2.2.2
theorem hex2_lt {c:Nat} (h:c<256):∀ d∈hex2 c,d<256:=by
 intro d hd
 unfold hex2 at hd
 simp only [List.mem_cons,List.not_mem_nil,or_false] at hd
 rcases hd with rfl|rfl
 ·exact hexC_lt (by omega)
 ·exact hexC_lt (by omega)
theorem and15 (c:Nat) (h:c<256):bits .and .u8 (c:Int) 15=(c%16:Nat):=by
 have hx:(BitVec.ofInt 8 (c:Int) &&& BitVec.ofInt 8 15).toNat=c%16:=by
  rw [BitVec.toNat_and]
  have e7:(BitVec.ofInt 8 15).toNat=2 ^ 4-1:=by decide
  rw [e7,Nat.and_two_pow_sub_one_eq_mod,BitVec.toNat_ofInt]
  omega
 show IntKind.u8.wrap ((BitVec.ofInt 8 (c:Int) &&& BitVec.ofInt 8 15).toNat:Int)=_
 rw [hx]
 unfold IntKind.wrap
 simp [IntKind.bits,IntKind.signed]
 omega
set_option maxHeartbeats 400000 in
set_option maxRecDepth 100000 in
theorem fdig_any {V w W:World} {R:Nat} {out:List Nat} (h:FB V w W R out) (c:Nat) (hc:c<256) (hl:out.length<=500000) :
  Calls Tryz.prog 88 #[.pointer (some ⟨R,0,none⟩),.int .u8 (c:Nat)] W fun e W'=>e=.returned (.tuple #[])/\FB V w W' R (out++hex2 c):=by
 obtain⟨a,ha⟩:∃ a,a=c / 16:=⟨_,rfl⟩
 obtain⟨b,hb⟩:∃ b,b=c%16:=⟨_,rfl⟩
 have ha16:a<16:=by omega
 have hb16:b<16:=by omega
 have HE:=kf (show out++hex2 c=(out++[hexC a])++[hexC b] from by rw [ha,hb];unfold hex2;simp)
 have HW:=kf (fun V X o x (hX:FB V w X R o) (ho:o.length<=1000000)=>fpwbyte_any hX x ho)
 have g1:=hexS_at a ha16
 have g2:=hexS_at b hb16
 have s2:c >>> 4=a:=by rw [ha,Nat.shiftRight_eq_div_pow]
 have s1:(c:Int) / 16=(a:Int):=by omega
 have s3:bits .and .u8 (c:Int) 15=(b:Int):=by rw [hb];exact and15 c hc
 have HF:=kf h
 have i1:(a:Int)<16:=by omega
 have i2:(b:Int)<16:=by omega
 clear h ha hb
 go_enter Tryz.func88,Tryz.ntmps88
 go_wp2
 go_region_held3 (fun _=>True) (first|trivial|(go_keep;done)) ((go_at_call 86;with_reducible refine(HW.out _ _ _ (hexC a) HF.out.drew (by omega)).mono ?_;rintro e w3 ⟨rfl,h3⟩;have HF2:=kf h3;clear h3))
 go_wp2
 have hl2:(out++[hexC a]).length<=1000000:=by simp;omega
 go_region_held3 (fun _=>True) (first|trivial|(go_keep;done)) ((go_at_call 86;with_reducible refine(HW.out _ _ _ (hexC b) HF2.out.drew hl2).mono ?_;rintro e w4 ⟨rfl,h4⟩;have HF3:=kf h4;clear h4))
 go_wp2
 go_end0
 exact⟨rfl,by rw [HE.out];exact HF3.out⟩
theorem Chg.freezeP {w W:World} (h:Chg NoS w W) {p:Addr} (hg:w.heap.size<=p.block) (n:Nat):Chg NoS w (W.freeze p n) :=
 Chg.of_below (Lib.below_freeze (B:=w.heap.size) h.no_below hg n)
theorem conv_sb (W:World) (s:ByteArray) {R:Nat} (hR:R<W.heap.size):∃ cp W2,(convert 9 39 (.string s)).run Tryz.prog W=.ok (.slice (some ⟨W.heap.size,0,none⟩) s.size cp) W2/\Chg NoS W W2/\(∀ k,k<s.size->W2.cell? ⟨W.heap.size,k,none⟩=some (.int .u8 ((sl s).getD k 0:Nat))) /\
  ∀ k,k<s.size->∀ X,KF R W2 X->X.cell? ⟨W.heap.size,k,none⟩=some (.int .u8 ((sl s).getD k 0:Nat)):=by
 have hcell:∀ k,k<s.size->(Lib.bytesWorld W 5 s).cell? ⟨W.heap.size,k,none⟩=some (.int .u8 ((sl s).getD k 0:Nat)):=fun k hk=>by
  rw [Lib.bytesWorld_cell W 5 s k hk]
  have h1:k<s.data.toList.length:=by rw [Array.length_toList];exact hk
  rw [List.getD_eq_getElem?_getD,List.getD_eq_getElem?_getD,sl,List.getElem?_map,List.getElem?_eq_getElem h1]
  rfl
 refine⟨_,_,Lib.run_convert_string_bytes W 9 39 5 s Tryz.underlying9 Tryz.underlying39 Tryz.underlying5,?_,hcell,fun k hk X hX=>?_⟩
 ·unfold Lib.bytesWorld
  exact(((Chg.refl NoS W).drew).alloc _).freezeP (p:=⟨W.heap.size,_,none⟩) (Nat.le_refl _) 1
 ·rw [<- hcell k hk]
  have h1:=Lib.bytesWorld_at_new W 5 s
  refine World.cell?_of_block (a:=⟨W.heap.size,k,none⟩) ((hX _ _ (by omega) (fun cs e=>?_) h1).trans h1.symm)
  have h2:=(Obj.cells.inj e).2.2
  exact absurd (congrArg Prod.snd h2) (Nat.succ_ne_zero _)
theorem hxL_drop {l:List Nat} {k:Nat} (h:k<l.length):hxL (l.take (k+1))=hxL (l.take k)++hex2 (l.getD k 0):=by
 have e:l.take (k+1)=l.take k++[l.getD k 0]:=take_snoc (by rw [List.getD_eq_getElem?_getD,List.getElem?_eq_getElem h];rfl)
 have ha:∀ a b,hxL (a++b)=hxL a++hxL b:=by
  intro a b
  induction a with
  |nil=>rfl
  |cons c a ih=>rw [List.cons_append,hxL,hxL,ih,List.append_assoc]
 rw [e,ha]
 simp [hxL]
theorem esL_app:∀ a b,esL (a++b)=esL a++esL b:=by
 intro a b
 induction a with
 |nil=>rfl
 |cons c a ih=>rw [List.cons_append,esL,esL,ih,List.append_assoc]
theorem esL_drop {l:List Nat} {k:Nat} (h:k<l.length):esL (l.take (k+1))=esL (l.take k)++esC (l.getD k 0):=by
 have e:l.take (k+1)=l.take k++[l.getD k 0]:=take_snoc (by rw [List.getD_eq_getElem?_getD,List.getElem?_eq_getElem h];rfl)
 rw [e,esL_app]
 simp [esL]
theorem hxL_two:∀ l:List Nat,(hxL l).length=2*l.length
 |[]=>rfl
 |c::l=>by rw [hxL,List.length_append,hxL_two l,List.length_cons];show 2+_=_;omega
theorem esC_le2 (c:Nat):(esC c).length<=2:=by unfold esC;split<;>simp
theorem esL_le2:∀ l:List Nat,(esL l).length<=2*l.length
 |[]=>Nat.le_refl _
 |c::l=>by rw [esL,List.length_append,List.length_cons];have:=esL_le2 l;have:=esC_le2 c;omega
theorem esC_ge (c:Nat):1<=(esC c).length:=by unfold esC;split<;>simp
theorem esL_ge:∀ l:List Nat,l.length<=(esL l).length
 |[]=>Nat.le_refl _
 |c::l=>by rw [esL,List.length_append,List.length_cons];have:=esL_ge l;have:=esC_ge c;omega
theorem esL_take (l:List Nat) (k:Nat):(esL (l.take k)).length<=(esL l).length:=by
 have e:esL l=esL (l.take k)++esL (l.drop k):=by rw [<- esL_app,List.take_append_drop]
 rw [e,List.length_append]
 omega
theorem getD_lt (s:ByteArray) (k:Nat):(sl s).getD k 0<256:=by
 rw [List.getD_eq_getElem?_getD]
 cases h:(sl s)[k]? with
 |none=>exact Nat.zero_lt_succ _
 |some x=>exact sl_lt s x (List.mem_of_getElem? h)
set_option maxHeartbeats 2000000 in
set_option maxRecDepth 100000 in
theorem fhex_any {V w W:World} {R:Nat} {out:List Nat} (h:FB V w W R out) (s:ByteArray) (hl:out.length+(hxL (sl s)).length+2<=400000) :
  Calls Tryz.prog 58 #[.pointer (some ⟨R,0,none⟩),.string s] W fun e W'=>e=.returned (.tuple #[])/\FB V w W' R (out++60::(hxL (sl s)++[62])):=by
 have HW:=kf (fun V X o x (hX:FB V w X R o) (ho:o.length<=1000000)=>fpwbyte_any hX x ho)
 have HD:=kf (fun V X o c (hX:FB V w X R o) (hc:c<256) (ho:o.length<=500000)=>fdig_any hX c hc ho)
 have HF:=kf h
 obtain⟨n,hn⟩:∃ n,s.size=n:=⟨_,rfl⟩
 have HN:=kf (show(sl s).length=n from by rw [sl_len,hn])
 rw [hxL_two,HN.out] at hl
 have hn1:n<=400000:=by omega
 clear h
 go_enter Tryz.func58,Tryz.ntmps58
 go_upto_region 1 with(go_at_call 86;refine(HW.out _ _ _ 60 HF.out (by omega)).mono ?_;rintro e w1 ⟨rfl,h1⟩;have HF1:=kf h1;clear h1)
 obtain⟨cp,W2,hcv,hc2,hcell,hkeep⟩:=conv_sb w1 s HF1.out.lt
 rw [hn] at hcv hcell hkeep
 have HF2:=kf (HF1.out.call hc2)
 have HCE:=kf hkeep
 have HGL:=kf (show ∀ k,(sl s).getD k 0<256 from getD_lt s)
 obtain⟨g,hg⟩:∃ g,g=w1.heap.size:=⟨_,rfl⟩
 rw [<- hg] at hcv HCE
 have HKF:=kf HF2.out.kf
 clear hc2 hcell hkeep hn hg
 go_upto_region 2 with fail
 go_loopw [13] (fun vi wr=>∃ k:Nat,k<=n/\vi=.int .i64 (k:Nat)/\Hid (FB W2 w wr R (out++[60]++hxL ((sl s).take k)))) (fun vi _=>n-(intOf vi).toNat)
 case atStart=>exact⟨0,by omega,rfl,by rw [List.take_zero,hxL,List.append_nil];exact HF2.out.here⟩
 case round =>
  obtain⟨k,hk,rfl,HT⟩:=hrel
  have hlen:(out++[60]++hxL ((sl s).take k)).length<=500000:=by
   rw [List.length_append,hxL_two,List.length_append,List.length_take]
   simp only [List.length_cons,List.length_nil]
   omega
  obtain⟨o,ho⟩:∃ o,o=out++[60]++hxL ((sl s).take k):=⟨_,rfl⟩
  rw [<- ho] at HT hlen
  have HO:=kf ho
  clear ho
  by_cases hlt:k<n
  ·have c0:=HCE.out k hlt wr HT.out.kf
   have hc256:=HGL.out k
   have HV:=kf (show out++[60]++hxL ((sl s).take (k+1))=o++hex2 ((sl s).getD k 0) from by rw [HO.out,hxL_drop (by rw [HN.out];exact hlt),<- List.append_assoc])
   obtain⟨c,hc⟩:∃ c,c=(sl s).getD k 0:=⟨_,rfl⟩
   rw [<- hc] at c0 hc256 HV
   clear hc
   go_wp2_with (go_at_call 88;refine(HD.out _ _ _ c HT.out hc256 hlen).mono ?_;rintro e w3 ⟨rfl,h3⟩;have HT3:=kf h3;clear h3)
   go_roundw
   case rel=>exact⟨k+1,by omega,by go_num,by rw [HV.out];exact HT3.out⟩
   case measure=>simp [intOf];omega
  ·obtain rfl:k=n:=by omega
   have HV:=kf (show out++60::(hxL (sl s)++[62])=o++[62] from by rw [HO.out,List.take_of_length_le (by rw [HN.out];exact Nat.le_refl _)];simp)
   go_wp2_with (go_at_call 86;refine(HW.out _ _ _ 62 HT.out (by omega)).mono ?_;rintro e w3 ⟨rfl,h3⟩;have HT3:=kf h3;clear h3)
   go_end0
   exact⟨rfl,by rw [HV.out];exact HT3.out.base (HKF.out.trans HT3.out.kf)⟩
theorem esC_lt {c:Nat} (h:c<256):∀ d∈esC c,d<256:=by
 intro d hd
 unfold esC at hd
 split at hd
 ·simp only [List.mem_cons,List.not_mem_nil,or_false] at hd
  omega
 ·simp only [List.mem_cons,List.not_mem_nil,or_false] at hd
  omega
set_option maxHeartbeats 2000000 in
set_option maxRecDepth 100000 in
theorem fplain_any {V w W:World} {R:Nat} {out:List Nat} (h:FB V w W R out) (s:ByteArray) (hl:out.length+(esL (sl s)).length+2<=400000) :
  Calls Tryz.prog 59 #[.pointer (some ⟨R,0,none⟩),.string s] W fun e W'=>e=.returned (.tuple #[])/\FB V w W' R (out++40::(esL (sl s)++[41])):=by
 have HW:=kf (fun V X o x (hX:FB V w X R o) (ho:o.length<=1000000)=>fpwbyte_any hX x ho)
 have HF:=kf h
 obtain⟨n,hn⟩:∃ n,s.size=n:=⟨_,rfl⟩
 have HN:=kf (show(sl s).length=n from by rw [sl_len,hn])
 have hn1:n<=400000:=by have:=esL_ge (sl s);rw [HN.out] at this;omega
 have hle:Hid (∀ k,out.length+1+(esL ((sl s).take k)).length<=400000):=fun k=>by have:=esL_take (sl s) k;omega
 clear h
 go_enter Tryz.func59,Tryz.ntmps59
 go_upto_region 1 with(go_at_call 86;refine(HW.out _ _ _ 40 HF.out (by omega)).mono ?_;rintro e w1 ⟨rfl,h1⟩;have HF1:=kf h1;clear h1)
 obtain⟨cp,W2,hcv,hc2,hcell,hkeep⟩:=conv_sb w1 s HF1.out.lt
 rw [hn] at hcv hcell hkeep
 have HF2:=kf (HF1.out.call hc2)
 have HCE:=kf hkeep
 have HGL:=kf (show ∀ k,(sl s).getD k 0<256 from getD_lt s)
 obtain⟨g,hg⟩:∃ g,g=w1.heap.size:=⟨_,rfl⟩
 rw [<- hg] at hcv HCE
 have HKF:=kf HF2.out.kf
 clear hc2 hcell hkeep hn hg
 go_upto_region 2 with fail
 go_loopw [13] (fun vi wr=>∃ k:Nat,k<=n/\vi=.int .i64 (k:Nat)/\Hid (FB W2 w wr R (out++[40]++esL ((sl s).take k)))) (fun vi _=>n-(intOf vi).toNat)
 case atStart=>exact⟨0,by omega,rfl,by rw [List.take_zero,esL,List.append_nil];exact HF2.out.here⟩
 case round =>
  obtain⟨k,hk,rfl,HT⟩:=hrel
  have hlen:(out++[40]++esL ((sl s).take k)).length<=500000:=by
   have:=hle.out k
   rw [List.length_append,List.length_append]
   simp only [List.length_cons,List.length_nil]
   omega
  obtain⟨o,ho⟩:∃ o,o=out++[40]++esL ((sl s).take k):=⟨_,rfl⟩
  rw [<- ho] at HT hlen
  have HO:=kf ho
  clear ho
  by_cases hlt:k<n
  ·have c0:=HCE.out k hlt wr HT.out.kf
   have hc256:=HGL.out k
   have HV:=kf (show out++[40]++esL ((sl s).take (k+1))=o++esC ((sl s).getD k 0) from by rw [HO.out,esL_drop (by rw [HN.out];exact hlt),<- List.append_assoc])
   obtain⟨c,hc⟩:∃ c,c=(sl s).getD k 0:=⟨_,rfl⟩
   rw [<- hc] at c0 hc256 HV
   clear hc
   by_cases h40:c=40
   ·subst h40
    have HVE:=kf (show o++esC 40=o++[92]++[40] from by simp [esC])
    have hl2:(o++[92]).length<=1000000:=by simp;omega
    go_wp2_with first
     |(have hx:=HT3.out;go_at_call 86;refine(HW.out _ _ _ 40 HT3.out hl2).mono ?_;rintro e w4 ⟨rfl,h4⟩;have HT4:=kf h4;clear h4 hx)
     |(go_at_call 86;refine(HW.out _ _ _ 92 HT.out (by omega)).mono ?_;rintro e w3 ⟨rfl,h3⟩;have HT3:=kf h3;clear h3)
    go_roundw
    case rel=>exact⟨k+1,by omega,by go_num,by rw [HV.out,HVE.out];exact HT4.out⟩
    case measure=>simp [intOf];omega
   by_cases h41:c=41
   ·subst h41
    have HVE:=kf (show o++esC 41=o++[92]++[41] from by simp [esC])
    have hl2:(o++[92]).length<=1000000:=by simp;omega
    go_wp2_with first
     |(have hx:=HT3.out;go_at_call 86;refine(HW.out _ _ _ 41 HT3.out hl2).mono ?_;rintro e w4 ⟨rfl,h4⟩;have HT4:=kf h4;clear h4 hx)
     |(go_at_call 86;refine(HW.out _ _ _ 92 HT.out (by omega)).mono ?_;rintro e w3 ⟨rfl,h3⟩;have HT3:=kf h3;clear h3)
    go_roundw
    case rel=>exact⟨k+1,by omega,by go_num,by rw [HV.out,HVE.out];exact HT4.out⟩
    case measure=>simp [intOf];omega
   by_cases h92:c=92
   ·subst h92
    have HVE:=kf (show o++esC 92=o++[92]++[92] from by simp [esC])
    have hl2:(o++[92]).length<=1000000:=by simp;omega
    go_wp2_with first
     |(have hx:=HT3.out;go_at_call 86;refine(HW.out _ _ _ 92 HT3.out hl2).mono ?_;rintro e w4 ⟨rfl,h4⟩;have HT4:=kf h4;clear h4 hx)
     |(go_at_call 86;refine(HW.out _ _ _ 92 HT.out (by omega)).mono ?_;rintro e w3 ⟨rfl,h3⟩;have HT3:=kf h3;clear h3)
    go_roundw
    case rel=>exact⟨k+1,by omega,by go_num,by rw [HV.out,HVE.out];exact HT4.out⟩
    case measure=>simp [intOf];omega
   have HVE:=kf (show o++esC c=o++[c] from by unfold esC;rw [if_neg (by omega)])
   have e1:((c:Int)==40)=false:=by simp;omega
   have e1':(c==40)=false:=by simp;omega
   have e2:((c:Int)==41)=false:=by simp;omega
   have e2':(c==41)=false:=by simp;omega
   have e3:((c:Int)==92)=false:=by simp;omega
   have e3':(c==92)=false:=by simp;omega
   clear h40 h41 h92
   go_wp2_with (go_at_call 86;with_reducible refine(HW.out _ _ _ c HT.out (by omega)).mono ?_;rintro e w3 ⟨rfl,h3⟩;have HT3:=kf h3;clear h3)
   go_roundw
   case rel=>exact⟨k+1,by omega,by go_num,by rw [HV.out,HVE.out];exact HT3.out⟩
   case measure=>simp [intOf];omega
  ·obtain rfl:k=n:=by omega
   have HV:=kf (show out++40::(esL (sl s)++[41])=o++[41] from by rw [HO.out,List.take_of_length_le (by rw [HN.out];exact Nat.le_refl _)];simp)
   go_wp2_with (go_at_call 86;refine(HW.out _ _ _ 41 HT.out (by omega)).mono ?_;rintro e w3 ⟨rfl,h3⟩;have HT3:=kf h3;clear h3)
   go_end0
   exact⟨rfl,by rw [HV.out];exact HT3.out.base (HKF.out.trans HT3.out.kf)⟩
def badR (x:Nat):Bool:=decide (x<32\/126<x)
theorem idx_fine (s:ByteArray):∀ f pos,s.size<=pos+f->(Lib.idxFuncFrom badR true s f pos<0↔∀ k,pos<=k->k<s.size->32<=(sl s).getD k 0/\(sl s).getD k 0<=126):=by
 intro f
 induction f with
 |zero=>intro pos h;simp only [Lib.idxFuncFrom];exact⟨fun _ k h1 h2=>by omega,fun _=>by decide⟩
 |succ f ih =>
  intro pos h
  rw [Lib.idxFuncFrom]
  by_cases hp:pos<s.size
  ·rw [if_pos hp]
   have hat:=sl_at s pos hp
   by_cases h128:(s[pos]'hp).toNat<128
   ·rw [decode_ascii s pos hp h128]
    simp only []
    rw [hat]
    by_cases hb:badR ((sl s).getD pos 0)=true
    ·rw [if_pos hb]
     have hb2:=of_decide_eq_true hb
     refine⟨fun h=>by omega,fun h2=>?_⟩
     have:=h2 pos (Nat.le_refl _) hp
     omega
    ·rw [if_neg hb,ih (pos+1) (by omega)]
     have hb2:¬((sl s).getD pos 0<32\/126<(sl s).getD pos 0):=fun e=>hb (decide_eq_true e)
     refine⟨fun h2 k hk1 hk2=>?_,fun h2 k hk1 hk2=>h2 k (by omega) hk2⟩
     by_cases e:k=pos
     ·subst e;omega
     ·exact h2 k (by omega) hk2
   ·have hd:=(decode_high s pos hp (by omega)).1
    have hb:badR (Utf8.decode s pos).1=true:=decide_eq_true (.inr (by omega))
    rw [if_pos hb]
    refine⟨fun h=>by omega,fun h2=>?_⟩
    have:=h2 pos (Nat.le_refl _) hp
    omega
  ·rw [if_neg hp]
   exact⟨fun _ k h1 h2=>by omega,fun _=>by decide⟩
theorem fine_idx (s:ByteArray):decide (0<=Lib.idxFunc badR true s)=!decide (fineT (sl s)):=by
 have h:=idx_fine s s.size 0 (by omega)
 have h2:fineT (sl s)↔∀ k,0<=k->k<s.size->32<=(sl s).getD k 0/\(sl s).getD k 0<=126:=by
  constructor
  ·intro hf k _ hk
   exact hf _ (List.mem_of_getElem? (sl_get hk))
  ·intro hf c hc
   obtain⟨k,hk,rfl⟩:=List.mem_iff_getElem.1 hc
   have:=hf k (Nat.zero_le _) (by rwa [sl_len] at hk)
   rwa [List.getD_eq_getElem?_getD,List.getElem?_eq_getElem hk] at this
 unfold Lib.idxFunc
 by_cases hf:fineT (sl s)
 ·have:=h.2 (h2.1 hf)
  rw [decide_eq_true hf,decide_eq_false (by omega)]
  rfl
 ·have:¬_:=fun e=>hf (h2.2 (h.1 e))
  rw [decide_eq_false hf,decide_eq_true (by omega)]
  rfl
set_option maxHeartbeats 1000000 in
theorem fbad_any (x:Nat) (w:World):Calls Tryz.prog 57 #[.int .i32 (x:Nat)] w fun e w'=>e=.returned (.bool (badR x))/\w'=w:=by
 by_cases h1:x<32
 ·have e:badR x=true:=decide_eq_true (.inl h1)
  have d1:decide ((x:Int)<32)=true:=by simp;omega
  have d1':decide (x<32)=true:=by simp;omega
  rw [e]
  clear e
  go_enter Tryz.func57,Tryz.ntmps57
  go_wp2
  go_ret
  exact⟨rfl,rfl⟩
 ·have d1:decide ((x:Int)<32)=false:=by simp;omega
  have d1':decide (x<32)=false:=by simp;omega
  by_cases h2:126<x
  ·have e:badR x=true:=decide_eq_true (.inr h2)
   have d2:decide ((126:Int)<x)=true:=by simp;omega
   have d2':decide (126<x)=true:=by simp;omega
   rw [e]
   clear e
   go_enter Tryz.func57,Tryz.ntmps57
   go_wp2
   go_ret
   exact⟨rfl,rfl⟩
  ·have e:badR x=false:=decide_eq_false (by omega)
   have d2:decide ((126:Int)<x)=false:=by simp;omega
   have d2':decide (126<x)=false:=by simp;omega
   rw [e]
   clear e
   go_enter Tryz.func57,Tryz.ntmps57
   go_wp2
   go_ret
   exact⟨rfl,rfl⟩
set_option maxHeartbeats 2000000 in
set_option maxRecDepth 100000 in
theorem ftext_any {V w W:World} {R:Nat} {out:List Nat} (h:FB V w W R out) (s:ByteArray) (hl:out.length+(txF (sl s)).length<=400000) :
  Calls Tryz.prog 33 #[.pointer (some ⟨R,0,none⟩),.string s] W fun e W'=>e=.returned (.tuple #[])/\FB V w W' R (out++txF (sl s)):=by
 have HC:=kf (Go.Proofs.Tryz.strings_ContainsFunc_grows 57 #[] (fun args w=>rfl) badR s W (fun X x _ _=>(fbad_any x X).mono fun e w' h=>⟨h.1,h.2 ▸ Below.refl _ _⟩))
 rw [fine_idx] at HC
 have HF:=kf h
 by_cases hf:fineT (sl s)
 ·have HE:=kf (show txF (sl s)=40::(esL (sl s)++[41]) from by unfold txF;rw [if_pos hf])
  have HP:=kf (fun X (hX:FB V w X R out)=>fplain_any hX s (by rw [HE.out] at hl;simp at hl;omega))
  rw [decide_eq_true hf] at HC
  rw [Bool.not_true] at HC
  clear h hf
  go_enter Tryz.func33,Tryz.ntmps33
  go_wp2_with first
   |(go_at_call 56;refine HC.out.mono ?_;rintro e w1 ⟨rfl,h1⟩;have HF1:=kf (HF.out.call (Chg.of_below h1));clear h1)
   |(go_at_call 59;refine(HP.out _ HF1.out).mono ?_;rintro e w2 ⟨rfl,h2⟩;have HF2:=kf h2;clear h2)
  go_end0
  exact⟨rfl,by rw [HE.out];exact HF2.out⟩
 ·have HE:=kf (show txF (sl s)=60::(hxL (sl s)++[62]) from by unfold txF;rw [if_neg hf])
  have HH:=kf (fun X (hX:FB V w X R out)=>fhex_any hX s (by rw [HE.out] at hl;simp at hl;omega))
  rw [decide_eq_false hf] at HC
  rw [Bool.not_false] at HC
  clear h hf
  go_enter Tryz.func33,Tryz.ntmps33
  go_wp2_with first
   |(go_at_call 56;refine HC.out.mono ?_;rintro e w1 ⟨rfl,h1⟩;have HF1:=kf (HF.out.call (Chg.of_below h1));clear h1)
   |(go_at_call 58;refine(HH.out _ HF1.out).mono ?_;rintro e w2 ⟨rfl,h2⟩;have HF2:=kf h2;clear h2)
  go_end0
  exact⟨rfl,by rw [HE.out];exact HF2.out⟩
theorem nmL_app:∀ a b,nmL (a++b)=nmL a++nmL b:=by
 intro a b
 induction a with
 |nil=>rfl
 |cons c a ih=>rw [List.cons_append,nmL,nmL,ih,List.append_assoc]
theorem nmL_drop {l:List Nat} {k:Nat} (h:k<l.length):nmL (l.take (k+1))=nmL (l.take k)++nmC (l.getD k 0):=by
 have e:l.take (k+1)=l.take k++[l.getD k 0]:=take_snoc (by rw [List.getD_eq_getElem?_getD,List.getElem?_eq_getElem h];rfl)
 rw [e,nmL_app]
 simp [nmL]
theorem nmC_ge (c:Nat):1<=(nmC c).length:=by unfold nmC;split<;>simp
theorem nmL_ge:∀ l:List Nat,l.length<=(nmL l).length
 |[]=>Nat.le_refl _
 |c::l=>by rw [nmL,List.length_append,List.length_cons];have:=nmL_ge l;have:=nmC_ge c;omega
theorem nmL_take (l:List Nat) (k:Nat):(nmL (l.take k)).length<=(nmL l).length:=by
 have e:nmL l=nmL (l.take k)++nmL (l.drop k):=by rw [<- nmL_app,List.take_append_drop]
 rw [e,List.length_append]
 omega
set_option maxHeartbeats 4000000 in
set_option maxRecDepth 100000 in
theorem fname_any {V w W:World} {R:Nat} {out:List Nat} (h:FB V w W R out) (s:ByteArray) (hl:out.length+(nmF (sl s)).length<=400000) :
  Calls Tryz.prog 51 #[.pointer (some ⟨R,0,none⟩),.string s] W fun e W'=>e=.returned (.tuple #[])/\FB V w W' R (out++nmF (sl s)):=by
 have HW:=kf (fun V X o x (hX:FB V w X R o) (ho:o.length<=1000000)=>fpwbyte_any hX x ho)
 have HD:=kf (fun V X o c (hX:FB V w X R o) (hc:c<256) (ho:o.length<=500000)=>fdig_any hX c hc ho)
 have HDL:=kf (fun y X=>pdelim_any y X)
 have HF:=kf h
 obtain⟨n,hn⟩:∃ n,s.size=n:=⟨_,rfl⟩
 have HN:=kf (show(sl s).length=n from by rw [sl_len,hn])
 rw [nmF,List.length_cons] at hl
 have hn1:n<=400000:=by have:=nmL_ge (sl s);rw [HN.out] at this;omega
 have hle:Hid (∀ k,out.length+1+(nmL ((sl s).take k)).length<=400000):=fun k=>by have:=nmL_take (sl s) k;omega
 clear h
 go_enter Tryz.func51,Tryz.ntmps51
 go_upto_region 1 with(go_at_call 86;refine(HW.out _ _ _ 47 HF.out (by omega)).mono ?_;rintro e w1 ⟨rfl,h1⟩;have HF1:=kf h1;clear h1)
 obtain⟨cp,W2,hcv,hc2,hcell,hkeep⟩:=conv_sb w1 s HF1.out.lt
 rw [hn] at hcv hcell hkeep
 have HF2:=kf (HF1.out.call hc2)
 have HCE:=kf hkeep
 have HGL:=kf (show ∀ k,(sl s).getD k 0<256 from getD_lt s)
 obtain⟨g,hg⟩:∃ g,g=w1.heap.size:=⟨_,rfl⟩
 rw [<- hg] at hcv HCE
 have HKF:=kf HF2.out.kf
 clear hc2 hcell hkeep hn hg
 go_upto_region 2 with fail
 go_loopw [13] (fun vi wr=>∃ k:Nat,k<=n/\vi=.int .i64 (k:Nat)/\Hid (FB W2 w wr R (out++[47]++nmL ((sl s).take k)))) (fun vi _=>n-(intOf vi).toNat)
 case atStart=>exact⟨0,by omega,rfl,by rw [List.take_zero,nmL,List.append_nil];exact HF2.out.here⟩
 case round =>
  obtain⟨k,hk,rfl,HT⟩:=hrel
  have hlen:(out++[47]++nmL ((sl s).take k)).length<=499000:=by
   have:=hle.out k
   rw [List.length_append,List.length_append]
   simp only [List.length_cons,List.length_nil]
   omega
  obtain⟨o,ho⟩:∃ o,o=out++[47]++nmL ((sl s).take k):=⟨_,rfl⟩
  rw [<- ho] at HT hlen
  have HO:=kf ho
  clear ho
  by_cases hlt:k<n
  ·have c0:=HCE.out k hlt wr HT.out.kf
   have hc256:=HGL.out k
   have HV:=kf (show out++[47]++nmL ((sl s).take (k+1))=o++nmC ((sl s).getD k 0) from by rw [HO.out,nmL_drop (by rw [HN.out];exact hlt),<- List.append_assoc])
   obtain⟨c,hc⟩:∃ c,c=(sl s).getD k 0:=⟨_,rfl⟩
   rw [<- hc] at c0 hc256 HV
   clear hc
   have hl2:(o++[35]).length<=500000:=by simp;omega
   have HDC:=kf (fun X=>HDL.out c X)
   by_cases hg:32<c/\c<127/\c≠35/\isDl c=false
   ·have HVE:=kf (show o++nmC c=o++[c] from by unfold nmC;rw [if_pos hg])
    have HDC1:=kf (fun X=>HDC.out X)
    rw [hg.2.2.2] at HDC1
    obtain⟨g1,g2,g3,_⟩:=hg
    have d1:decide ((c:Int)<33)=false:=by simp;omega
    have d1':decide (c<33)=false:=by simp;omega
    have d2:decide ((126:Int)<c)=false:=by simp;omega
    have d2':decide (126<c)=false:=by simp;omega
    have d3:((c:Int)==35)=false:=by simp;omega
    have d3':(c==35)=false:=by simp;omega
    clear g1 g2 g3 HDC
    go_wp2_with first
     |(go_at_call 87;refine(HDC1.out _).mono ?_;rintro e w5 ⟨rfl,rfl⟩)
     |(go_at_call 86;with_reducible refine(HW.out _ _ _ c HT.out (by omega)).mono ?_;rintro e w3 ⟨rfl,h3⟩;have HT3:=kf h3;clear h3)
    go_roundw
    case rel=>exact⟨k+1,by omega,by go_num,by rw [HV.out,HVE.out];exact HT3.out⟩
    case measure=>simp [intOf];omega
   have HVE:=kf (show o++nmC c=o++[35]++hex2 c from by unfold nmC;rw [if_neg hg];simp)
   by_cases h1:c<33
   ·have d1:decide ((c:Int)<33)=true:=by simp;omega
    have d1':decide (c<33)=true:=by simp;omega
    clear hg h1
    go_wp2_with first
     |(go_at_call 86;refine(HW.out _ _ _ 35 HT.out (by omega)).mono ?_;rintro e w3 ⟨rfl,h3⟩;have HT3:=kf h3;clear h3)
     |(go_at_call 88;refine(HD.out _ _ _ c HT3.out hc256 hl2).mono ?_;rintro e w4 ⟨rfl,h4⟩;have HT4:=kf h4;clear h4)
    go_roundw
    case rel=>exact⟨k+1,by omega,by go_num,by rw [HV.out,HVE.out];exact HT4.out⟩
    case measure=>simp [intOf];omega
   have d1:decide ((c:Int)<33)=false:=by simp;omega
   have d1':decide (c<33)=false:=by simp;omega
   by_cases h2:126<c
   ·have d2:decide ((126:Int)<c)=true:=by simp;omega
    have d2':decide (126<c)=true:=by simp;omega
    clear hg h1 h2
    go_wp2_with first
     |(go_at_call 86;refine(HW.out _ _ _ 35 HT.out (by omega)).mono ?_;rintro e w3 ⟨rfl,h3⟩;have HT3:=kf h3;clear h3)
     |(go_at_call 88;refine(HD.out _ _ _ c HT3.out hc256 hl2).mono ?_;rintro e w4 ⟨rfl,h4⟩;have HT4:=kf h4;clear h4)
    go_roundw
    case rel=>exact⟨k+1,by omega,by go_num,by rw [HV.out,HVE.out];exact HT4.out⟩
    case measure=>simp [intOf];omega
   have d2:decide ((126:Int)<c)=false:=by simp;omega
   have d2':decide (126<c)=false:=by simp;omega
   by_cases h3:c=35
   ·subst h3
    clear hg h1 h2
    go_wp2_with first
     |(go_at_call 86;refine(HW.out _ _ _ 35 HT.out (by omega)).mono ?_;rintro e w3 ⟨rfl,h3⟩;have HT3:=kf h3;clear h3)
     |(go_at_call 88;refine(HD.out _ _ _ 35 HT3.out hc256 hl2).mono ?_;rintro e w4 ⟨rfl,h4⟩;have HT4:=kf h4;clear h4)
    go_roundw
    case rel=>exact⟨k+1,by omega,by go_num,by rw [HV.out,HVE.out];exact HT4.out⟩
    case measure=>simp [intOf];omega
   have d3:((c:Int)==35)=false:=by simp;omega
   have d3':(c==35)=false:=by simp;omega
   have hdl:isDl c=true:=by
    cases h4:isDl c with
    |true=>rfl
    |false=>exact absurd ⟨by omega,by omega,h3,h4⟩ hg
   have HDC1:=kf (fun X=>HDC.out X)
   rw [hdl] at HDC1
   clear hg h1 h2 h3 hdl HDC
   go_wp2_with first
    |(go_at_call 87;refine(HDC1.out _).mono ?_;rintro e w5 ⟨rfl,rfl⟩)
    |(go_at_call 86;refine(HW.out _ _ _ 35 HT.out (by omega)).mono ?_;rintro e w3 ⟨rfl,h3⟩;have HT3:=kf h3;clear h3)
    |(go_at_call 88;refine(HD.out _ _ _ c HT3.out hc256 hl2).mono ?_;rintro e w4 ⟨rfl,h4⟩;have HT4:=kf h4;clear h4)
   go_roundw
   case rel=>exact⟨k+1,by omega,by go_num,by rw [HV.out,HVE.out];exact HT4.out⟩
   case measure=>simp [intOf];omega
  ·obtain rfl:k=n:=by omega
   have HV:=kf (show out++nmF (sl s)=o from by rw [HO.out,List.take_of_length_le (by rw [HN.out];exact Nat.le_refl _)];simp [nmF])
   go_wp2_with fail
   go_end0
   exact⟨rfl,by rw [HV.out];exact HT.out.base (HKF.out.trans HT.out.kf)⟩
set_option maxHeartbeats 4000000 in
set_option maxRecDepth 100000 in
theorem rnext_bad (n:Nat) (A:Option Addr) (c:Nat) (p:Int) (last:Bool) (w:World) (hp:p<0\/(n:Int)<p) :
  Calls Tryz.prog 37 #[.slice A n c,.int .i64 p,.bool last] w (NxTo w (2,noT 0)):=by
 by_cases h0:p<0
 ·go_enter Tryz.func37,Tryz.ntmps37
  go_wp2_with fail
  (try simp only [Exit.noGoto_ret])
  refine bodyPost_ret (v:=.tuple #[.agg #[.int .i64 0,.int .i64 0,.int .i64 0,.int .i64 0,.int .i64 0,.string ⟨#[]⟩,.slice none 0 0,.string ⟨#[]⟩],.int .i64 2]) (by simp [results,Tryz.results37,go_sem]) rfl ?_
  exact⟨rfl,(Chg.refl NoS w).alloc _⟩
 ·have h1:(n:Int)<p:=hp.resolve_left h0
  have h2:decide (p<0)=false:=by simpa using h0
  clear hp h0
  go_enter Tryz.func37,Tryz.ntmps37
  go_wp2_with fail
  (try simp only [Exit.noGoto_ret])
  refine bodyPost_ret (v:=.tuple #[.agg #[.int .i64 0,.int .i64 0,.int .i64 0,.int .i64 0,.int .i64 0,.string ⟨#[]⟩,.slice none 0 0,.string ⟨#[]⟩],.int .i64 2]) (by simp [results,Tryz.results37,go_sem]) rfl ?_
  exact⟨rfl,(Chg.refl NoS w).alloc _⟩
theorem rnext_any (bs:List Nat) (A:Option Addr) (c:Nat) (p:Int) (last:Bool) (w:World) (hS:Src w 1 A bs.length c (lcells bs)) (hl:bs.length<=400000) (hc:bs.length<=c) (hb:∀ x∈bs,x<256) :
  Calls Tryz.prog 37 #[.slice A bs.length c,.int .i64 p,.bool last] w (NxTo w (nextA bs p last)):=by
 unfold nextA
 by_cases h:p<0\/(bs.length:Int)<p
 ·rw [if_pos h]
  exact rnext_bad bs.length A c p last w h
 ·rw [if_neg h]
  have h2:=rnext_in bs A c p.toNat last w hS hl hc (by omega) hb
  rwa [show((p.toNat:Nat):Int)=p from by omega] at h2
set_option maxHeartbeats 1000000 in
set_option maxRecDepth 100000 in
theorem r12whole_any (t:Tkn) (w:World):Calls Tryz.prog 108 #[tknV t] w fun e w'=>e=.returned (.bool (decide (t.kind=1/\t.vk=2)))/\Chg NoS w w':=by
 obtain⟨kind,fr,tz,vk,vn,vs,s⟩:=t
 unfold tknV
 obtain⟨S1,h1⟩:∃ S1,S1=sb vs:=⟨_,rfl⟩
 obtain⟨S2,h2⟩:∃ S2,S2=sb s:=⟨_,rfl⟩
 simp only []
 rw [<- h1,<- h2]
 clear h1 h2
 by_cases hk:kind=1
 ·subst hk
  by_cases hv:vk=2
  ·subst hv
   go_enter Tryz.func108,Tryz.ntmps108
   go_wp2_with fail
   go_ret
   exact⟨rfl,(Chg.refl NoS w).alloc _⟩
  ·have e1:((vk:Int)==2)=false:=by simp;omega
   have HV:=kf hv
   clear hv
   go_enter Tryz.func108,Tryz.ntmps108
   go_wp2_with fail
   go_ret
   exact⟨by rw [decide_eq_false (fun h=>HV.out h.2)];rfl,(Chg.refl NoS w).alloc _⟩
 ·have e1:((kind:Int)==1)=false:=by simp;omega
  have HV:=kf hk
  clear hk
  go_enter Tryz.func108,Tryz.ntmps108
  go_wp2_with fail
  go_ret
  exact⟨by rw [decide_eq_false (fun h=>HV.out h.1)];rfl,(Chg.refl NoS w).alloc _⟩
set_option maxHeartbeats 4000000 in
set_option maxRecDepth 100000 in
theorem r12ref_err (bs:List Nat) (A:Option Addr) (c:Nat) (last:Bool) (w:World) (hS:Src w 1 A bs.length c (lcells bs)) (hl:bs.length<=400000) (hc:bs.length<=c) (hb:∀ x∈bs,x<256) (q:Nat) (n:Int) {e2:Int} {t:Tkn} (h2:nextA bs (q:Nat) last=(e2,t)) (h6:e2≠6) (h0:e2≠0) :
  Calls Tryz.prog 109 #[.slice A bs.length c,.int .i64 (q:Nat),.bool last,.int .i64 n] w fun e w'=>e=.returned (.tuple #[.bool false,.int .i64 0,.int .i64 0])/\Chg NoS w w':=by
 have HN2:=kf (fun W (hW:Chg NoS w W)=>rnext_any bs A c (q:Nat) last W (Src.below (w0:=w) hS hW) hl hc hb)
 obtain⟨uk,uf,ut,uvk,uvn,uvs,us⟩:=t
 rw [h2] at HN2
 have HWH:=kf (r12whole_any ⟨uk,uf,ut,uvk,uvn,uvs,us⟩)
 unfold NxTo tknV at HN2
 unfold tknV at HWH
 simp only [] at HN2 HWH
 obtain⟨U6,hU6⟩:∃ U6,U6=sb uvs:=⟨_,rfl⟩
 obtain⟨U7,hU7⟩:∃ U7,U7=sb us:=⟨_,rfl⟩
 rw [<- hU6,<- hU7] at HN2 HWH
 have e1:(e2==6)=false:=by simpa using h6
 have e3:(e2==0)=false:=by simpa using h0
 have e4:(e2 != 0)=true:=by simpa using h0
 obtain⟨N,hN⟩:∃ N,N=bs.length:=⟨_,rfl⟩
 rw [<- hN] at HN2 ⊢
 clear hS hl hc hb h2 h6 h0 hU6 hU7 hN HWH
 go_enter Tryz.func109,Tryz.ntmps109
 go_upto_region 2 with(go_at_call 37;refine(HN2.out _ (Chg.refl NoS w)).mono ?_;rintro e w3 ⟨rfl,hc3⟩;have HC3:=kf hc3;clear hc3)
 have HB0:=kf (Blk.new w3 67 #[.int .i64 (uk:Nat),.int .i64 (uf:Nat),.int .i64 (ut:Nat),.int .i64 (uvk:Nat),.int .i64 uvn,.string U6,.slice none 0 0,.string U7])
 have HC4:=kf (HC3.out.alloc (.cells #[.int .i64 (uk:Nat),.int .i64 (uf:Nat),.int .i64 (ut:Nat),.int .i64 (uvk:Nat),.int .i64 uvn,.string U6,.slice none 0 0,.string U7] 67))
 obtain⟨W4,hW4⟩:∃ W4,W4=w3.alloc (.cells #[.int .i64 (uk:Nat),.int .i64 (uf:Nat),.int .i64 (ut:Nat),.int .i64 (uvk:Nat),.int .i64 uvn,.string U6,.slice none 0 0,.string U7] 67):=⟨_,rfl⟩
 obtain⟨g1,hg1⟩:∃ g1,g1=w3.heap.size:=⟨_,rfl⟩
 rw [<- hW4] at HB0 HC4 ⊢
 rw [<- hg1] at HB0 ⊢
 clear hW4 hg1
 obtain⟨q0,q1,q2,q3,q4,q5,q6,q7,_,_,_,_,_,_,_,_⟩:=HB0.out.cl8
 go_wp2_with fail
 (try simp only [Exit.noGoto_ret])
 refine bodyPost_ret (v:=.tuple #[.bool false,.int .i64 0,.int .i64 0]) (by simp [results,Tryz.results109,go_sem]) rfl ?_
 exact⟨rfl,HC4.out⟩
set_option maxHeartbeats 4000000 in
set_option maxRecDepth 100000 in
theorem r12ref_not (bs:List Nat) (A:Option Addr) (c:Nat) (last:Bool) (w:World) (hS:Src w 1 A bs.length c (lcells bs)) (hl:bs.length<=400000) (hc:bs.length<=c) (hb:∀ x∈bs,x<256) (q:Nat) (n:Int) {t:Tkn} (h2:nextA bs (q:Nat) last=(0,t)) (hw:¬(t.kind=1/\t.vk=2)) :
  Calls Tryz.prog 109 #[.slice A bs.length c,.int .i64 (q:Nat),.bool last,.int .i64 n] w fun e w'=>e=.returned (.tuple #[.bool false,.int .i64 0,.int .i64 0])/\Chg NoS w w':=by
 have HN2:=kf (fun W (hW:Chg NoS w W)=>rnext_any bs A c (q:Nat) last W (Src.below (w0:=w) hS hW) hl hc hb)
 obtain⟨uk,uf,ut,uvk,uvn,uvs,us⟩:=t
 simp only [] at hw
 rw [h2] at HN2
 have HWH:=kf (r12whole_any ⟨uk,uf,ut,uvk,uvn,uvs,us⟩)
 unfold NxTo tknV at HN2
 unfold tknV at HWH
 simp only [] at HN2 HWH
 obtain⟨U6,hU6⟩:∃ U6,U6=sb uvs:=⟨_,rfl⟩
 obtain⟨U7,hU7⟩:∃ U7,U7=sb us:=⟨_,rfl⟩
 rw [<- hU6,<- hU7] at HN2 HWH
 rw [decide_eq_false hw] at HWH
 obtain⟨N,hN⟩:∃ N,N=bs.length:=⟨_,rfl⟩
 rw [<- hN] at HN2 ⊢
 clear hS hl hc hb h2 hw hU6 hU7 hN
 go_enter Tryz.func109,Tryz.ntmps109
 go_upto_region 2 with(go_at_call 37;refine(HN2.out _ (Chg.refl NoS w)).mono ?_;rintro e w3 ⟨rfl,hc3⟩;have HC3:=kf hc3;clear hc3)
 have HB0:=kf (Blk.new w3 67 #[.int .i64 (uk:Nat),.int .i64 (uf:Nat),.int .i64 (ut:Nat),.int .i64 (uvk:Nat),.int .i64 uvn,.string U6,.slice none 0 0,.string U7])
 have HC4:=kf (HC3.out.alloc (.cells #[.int .i64 (uk:Nat),.int .i64 (uf:Nat),.int .i64 (ut:Nat),.int .i64 (uvk:Nat),.int .i64 uvn,.string U6,.slice none 0 0,.string U7] 67))
 obtain⟨W4,hW4⟩:∃ W4,W4=w3.alloc (.cells #[.int .i64 (uk:Nat),.int .i64 (uf:Nat),.int .i64 (ut:Nat),.int .i64 (uvk:Nat),.int .i64 uvn,.string U6,.slice none 0 0,.string U7] 67):=⟨_,rfl⟩
 obtain⟨g1,hg1⟩:∃ g1,g1=w3.heap.size:=⟨_,rfl⟩
 rw [<- hW4] at HB0 HC4 ⊢
 rw [<- hg1] at HB0 ⊢
 clear hW4 hg1
 obtain⟨q0,q1,q2,q3,q4,q5,q6,q7,_,_,_,_,_,_,_,_⟩:=HB0.out.cl8
 go_wp2_with (go_at_call 108;refine(HWH.out W4).mono ?_;rintro e w5 ⟨rfl,hc5⟩;have HC5:=kf hc5;clear hc5)
 (try simp only [Exit.noGoto_ret])
 refine bodyPost_ret (v:=.tuple #[.bool false,.int .i64 0,.int .i64 0]) (by simp [results,Tryz.results109,go_sem]) rfl ?_
 exact⟨rfl,HC4.out.trans HC5.out (fun _ _ e=>e)⟩
set_option maxHeartbeats 4000000 in
set_option maxRecDepth 100000 in
theorem r12ref_bad (bs:List Nat) (A:Option Addr) (c:Nat) (last:Bool) (w:World) (hS:Src w 1 A bs.length c (lcells bs)) (hl:bs.length<=400000) (hc:bs.length<=c) (hb:∀ x∈bs,x<256) (q:Nat) (n:Int) {t x:Tkn} {e3:Int} (h2:nextA bs (q:Nat) last=(0,t)) (hw:t.kind=1/\t.vk=2) (h3:nextA bs (t.to:Nat) last=(e3,x)) (h6:e3≠6) (h0:e3≠0) :
  Calls Tryz.prog 109 #[.slice A bs.length c,.int .i64 (q:Nat),.bool last,.int .i64 n] w fun e w'=>e=.returned (.tuple #[.bool false,.int .i64 0,.int .i64 0])/\Chg NoS w w':=by
 have HN2:=kf (fun W (hW:Chg NoS w W)=>rnext_any bs A c (q:Nat) last W (Src.below (w0:=w) hS hW) hl hc hb)
 have HN3:=kf (fun W (hW:Chg NoS w W)=>rnext_any bs A c (t.to:Nat) last W (Src.below (w0:=w) hS hW) hl hc hb)
 rw [h3] at HN3
 obtain⟨uk,uf,ut,uvk,uvn,uvs,us⟩:=t
 obtain⟨xk,xf,xt,xvk,xvn,xvs,xs⟩:=x
 simp only [] at hw HN3 h6 h0
 obtain⟨rfl,rfl⟩:=hw
 rw [h2] at HN2
 have HWH:=kf (r12whole_any ⟨1,uf,ut,2,uvn,uvs,us⟩)
 unfold NxTo tknV at HN2
 unfold tknV at HWH
 simp only [] at HN2 HWH
 obtain⟨U6,hU6⟩:∃ U6,U6=sb uvs:=⟨_,rfl⟩
 obtain⟨U7,hU7⟩:∃ U7,U7=sb us:=⟨_,rfl⟩
 rw [<- hU6,<- hU7] at HN2 HWH
 (try simp only [and_self,decide_true] at HWH)
 rw [show((1:Nat):Int)=1 from rfl,show((2:Nat):Int)=2 from rfl] at HN2 HWH
 unfold NxTo tknV at HN3
 simp only [] at HN3
 obtain⟨X6,hX6⟩:∃ X6,X6=sb xvs:=⟨_,rfl⟩
 obtain⟨X7,hX7⟩:∃ X7,X7=sb xs:=⟨_,rfl⟩
 rw [<- hX6,<- hX7] at HN3
 have e1:(e3==6)=false:=by simpa using h6
 have e2:(e3==0)=false:=by simpa using h0
 have e4:(e3 != 0)=true:=by simpa using h0
 clear h6 h0
 obtain⟨N,hN⟩:∃ N,N=bs.length:=⟨_,rfl⟩
 rw [<- hN] at HN2 HN3 ⊢
 clear hS hl hc hb h2 h3 hU6 hU7 hX6 hX7 hN
 go_enter Tryz.func109,Tryz.ntmps109
 go_upto_region 2 with(go_at_call 37;refine(HN2.out _ (Chg.refl NoS w)).mono ?_;rintro e w3 ⟨rfl,hc3⟩;have HC3:=kf hc3;clear hc3)
 have HB0:=kf (Blk.new w3 67 #[.int .i64 1,.int .i64 (uf:Nat),.int .i64 (ut:Nat),.int .i64 2,.int .i64 uvn,.string U6,.slice none 0 0,.string U7])
 have HC4:=kf (HC3.out.alloc (.cells #[.int .i64 1,.int .i64 (uf:Nat),.int .i64 (ut:Nat),.int .i64 2,.int .i64 uvn,.string U6,.slice none 0 0,.string U7] 67))
 obtain⟨W4,hW4⟩:∃ W4,W4=w3.alloc (.cells #[.int .i64 1,.int .i64 (uf:Nat),.int .i64 (ut:Nat),.int .i64 2,.int .i64 uvn,.string U6,.slice none 0 0,.string U7] 67):=⟨_,rfl⟩
 obtain⟨g1,hg1⟩:∃ g1,g1=w3.heap.size:=⟨_,rfl⟩
 rw [<- hW4] at HB0 HC4 ⊢
 rw [<- hg1] at HB0 ⊢
 clear hW4 hg1
 obtain⟨q0,q1,q2,q3,q4,q5,q6,q7,_,_,_,_,_,_,_,_⟩:=HB0.out.cl8
 go_upto_region 6 with(go_at_call 108;refine(HWH.out W4).mono ?_;rintro e w5 ⟨rfl,hc5⟩;have HC5:=kf hc5;clear hc5)
 obtain⟨q0,q1,q2,q3,q4,q5,q6,q7,_,_,_,_,_,_,_,_⟩:=(HB0.out.chg HC5.out (fun e=>e)).cl8
 have HC6:=kf (HC4.out.trans HC5.out (fun _ _ e=>e))
 go_upto_region 7 with(go_at_call 37;refine(HN3.out _ HC6.out).mono ?_;rintro e w7 ⟨rfl,hc7⟩;have HC7:=kf hc7;clear hc7)
 have HB2:=kf (((HB0.out.chg HC5.out (fun e=>e)).chg HC7.out (fun e=>e)).alloc (.cells #[.int .i64 (xk:Nat),.int .i64 (xf:Nat),.int .i64 (xt:Nat),.int .i64 (xvk:Nat),.int .i64 xvn,.string X6,.slice none 0 0,.string X7] 67))
 have HB8:=kf (Blk.new w7 67 #[.int .i64 (xk:Nat),.int .i64 (xf:Nat),.int .i64 (xt:Nat),.int .i64 (xvk:Nat),.int .i64 xvn,.string X6,.slice none 0 0,.string X7])
 have HC8:=kf ((HC6.out.trans HC7.out (fun _ _ e=>e)).alloc (.cells #[.int .i64 (xk:Nat),.int .i64 (xf:Nat),.int .i64 (xt:Nat),.int .i64 (xvk:Nat),.int .i64 xvn,.string X6,.slice none 0 0,.string X7] 67))
 obtain⟨W8,hW8⟩:∃ W8,W8=w7.alloc (.cells #[.int .i64 (xk:Nat),.int .i64 (xf:Nat),.int .i64 (xt:Nat),.int .i64 (xvk:Nat),.int .i64 xvn,.string X6,.slice none 0 0,.string X7] 67):=⟨_,rfl⟩
 obtain⟨g2,hg2⟩:∃ g2,g2=w7.heap.size:=⟨_,rfl⟩
 rw [<- hW8] at HB2 HB8 HC8 ⊢
 rw [<- hg2] at HB8 ⊢
 clear hW8 hg2
 clear q0 q1 q2 q3 q4 q5 q6 q7
 obtain⟨q0,q1,q2,q3,q4,q5,q6,q7,_,_,_,_,_,_,_,_⟩:=HB2.out.cl8
 obtain⟨p0,p1,p2,p3,p4,p5,p6,p7,_,_,_,_,_,_,_,_⟩:=HB8.out.cl8
 go_wp2_with fail
 (try simp only [Exit.noGoto_ret])
 refine bodyPost_ret (v:=.tuple #[.bool false,.int .i64 0,.int .i64 0]) (by simp [results,Tryz.results109,go_sem]) rfl ?_
 exact⟨rfl,HC8.out⟩
set_option maxHeartbeats 4000000 in
set_option maxRecDepth 100000 in
theorem r12ref_kind (bs:List Nat) (A:Option Addr) (c:Nat) (last:Bool) (w:World) (hS:Src w 1 A bs.length c (lcells bs)) (hl:bs.length<=400000) (hc:bs.length<=c) (hb:∀ x∈bs,x<256) (q:Nat) (n:Int) {t x:Tkn} (h2:nextA bs (q:Nat) last=(0,t)) (hw:t.kind=1/\t.vk=2) (h3:nextA bs (t.to:Nat) last=(0,x)) (hk:x.kind≠6) :
  Calls Tryz.prog 109 #[.slice A bs.length c,.int .i64 (q:Nat),.bool last,.int .i64 n] w fun e w'=>e=.returned (.tuple #[.bool false,.int .i64 0,.int .i64 0])/\Chg NoS w w':=by
 have HN2:=kf (fun W (hW:Chg NoS w W)=>rnext_any bs A c (q:Nat) last W (Src.below (w0:=w) hS hW) hl hc hb)
 have HN3:=kf (fun W (hW:Chg NoS w W)=>rnext_any bs A c (t.to:Nat) last W (Src.below (w0:=w) hS hW) hl hc hb)
 rw [h3] at HN3
 obtain⟨uk,uf,ut,uvk,uvn,uvs,us⟩:=t
 obtain⟨xk,xf,xt,xvk,xvn,xvs,xs⟩:=x
 simp only [] at hw HN3 hk
 obtain⟨rfl,rfl⟩:=hw
 rw [h2] at HN2
 have HWH:=kf (r12whole_any ⟨1,uf,ut,2,uvn,uvs,us⟩)
 unfold NxTo tknV at HN2
 unfold tknV at HWH
 simp only [] at HN2 HWH
 obtain⟨U6,hU6⟩:∃ U6,U6=sb uvs:=⟨_,rfl⟩
 obtain⟨U7,hU7⟩:∃ U7,U7=sb us:=⟨_,rfl⟩
 rw [<- hU6,<- hU7] at HN2 HWH
 (try simp only [and_self,decide_true] at HWH)
 rw [show((1:Nat):Int)=1 from rfl,show((2:Nat):Int)=2 from rfl] at HN2 HWH
 unfold NxTo tknV at HN3
 simp only [] at HN3
 obtain⟨X6,hX6⟩:∃ X6,X6=sb xvs:=⟨_,rfl⟩
 obtain⟨X7,hX7⟩:∃ X7,X7=sb xs:=⟨_,rfl⟩
 rw [<- hX6,<- hX7] at HN3
 have e1:((xk:Int)==6)=false:=by simp;omega
 have e2:((xk:Int) != 6)=true:=by simp;omega
 clear hk
 obtain⟨N,hN⟩:∃ N,N=bs.length:=⟨_,rfl⟩
 rw [<- hN] at HN2 HN3 ⊢
 clear hS hl hc hb h2 h3 hU6 hU7 hX6 hX7 hN
 go_enter Tryz.func109,Tryz.ntmps109
 go_upto_region 2 with(go_at_call 37;refine(HN2.out _ (Chg.refl NoS w)).mono ?_;rintro e w3 ⟨rfl,hc3⟩;have HC3:=kf hc3;clear hc3)
 have HB0:=kf (Blk.new w3 67 #[.int .i64 1,.int .i64 (uf:Nat),.int .i64 (ut:Nat),.int .i64 2,.int .i64 uvn,.string U6,.slice none 0 0,.string U7])
 have HC4:=kf (HC3.out.alloc (.cells #[.int .i64 1,.int .i64 (uf:Nat),.int .i64 (ut:Nat),.int .i64 2,.int .i64 uvn,.string U6,.slice none 0 0,.string U7] 67))
 obtain⟨W4,hW4⟩:∃ W4,W4=w3.alloc (.cells #[.int .i64 1,.int .i64 (uf:Nat),.int .i64 (ut:Nat),.int .i64 2,.int .i64 uvn,.string U6,.slice none 0 0,.string U7] 67):=⟨_,rfl⟩
 obtain⟨g1,hg1⟩:∃ g1,g1=w3.heap.size:=⟨_,rfl⟩
 rw [<- hW4] at HB0 HC4 ⊢
 rw [<- hg1] at HB0 ⊢
 clear hW4 hg1
 obtain⟨q0,q1,q2,q3,q4,q5,q6,q7,_,_,_,_,_,_,_,_⟩:=HB0.out.cl8
 go_upto_region 6 with(go_at_call 108;refine(HWH.out W4).mono ?_;rintro e w5 ⟨rfl,hc5⟩;have HC5:=kf hc5;clear hc5)
 obtain⟨q0,q1,q2,q3,q4,q5,q6,q7,_,_,_,_,_,_,_,_⟩:=(HB0.out.chg HC5.out (fun e=>e)).cl8
 have HC6:=kf (HC4.out.trans HC5.out (fun _ _ e=>e))
 go_upto_region 7 with(go_at_call 37;refine(HN3.out _ HC6.out).mono ?_;rintro e w7 ⟨rfl,hc7⟩;have HC7:=kf hc7;clear hc7)
 have HB2:=kf (((HB0.out.chg HC5.out (fun e=>e)).chg HC7.out (fun e=>e)).alloc (.cells #[.int .i64 (xk:Nat),.int .i64 (xf:Nat),.int .i64 (xt:Nat),.int .i64 (xvk:Nat),.int .i64 xvn,.string X6,.slice none 0 0,.string X7] 67))
 have HB8:=kf (Blk.new w7 67 #[.int .i64 (xk:Nat),.int .i64 (xf:Nat),.int .i64 (xt:Nat),.int .i64 (xvk:Nat),.int .i64 xvn,.string X6,.slice none 0 0,.string X7])
 have HC8:=kf ((HC6.out.trans HC7.out (fun _ _ e=>e)).alloc (.cells #[.int .i64 (xk:Nat),.int .i64 (xf:Nat),.int .i64 (xt:Nat),.int .i64 (xvk:Nat),.int .i64 xvn,.string X6,.slice none 0 0,.string X7] 67))
 obtain⟨W8,hW8⟩:∃ W8,W8=w7.alloc (.cells #[.int .i64 (xk:Nat),.int .i64 (xf:Nat),.int .i64 (xt:Nat),.int .i64 (xvk:Nat),.int .i64 xvn,.string X6,.slice none 0 0,.string X7] 67):=⟨_,rfl⟩
 obtain⟨g2,hg2⟩:∃ g2,g2=w7.heap.size:=⟨_,rfl⟩
 rw [<- hW8] at HB2 HB8 HC8 ⊢
 rw [<- hg2] at HB8 ⊢
 clear hW8 hg2
 clear q0 q1 q2 q3 q4 q5 q6 q7
 obtain⟨q0,q1,q2,q3,q4,q5,q6,q7,_,_,_,_,_,_,_,_⟩:=HB2.out.cl8
 obtain⟨p0,p1,p2,p3,p4,p5,p6,p7,_,_,_,_,_,_,_,_⟩:=HB8.out.cl8
 go_wp2_with fail
 (try simp only [Exit.noGoto_ret])
 refine bodyPost_ret (v:=.tuple #[.bool false,.int .i64 0,.int .i64 0]) (by simp [results,Tryz.results109,go_sem]) rfl ?_
 exact⟨rfl,HC8.out⟩
set_option maxHeartbeats 4000000 in
set_option maxRecDepth 100000 in
theorem r12ref_word (bs:List Nat) (A:Option Addr) (c:Nat) (last:Bool) (w:World) (hS:Src w 1 A bs.length c (lcells bs)) (hl:bs.length<=400000) (hc:bs.length<=c) (hb:∀ x∈bs,x<256) (q:Nat) (n:Int) {t x:Tkn} (h2:nextA bs (q:Nat) last=(0,t)) (hw:t.kind=1/\t.vk=2) (h3:nextA bs (t.to:Nat) last=(0,x)) (hk:x.kind=6) (hs:sb x.s≠⟨#[82]⟩) :
  Calls Tryz.prog 109 #[.slice A bs.length c,.int .i64 (q:Nat),.bool last,.int .i64 n] w fun e w'=>e=.returned (.tuple #[.bool false,.int .i64 0,.int .i64 0])/\Chg NoS w w':=by
 have HN2:=kf (fun W (hW:Chg NoS w W)=>rnext_any bs A c (q:Nat) last W (Src.below (w0:=w) hS hW) hl hc hb)
 have HN3:=kf (fun W (hW:Chg NoS w W)=>rnext_any bs A c (t.to:Nat) last W (Src.below (w0:=w) hS hW) hl hc hb)
 rw [h3] at HN3
 obtain⟨uk,uf,ut,uvk,uvn,uvs,us⟩:=t
 obtain⟨xk,xf,xt,xvk,xvn,xvs,xs⟩:=x
 simp only [] at hw HN3 hk hs
 obtain⟨rfl,rfl⟩:=hw
 rw [h2] at HN2
 have HWH:=kf (r12whole_any ⟨1,uf,ut,2,uvn,uvs,us⟩)
 unfold NxTo tknV at HN2
 unfold tknV at HWH
 simp only [] at HN2 HWH
 obtain⟨U6,hU6⟩:∃ U6,U6=sb uvs:=⟨_,rfl⟩
 obtain⟨U7,hU7⟩:∃ U7,U7=sb us:=⟨_,rfl⟩
 rw [<- hU6,<- hU7] at HN2 HWH
 (try simp only [and_self,decide_true] at HWH)
 rw [show((1:Nat):Int)=1 from rfl,show((2:Nat):Int)=2 from rfl] at HN2 HWH
 unfold NxTo tknV at HN3
 simp only [] at HN3
 obtain⟨X6,hX6⟩:∃ X6,X6=sb xvs:=⟨_,rfl⟩
 obtain⟨X7,hX7⟩:∃ X7,X7=sb xs:=⟨_,rfl⟩
 rw [<- hX6,<- hX7] at HN3
 subst hk
 rw [show((6:Nat):Int)=6 from rfl] at HN3
 rw [<- hX7] at hs
 have f2:(X7.toList==[82])=false:=by have h:=str_ne11 hs;rw [show(ByteArray.mk #[82]).toList=[82] from by kernel_rfl] at h;simpa using h
 have f3:¬X7.toList=[82]:=by simpa using f2
 have f4:(X7.toList != [82])=true:=by simpa using f2
 clear hs
 obtain⟨N,hN⟩:∃ N,N=bs.length:=⟨_,rfl⟩
 rw [<- hN] at HN2 HN3 ⊢
 clear hS hl hc hb h2 h3 hU6 hU7 hX6 hX7 hN
 go_enter Tryz.func109,Tryz.ntmps109
 go_upto_region 2 with(go_at_call 37;refine(HN2.out _ (Chg.refl NoS w)).mono ?_;rintro e w3 ⟨rfl,hc3⟩;have HC3:=kf hc3;clear hc3)
 have HB0:=kf (Blk.new w3 67 #[.int .i64 1,.int .i64 (uf:Nat),.int .i64 (ut:Nat),.int .i64 2,.int .i64 uvn,.string U6,.slice none 0 0,.string U7])
 have HC4:=kf (HC3.out.alloc (.cells #[.int .i64 1,.int .i64 (uf:Nat),.int .i64 (ut:Nat),.int .i64 2,.int .i64 uvn,.string U6,.slice none 0 0,.string U7] 67))
 obtain⟨W4,hW4⟩:∃ W4,W4=w3.alloc (.cells #[.int .i64 1,.int .i64 (uf:Nat),.int .i64 (ut:Nat),.int .i64 2,.int .i64 uvn,.string U6,.slice none 0 0,.string U7] 67):=⟨_,rfl⟩
 obtain⟨g1,hg1⟩:∃ g1,g1=w3.heap.size:=⟨_,rfl⟩
 rw [<- hW4] at HB0 HC4 ⊢
 rw [<- hg1] at HB0 ⊢
 clear hW4 hg1
 obtain⟨q0,q1,q2,q3,q4,q5,q6,q7,_,_,_,_,_,_,_,_⟩:=HB0.out.cl8
 go_upto_region 6 with(go_at_call 108;refine(HWH.out W4).mono ?_;rintro e w5 ⟨rfl,hc5⟩;have HC5:=kf hc5;clear hc5)
 obtain⟨q0,q1,q2,q3,q4,q5,q6,q7,_,_,_,_,_,_,_,_⟩:=(HB0.out.chg HC5.out (fun e=>e)).cl8
 have HC6:=kf (HC4.out.trans HC5.out (fun _ _ e=>e))
 go_upto_region 7 with(go_at_call 37;refine(HN3.out _ HC6.out).mono ?_;rintro e w7 ⟨rfl,hc7⟩;have HC7:=kf hc7;clear hc7)
 have HB2:=kf (((HB0.out.chg HC5.out (fun e=>e)).chg HC7.out (fun e=>e)).alloc (.cells #[.int .i64 6,.int .i64 (xf:Nat),.int .i64 (xt:Nat),.int .i64 (xvk:Nat),.int .i64 xvn,.string X6,.slice none 0 0,.string X7] 67))
 have HB8:=kf (Blk.new w7 67 #[.int .i64 6,.int .i64 (xf:Nat),.int .i64 (xt:Nat),.int .i64 (xvk:Nat),.int .i64 xvn,.string X6,.slice none 0 0,.string X7])
 have HC8:=kf ((HC6.out.trans HC7.out (fun _ _ e=>e)).alloc (.cells #[.int .i64 6,.int .i64 (xf:Nat),.int .i64 (xt:Nat),.int .i64 (xvk:Nat),.int .i64 xvn,.string X6,.slice none 0 0,.string X7] 67))
 obtain⟨W8,hW8⟩:∃ W8,W8=w7.alloc (.cells #[.int .i64 6,.int .i64 (xf:Nat),.int .i64 (xt:Nat),.int .i64 (xvk:Nat),.int .i64 xvn,.string X6,.slice none 0 0,.string X7] 67):=⟨_,rfl⟩
 obtain⟨g2,hg2⟩:∃ g2,g2=w7.heap.size:=⟨_,rfl⟩
 rw [<- hW8] at HB2 HB8 HC8 ⊢
 rw [<- hg2] at HB8 ⊢
 clear hW8 hg2
 clear q0 q1 q2 q3 q4 q5 q6 q7
 obtain⟨q0,q1,q2,q3,q4,q5,q6,q7,_,_,_,_,_,_,_,_⟩:=HB2.out.cl8
 obtain⟨p0,p1,p2,p3,p4,p5,p6,p7,_,_,_,_,_,_,_,_⟩:=HB8.out.cl8
 go_wp2_with fail
 (try simp only [Exit.noGoto_ret])
 refine bodyPost_ret (v:=.tuple #[.bool false,.int .i64 0,.int .i64 0]) (by simp [results,Tryz.results109,go_sem]) rfl ?_
 exact⟨rfl,HC8.out⟩
set_option maxHeartbeats 4000000 in
set_option maxRecDepth 100000 in
theorem r12ref_is (bs:List Nat) (A:Option Addr) (c:Nat) (last:Bool) (w:World) (hS:Src w 1 A bs.length c (lcells bs)) (hl:bs.length<=400000) (hc:bs.length<=c) (hb:∀ x∈bs,x<256) (q:Nat) (n:Int) {t x:Tkn} (h2:nextA bs (q:Nat) last=(0,t)) (hw:t.kind=1/\t.vk=2) (h3:nextA bs (t.to:Nat) last=(0,x)) (hk:x.kind=6) (hs:sb x.s=⟨#[82]⟩) (hv:t.vn=0) (hn1:1<=n) (hn2:n<=4096) :
  Calls Tryz.prog 109 #[.slice A bs.length c,.int .i64 (q:Nat),.bool last,.int .i64 n] w fun e w'=>e=.returned (.tuple #[.bool true,.int .i64 (x.to:Nat),.int .i64 0])/\Chg NoS w w':=by
 have HN2:=kf (fun W (hW:Chg NoS w W)=>rnext_any bs A c (q:Nat) last W (Src.below (w0:=w) hS hW) hl hc hb)
 have HN3:=kf (fun W (hW:Chg NoS w W)=>rnext_any bs A c (t.to:Nat) last W (Src.below (w0:=w) hS hW) hl hc hb)
 rw [h3] at HN3
 obtain⟨uk,uf,ut,uvk,uvn,uvs,us⟩:=t
 obtain⟨xk,xf,xt,xvk,xvn,xvs,xs⟩:=x
 simp only [] at hw HN3 hk hs hv
 obtain⟨rfl,rfl⟩:=hw
 subst hv
 rw [h2] at HN2
 have HWH:=kf (r12whole_any ⟨1,uf,ut,2,0,uvs,us⟩)
 unfold NxTo tknV at HN2
 unfold tknV at HWH
 simp only [] at HN2 HWH
 obtain⟨U6,hU6⟩:∃ U6,U6=sb uvs:=⟨_,rfl⟩
 obtain⟨U7,hU7⟩:∃ U7,U7=sb us:=⟨_,rfl⟩
 rw [<- hU6,<- hU7] at HN2 HWH
 (try simp only [and_self,decide_true] at HWH)
 rw [show((1:Nat):Int)=1 from rfl,show((2:Nat):Int)=2 from rfl] at HN2 HWH
 unfold NxTo tknV at HN3
 simp only [] at HN3
 obtain⟨X6,hX6⟩:∃ X6,X6=sb xvs:=⟨_,rfl⟩
 obtain⟨X7,hX7⟩:∃ X7,X7=sb xs:=⟨_,rfl⟩
 rw [<- hX6,<- hX7] at HN3
 subst hk
 rw [show((6:Nat):Int)=6 from rfl] at HN3
 rw [hX7,hs] at HN3
 have e1:decide (n<1)=false:=by simp;omega
 have e2:decide (n > 4096)=false:=by simp;omega
 have e3:decide (4096<n)=false:=by simp;omega
 clear hs
 obtain⟨N,hN⟩:∃ N,N=bs.length:=⟨_,rfl⟩
 rw [<- hN] at HN2 HN3 ⊢
 clear hS hl hc hb h2 h3 hU6 hU7 hX6 hX7 hN
 go_enter Tryz.func109,Tryz.ntmps109
 go_upto_region 2 with(go_at_call 37;refine(HN2.out _ (Chg.refl NoS w)).mono ?_;rintro e w3 ⟨rfl,hc3⟩;have HC3:=kf hc3;clear hc3)
 have HB0:=kf (Blk.new w3 67 #[.int .i64 1,.int .i64 (uf:Nat),.int .i64 (ut:Nat),.int .i64 2,.int .i64 0,.string U6,.slice none 0 0,.string U7])
 have HC4:=kf (HC3.out.alloc (.cells #[.int .i64 1,.int .i64 (uf:Nat),.int .i64 (ut:Nat),.int .i64 2,.int .i64 0,.string U6,.slice none 0 0,.string U7] 67))
 obtain⟨W4,hW4⟩:∃ W4,W4=w3.alloc (.cells #[.int .i64 1,.int .i64 (uf:Nat),.int .i64 (ut:Nat),.int .i64 2,.int .i64 0,.string U6,.slice none 0 0,.string U7] 67):=⟨_,rfl⟩
 obtain⟨g1,hg1⟩:∃ g1,g1=w3.heap.size:=⟨_,rfl⟩
 rw [<- hW4] at HB0 HC4 ⊢
 rw [<- hg1] at HB0 ⊢
 clear hW4 hg1
 obtain⟨q0,q1,q2,q3,q4,q5,q6,q7,_,_,_,_,_,_,_,_⟩:=HB0.out.cl8
 go_upto_region 6 with(go_at_call 108;refine(HWH.out W4).mono ?_;rintro e w5 ⟨rfl,hc5⟩;have HC5:=kf hc5;clear hc5)
 obtain⟨q0,q1,q2,q3,q4,q5,q6,q7,_,_,_,_,_,_,_,_⟩:=(HB0.out.chg HC5.out (fun e=>e)).cl8
 have HC6:=kf (HC4.out.trans HC5.out (fun _ _ e=>e))
 go_upto_region 7 with(go_at_call 37;refine(HN3.out _ HC6.out).mono ?_;rintro e w7 ⟨rfl,hc7⟩;have HC7:=kf hc7;clear hc7)
 have HB2:=kf (((HB0.out.chg HC5.out (fun e=>e)).chg HC7.out (fun e=>e)).alloc (.cells #[.int .i64 6,.int .i64 (xf:Nat),.int .i64 (xt:Nat),.int .i64 (xvk:Nat),.int .i64 xvn,.string X6,.slice none 0 0,.string ⟨#[82]⟩] 67))
 have HB8:=kf (Blk.new w7 67 #[.int .i64 6,.int .i64 (xf:Nat),.int .i64 (xt:Nat),.int .i64 (xvk:Nat),.int .i64 xvn,.string X6,.slice none 0 0,.string ⟨#[82]⟩])
 have HC8:=kf ((HC6.out.trans HC7.out (fun _ _ e=>e)).alloc (.cells #[.int .i64 6,.int .i64 (xf:Nat),.int .i64 (xt:Nat),.int .i64 (xvk:Nat),.int .i64 xvn,.string X6,.slice none 0 0,.string ⟨#[82]⟩] 67))
 obtain⟨W8,hW8⟩:∃ W8,W8=w7.alloc (.cells #[.int .i64 6,.int .i64 (xf:Nat),.int .i64 (xt:Nat),.int .i64 (xvk:Nat),.int .i64 xvn,.string X6,.slice none 0 0,.string ⟨#[82]⟩] 67):=⟨_,rfl⟩
 obtain⟨g2,hg2⟩:∃ g2,g2=w7.heap.size:=⟨_,rfl⟩
 rw [<- hW8] at HB2 HB8 HC8 ⊢
 rw [<- hg2] at HB8 ⊢
 clear hW8 hg2
 clear q0 q1 q2 q3 q4 q5 q6 q7
 obtain⟨q0,q1,q2,q3,q4,q5,q6,q7,_,_,_,_,_,_,_,_⟩:=HB2.out.cl8
 obtain⟨p0,p1,p2,p3,p4,p5,p6,p7,_,_,_,_,_,_,_,_⟩:=HB8.out.cl8
 go_upto_region 13 with fail
 go_quiet (fail)
 go_wp2_with fail
 (try simp only [Exit.noGoto_ret])
 refine bodyPost_ret (v:=.tuple #[.bool true,.int .i64 (xt:Nat),.int .i64 0]) (by simp [results,Tryz.results109,go_sem]) rfl ?_
 exact⟨rfl,HC8.out.drewN nq⟩
theorem tok_vk (last:Bool) (p c:Nat) (l:List Nat):(tokO last p c l).2.vk≠0->(tokO last p c l).2.kind=1:=by
 have key:∀ r,tokO last p c l=r->r.2.vk=0\/r.2.kind=1:=by
  intro r hr
  unfold tokO at hr
  by_cases h0:c=91
  ·rw [if_pos h0] at hr
   subst hr;exact .inl rfl
  rw [if_neg h0] at hr
  by_cases h1:c=93
  ·rw [if_pos h1] at hr
   subst hr;exact .inl rfl
  rw [if_neg h1] at hr
  by_cases h2:c=60/\l.head?=some 60
  ·rw [if_pos h2] at hr
   subst hr;exact .inl rfl
  rw [if_neg h2] at hr
  by_cases h3:c=62/\l.head?=some 62
  ·rw [if_pos h3] at hr
   subst hr;exact .inl rfl
  rw [if_neg h3] at hr
  by_cases h4:c=62/\l=[]/\last=false
  ·rw [if_pos h4] at hr
   subst hr;exact .inl rfl
  rw [if_neg h4] at hr
  by_cases h5:c=60
  ·rw [if_pos h5] at hr
   by_cases g0:(hexO last [] (p+1) l).1≠0
   ·rw [if_pos g0] at hr;subst hr;exact .inl rfl
   rw [if_neg g0] at hr
   subst hr;exact .inr rfl
  rw [if_neg h5] at hr
  by_cases h6:c=40
  ·rw [if_pos h6] at hr
   by_cases g0:(txtO last 1 [] (p+1) l).1≠0
   ·rw [if_pos g0] at hr;subst hr;exact .inl rfl
   rw [if_neg g0] at hr
   subst hr;exact .inr rfl
  rw [if_neg h6] at hr
  by_cases h7:c=47
  ·rw [if_pos h7] at hr
   by_cases g0:rgs l=l.length/\last=false
   ·rw [if_pos g0] at hr;subst hr;exact .inl rfl
   rw [if_neg g0] at hr
   by_cases g1:(nameO (l.take (rgs l))).1≠0
   ·rw [if_pos g1] at hr;subst hr;exact .inl rfl
   rw [if_neg g1] at hr
   subst hr;exact .inr rfl
  rw [if_neg h7] at hr
  by_cases h8:isDl c=true
  ·rw [if_pos h8] at hr
   subst hr;exact .inl rfl
  rw [if_neg h8] at hr
  by_cases h9:rgs l=l.length/\last=false
  ·rw [if_pos h9] at hr
   subst hr;exact .inl rfl
  rw [if_neg h9] at hr
  by_cases h10:isNm c=true
  ·rw [if_pos h10] at hr
   by_cases g0:(numOf ((c::l).take (rgs l+1))).1≠0
   ·rw [if_pos g0] at hr;subst hr;exact .inl rfl
   rw [if_neg g0] at hr
   subst hr;exact .inr rfl
  rw [if_neg h10] at hr
  subst hr;exact .inl rfl
 exact fun h=>(key _ rfl).resolve_left h
theorem next_vk (bs:List Nat) (p:Nat) (last:Bool) (h:(nextO bs p last).2.vk≠0):(nextO bs p last).2.kind=1:=by
 unfold nextO at h ⊢
 split at h
 ·exact absurd rfl h
 ·exact tok_vk _ _ _ _ h
theorem nextA_in {bs:List Nat} {p:Nat} {last:Bool} (hp:p<=bs.length):nextA bs (p:Nat) last=nextO bs p last:=by
 unfold nextA
 rw [if_neg (by omega),Int.toNat_natCast]
def RfTo (w:World) (bs:List Nat) (last:Bool) (t:Tkn) (e:Ending) (w':World):Prop:=∃ (is:Bool) (z:Nat),e=.returned (.tuple #[.bool is,.int .i64 (z:Nat),.int .i64 0])/\Chg NoS w w'/\refO bs last t=(0,if is then .mk 8 t.vn ⟨#[]⟩ [] else tokV t,if is then z else t.to)
theorem r12ref_any (bs:List Nat) (A:Option Addr) (c:Nat) (last:Bool) (w:World) (hS:Src w 1 A bs.length c (lcells bs)) (hl:bs.length<=400000) (hc:bs.length<=c) (hb:∀ x∈bs,x<256) (t:Tkn) (hvk:t.vk=2) (ht:t.to<=bs.length) (h:(refO bs last t).1=0) :
  Calls Tryz.prog 109 #[.slice A bs.length c,.int .i64 (t.to:Nat),.bool last,.int .i64 t.vn] w (RfTo w bs last t):=by
 have e1:t.vk≠2↔False:=⟨fun e=>e hvk,fun e=>e.elim⟩
 have hno:∀ {W:World},(refO bs last t=(0,tokV t,t.to))->∀ (e:Ending) (w':World),(e=.returned (.tuple #[.bool false,.int .i64 0,.int .i64 0])/\Chg NoS w w')->RfTo w bs last t e w':=fun hr e w' hx=>⟨false,0,hx.1,hx.2,hr⟩
 obtain⟨r2,hr2⟩:∃ r2,nextO bs t.to last=r2:=⟨_,rfl⟩
 have h2:nextA bs (t.to:Nat) last=r2:=(nextA_in ht).trans hr2
 have htk:=next_tok bs t.to last ht
 have hv1:=next_vk bs t.to last
 rw [hr2] at htk hv1
 obtain⟨e2,u⟩:=r2
 simp only [] at htk hv1
 by_cases hu:u.vk=2
 ·have hk:u.kind=1:=hv1 (by rw [hu];decide)
  rcases htk with hk0|htk
  ·rw [hk0.1] at hk;cases hk
  obtain⟨h0,_,_,hut⟩:=htk
  subst h0
  obtain⟨r3,hr3⟩:∃ r3,nextO bs u.to last=r3:=⟨_,rfl⟩
  have h3:nextA bs (u.to:Nat) last=r3:=(nextA_in hut).trans hr3
  have hth:thirdO bs last (nextO bs t.to last)=r3:=by
   rw [hr2]
   unfold thirdO
   rw [if_pos hu]
   exact hr3
  have h6:r3.1≠6:=fun e=>by rw [ref_6 hvk hth e] at h;cases h
  obtain⟨e3,x⟩:=r3
  by_cases h0:e3=0
  ·subst h0
   by_cases hx:x.kind=6
   ·by_cases hs:sb x.s=⟨#[82]⟩
    ·have hn:¬(t.vn<1\/4096<t.vn\/(nextO bs t.to last).2.vn≠0):=fun e=>by rw [ref_26 hvk hth h6 hx hs e] at h;cases h
     have hr:=ref_8 hvk hth h6 hx hs hn
     have hv0:u.vn=0:=by rw [hr2] at hn;exact Decidable.byContradiction fun e=>hn (.inr (.inr e))
     exact(r12ref_is bs A c last w hS hl hc hb t.to t.vn h2 ⟨hk,hu⟩ h3 hx hs hv0 (by omega) (by omega)).mono fun e w' hx=>⟨true,x.to,hx.1,hx.2,hr⟩
    ·exact(r12ref_word bs A c last w hS hl hc hb t.to t.vn h2 ⟨hk,hu⟩ h3 hx hs).mono (hno (W:=w) (ref_own hvk hth h6 (.inr hs)))
   ·exact(r12ref_kind bs A c last w hS hl hc hb t.to t.vn h2 ⟨hk,hu⟩ h3 hx).mono (hno (W:=w) (ref_own hvk hth h6 (.inl hx)))
  ·have hx:x.kind≠6:=fun e=>by
    rcases next_tok bs u.to last hut with g|g
    ·rw [hr3] at g;rw [g.1] at e;cases e
    ·rw [hr3] at g;exact h0 g.1
   exact(r12ref_bad bs A c last w hS hl hc hb t.to t.vn h2 ⟨hk,hu⟩ h3 h6 h0).mono (hno (W:=w) (ref_own hvk hth h6 (.inl hx)))
 ·have hth:thirdO bs last (nextO bs t.to last)=(e2,noT 0):=by
   rw [hr2]
   unfold thirdO
   rw [if_neg hu]
  have h6:e2≠6:=fun e=>by rw [ref_6 hvk hth e] at h;cases h
  have hr:=ref_own hvk hth h6 (.inl (by show(0:Nat)≠6;decide))
  by_cases h0:e2=0
  ·subst h0
   exact(r12ref_not bs A c last w hS hl hc hb t.to t.vn h2 (fun e=>hu e.2)).mono (hno (W:=w) hr)
  ·exact(r12ref_err bs A c last w hS hl hc hb t.to t.vn h2 h6 h0).mono (hno (W:=w) hr)
end Go.Proofs.YtcehpobjnbgpdaaGreatDoor
