/- Merged by program. -/
import Derived.Test.YtcehpobjnbgpdaaGreatDoorC23
import Derived.Test.YtcehpobjnbgpdaaGreatDoorC26
set_option linter.unusedVariables false
set_option linter.unusedSimpArgs false
namespace Go.Proofs.YtcehpobjnbgpdaaGreatDoor
mutual
def formT:VT->List Nat
 |.mk k n s l =>
  if k=0 then [110,117,108,108]
  else if k=1 then(if n=1 then [116,114,117,101] else [102,97,108,115,101])
  else if k=2 then intTxt n
  else if k=3 then realTxt n
  else if k=4 then txF (sl s)
  else if k=5 then nmF (sl s)
  else if k=8 then intTxt n++[32,48,32,82]
  else if k=6 then 91::(formL 0 l++[93])
  else 60::60::(formL 0 l++[62,62])
def formL:Nat->List VT->List Nat
 |_,[]=>[]
 |j,t::l=>List.replicate j 32++(formT t++formL 1 l)
end
theorem formL_nil (j:Nat):formL j []=[]:=by rw [formL]
theorem formL_cons (j:Nat) (t:VT) (l:List VT):formL j (t::l)=List.replicate j 32++(formT t++formL 1 l):=by rw [formL]
theorem form_0 (n:Int) (s:ByteArray) (l:List VT):formT (.mk 0 n s l)=[110,117,108,108]:=by rw [formT];rfl
theorem form_1 (n:Int) (s:ByteArray) (l:List VT):formT (.mk 1 n s l)=if n=1 then [116,114,117,101] else [102,97,108,115,101]:=by rw [formT];rfl
theorem form_2 (n:Int) (s:ByteArray) (l:List VT):formT (.mk 2 n s l)=intTxt n:=by rw [formT];rfl
theorem form_3 (n:Int) (s:ByteArray) (l:List VT):formT (.mk 3 n s l)=realTxt n:=by rw [formT];rfl
theorem form_4 (n:Int) (s:ByteArray) (l:List VT):formT (.mk 4 n s l)=txF (sl s):=by rw [formT];rfl
theorem form_5 (n:Int) (s:ByteArray) (l:List VT):formT (.mk 5 n s l)=nmF (sl s):=by rw [formT];rfl
theorem form_6 (n:Int) (s:ByteArray) (l:List VT):formT (.mk 6 n s l)=91::(formL 0 l++[93]):=by rw [formT];rfl
theorem form_7 (n:Int) (s:ByteArray) (l:List VT):formT (.mk 7 n s l)=60::60::(formL 0 l++[62,62]):=by rw [formT];rfl
theorem form_8 (n:Int) (s:ByteArray) (l:List VT):formT (.mk 8 n s l)=intTxt n++[32,48,32,82]:=by rw [formT];rfl
def NR (r:Int × Tkn):Prop:=r.1≠6/\(r.2.kind≠6\/sb r.2.s≠⟨#[82]⟩)
def ClearR (bs:List Nat) (q:Nat):Prop:=NR (nextO bs q true)/\((nextO bs q true).2.vk=2->NR (nextO bs (nextO bs q true).2.to true))
theorem ref_clear {bs:List Nat} {t:Tkn} (hk:t.vk=2) (h:ClearR bs t.to):refO bs true t=(0,tokV t,t.to):=by
 obtain⟨h1,h2⟩:=h
 unfold refO
 rw [if_neg (fun e=>e hk)]
 have ht:NR (thirdO bs true (nextO bs t.to true)):=by
  unfold thirdO
  split
  ·next e=>exact h2 e
  ·exact⟨h1.1,.inl (by show(0:Nat)≠6;decide)⟩
 rw [if_neg ht.1,if_pos ht.2]
theorem clear_of {bs:List Nat} {q:Nat} {u:Tkn} (h:nextO bs q true=(0,u)) (hk:u.kind≠6\/sb u.s≠⟨#[82]⟩) (h2:u.vk=2->NR (nextO bs u.to true)):ClearR bs q:=by
 unfold ClearR
 rw [h]
 exact⟨⟨by show(0:Int)≠6;decide,hk⟩,h2⟩
theorem drop_past {bs A B:List Nat} {p q:Nat} (h:bs.drop p=A++B) (hq:q=p+A.length):bs.drop q=B:=by
 rw [hq,<- List.drop_drop,h]
 exact List.drop_left' rfl
theorem drop_in {bs A:List Nat} {p c:Nat} (h:bs.drop p=A) (hc:c∈A):p<=bs.length:=by
 rcases Nat.lt_or_ge bs.length p with h1|h1
 ·rw [List.drop_of_length_le (by omega)] at h
  rw [<- h] at hc
  cases hc
 ·exact h1
theorem ends_32 (l:List Nat):endsR (32::l):=fun c m e=>by cases e;rfl
theorem ends_93 (l:List Nat):endsR (93::l):=fun c m e=>by cases e;rfl
theorem ends_62 (l:List Nat):endsR (62::l):=fun c m e=>by cases e;rfl
theorem ends_L {l:List VT} {m:List Nat} (h:endsR m):endsR (formL 1 l++m):=by
 cases l with
 |nil=>rw [formL_nil];exact h
 |cons t l=>rw [formL_cons];exact ends_32 _
def PT (bs:List Nat) (t:VT):Prop:=∀ (deep p j:Nat) (rest:List Nat),firstT t=0->depthT t+deep<=64->bs.drop p=List.replicate j 32++(formT t++rest)->endsR rest->ClearR bs (p+j+(formT t).length) ->
 ∃ u,nextO bs p true=(0,u)/\Reads bs true deep u t (p+j+(formT t).length)/\ClearR bs p
theorem form_elems {bs:List Nat}:∀ (l:List VT),(∀ t∈l,PT bs t)->∀ (deep p j:Nat) (rest:List Nat),(∀ t∈l,firstT t=0)->(∀ t∈l,depthT t+deep<=64)->bs.drop p=formL j l++93::rest ->
  Elems bs true deep p l (p+(formL j l).length+1)/\ClearR bs p:=by
 intro l
 induction l with
 |nil =>
  intro _ deep p j rest _ _ hb
  rw [formL_nil,List.nil_append] at hb
  have hn:nextO bs p true=(0,⟨3,p,p+1,0,0,[],[]⟩):=by
   rw [next_at (j:=0) (by rw [hb];rfl) (by decide) (by decide)]
   rfl
  have hp:=drop_in hb (List.mem_cons_self ..)
  refine⟨?_,clear_of hn (.inl (by show(3:Nat)≠6;decide)) (fun e=>by cases e)⟩
  rw [formL_nil]
  exact .nil hp hn rfl
 |cons t l ih =>
  intro hP deep p j rest hf hd hb
  rw [formL_cons,List.append_assoc,List.append_assoc] at hb
  have hq:bs.drop (p+j+(formT t).length)=formL 1 l++93::rest:=drop_past (A:=List.replicate j 32++formT t) (by rw [hb,List.append_assoc]) (by rw [List.length_append,List.length_replicate,Nat.add_assoc])
  obtain⟨h1,h2⟩:=ih (fun x hx=>hP x (List.mem_cons_of_mem _ hx)) deep _ 1 rest (fun x hx=>hf x (List.mem_cons_of_mem _ hx)) (fun x hx=>hd x (List.mem_cons_of_mem _ hx)) hq
  obtain⟨u,k1,k2,k3⟩:=hP t (List.mem_cons_self ..) deep p j _ (hf t (List.mem_cons_self ..)) (hd t (List.mem_cons_self ..)) hb (ends_L (ends_93 rest)) h2
  have hp:p<=bs.length:=drop_in hb (c:=93) (by simp)
  refine⟨?_,k3⟩
  have:=Elems.cons hp k1 k2 h1
  have e:p+(formL j (t::l)).length+1=p+j+(formT t).length+(formL 1 l).length+1:=by rw [formL_cons];simp only [List.length_append,List.length_replicate];omega
  rw [e]
  exact this
theorem name_is {t:VT} (hk:t.kind=5) (h:firstT t=0):t=nmT t.str/\textO t.str:=by
 obtain⟨k,n,s,l⟩:=t
 have hk:k=5:=hk
 subst hk
 rw [firstT_mk] at h
 have h0:ownO 5 n s l=0:=by
  by_cases h0:ownO 5 n s l=0
  ·exact h0
  ·rw [if_pos h0] at h;exact h
 rw [own_5] at h0
 split at h0
 ·cases h0
 ·next ht =>
  split at h0
  ·next hn =>
   refine⟨?_,Decidable.not_not.1 ht⟩
   show VT.mk 5 n s l=.mk 5 0 s []
   rw [hn.1,List.length_eq_zero_iff.1 hn.2]
  ·cases h0
theorem name_tok {bs rest:List Nat} {p j:Nat} {s:ByteArray} (hs:textO s) (hb:bs.drop p=List.replicate j 32++(formT (nmT s)++rest)) (hr:endsR rest) :
  ∃ u,nextO bs p true=(0,u)/\u.kind=1/\u.vk=5/\u.vn=0/\sb u.vs=s/\u.to=p+j+(formT (nmT s)).length:=by
 have hf:formT (nmT s)=47::nmL (sl s):=form_5 0 s []
 rw [hf] at hb ⊢
 have hn:=next_at (last:=true) (l:=nmL (sl s)++rest) hb (by decide) (by decide)
 have ht:=tok_nm (p+j) (sl s) rest (sl_lt s) hs.1 (by rw [sl_len];exact hs.2) hr
 rw [ht] at hn
 exact⟨_,hn,rfl,rfl,rfl,sb_sl s,by simp only [List.length_cons];omega⟩
theorem form_names {bs:List Nat}:∀ (N:Nat) (l:List VT),l.length<=N->(∀ t∈l,PT bs t)->∀ (lo:Option ByteArray) (acc:List VT) (deep p j:Nat) (rest:List Nat),okD lo l->(∀ key,(∀ s,lo=some s->Op.bytesLess s.toList key.toList=true)->lowL key acc)->dictT acc=acc->acc.length%2=0->deep<=64->(∀ t∈l,firstT t=0)->(∀ t∈l,depthT t+deep<=64)->bs.drop p=formL j l++62::62::rest ->
  Names bs true deep p acc (acc++l) (p+(formL j l).length+2)/\ClearR bs p/\dictT (acc++l)=acc++l:=by
 intro N
 induction N using Nat.strongRecOn with
 |_ N ih =>
  intro l hN hP lo acc deep p j rest hok hlow hdt hev hdp hf hd hb
  match l,hok with
  |[],_ =>
   rw [formL_nil,List.nil_append] at hb
   have hn:nextO bs p true=(0,⟨5,p,p+2,0,0,[],[]⟩):=by
    rw [next_at (j:=0) (by rw [hb];rfl) (by decide) (by decide)]
    rfl
   have hp:=drop_in hb (List.mem_cons_self ..)
   refine⟨?_,clear_of hn (.inl (by show(5:Nat)≠6;decide)) (fun e=>by cases e),by rw [List.append_nil];exact hdt⟩
   rw [formL_nil,List.append_nil]
   exact .nil hp hn rfl
  |[_],hok=>exact hok.elim
  |t::v::l,hok =>
   have ft:=hf t (List.mem_cons_self ..)
   have mv:v∈t::v::l:=List.mem_cons_of_mem _ (List.mem_cons_self ..)
   obtain⟨et,htx⟩:=name_is hok.1 ft
   obtain⟨key,hkey⟩:∃ key,key=t.str:=⟨_,rfl⟩
   rw [<- hkey] at et htx
   subst et
   rw [formL_cons,formL_cons,List.append_assoc,List.append_assoc] at hb
   have hb2:bs.drop (p+j+(formT (nmT key)).length)=List.replicate 1 32++(formT v++(formL 1 l++62::62::rest)):=by
    refine drop_past (A:=List.replicate j 32++formT (nmT key)) ?_ (by rw [List.length_append,List.length_replicate,Nat.add_assoc])
    rw [hb]
    simp only [List.append_assoc]
   have hb3:bs.drop (p+j+(formT (nmT key)).length+1+(formT v).length)=formL 1 l++62::62::rest:=drop_past (A:=List.replicate 1 32++formT v) (by rw [hb2,List.append_assoc]) (by rw [List.length_append,List.length_replicate,Nat.add_assoc])
   obtain⟨u,k1,k2,k3,k4,k5,k6⟩:=name_tok htx hb (by rw [List.append_assoc];exact ends_32 _)
   have hl0:lowL key acc:=hlow key (fun s hs=>by rw [hkey];exact hok.2.1 s hs)
   have hno:findL (sb u.vs) (dictT acc)=none:=by rw [k5,hdt];exact low_find acc hl0
   have htv:tokV u=nmT key:=by
    unfold tokV nmT
    rw [k3,k4,k5]
    rfl
   have hd2:dictT (acc++[nmT key,v])=acc++[nmT key,v]:=by
    rw [dictT_snoc hev,hdt]
    exact low_put hl0
   obtain⟨r1,r2,r3⟩:=ih (N-2) (by simp only [List.length_cons] at hN;omega) l (by simp only [List.length_cons] at hN;omega) (fun x hx=>hP x (List.mem_cons_of_mem _ (List.mem_cons_of_mem _ hx))) (some key) (acc++[nmT key,v]) deep _ 1 rest (by rw [hkey];exact hok.2.2)
    (fun key' h=>by have h1:=h key rfl;exact low_app h1 acc (low_mono h1 acc hl0)) hd2 (by rw [List.length_append];simp only [List.length_cons,List.length_nil];omega) hdp (fun x hx=>hf x (List.mem_cons_of_mem _ (List.mem_cons_of_mem _ hx))) (fun x hx=>hd x (List.mem_cons_of_mem _ (List.mem_cons_of_mem _ hx))) hb3
   obtain⟨u2,g1,g2,g3⟩:=hP v mv deep _ 1 _ (hf v mv) (hd v mv) hb2 (ends_L (ends_62 _)) r2
   have hp:p<=bs.length:=drop_in hb (c:=62) (by simp)
   have hdv:=hd (nmT key) (List.mem_cons_self ..)
   rw [depth_nm] at hdv
   have e:acc++[nmT key,v]++l=acc++nmT key::v::l:=by simp
   rw [e] at r1 r3
   refine⟨?_,clear_of k1 (.inl (by rw [k2];decide)) (fun e=>by rw [k3] at e;cases e),r3⟩
   have e2:p+(formL j (nmT key::v::l)).length+2=p+j+(formT (nmT key)).length+1+(formT v).length+(formL 1 l).length+2:=by rw [formL_cons,formL_cons];simp only [List.length_append,List.length_replicate];omega
   rw [e2]
   exact .cons hp (by omega) k1 k2 k3 hno (by rw [k6];exact g1) g2 (by rw [htv];exact r1)
theorem own_zero {k n:Int} {s:ByteArray} {l:List VT} (h:firstT (.mk k n s l)=0):ownO k n s l=0:=by
 rw [firstT_mk] at h
 by_cases h0:ownO k n s l=0
 ·exact h0
 ·rw [if_pos h0] at h;exact h
theorem first_in {k n:Int} {s:ByteArray} {l:List VT} (hk:k=6\/k=7) (h:firstT (.mk k n s l)=0):∀ t∈l,firstT t=0:=by
 have h0:=own_zero h
 rw [firstT_mk,if_neg (fun e=>e h0),if_pos hk] at h
 exact firstL_zero.1 h
theorem kind_of {k n:Int} {s:ByteArray} {l:List VT} (h:ownO k n s l=0):k=0\/k=1\/k=2\/k=3\/k=4\/k=5\/k=6\/k=7\/k=8:=by
 rcases Decidable.em (k=0\/k=1\/k=2\/k=3\/k=4\/k=5\/k=6\/k=7\/k=8) with h1|h1
 ·exact h1
 ·rw [ownO,if_neg (by omega),if_neg (by omega),if_neg (by omega),if_neg (by omega),if_neg (by omega),if_neg (by omega),if_neg (by omega),if_neg (by omega)] at h
  cases h
theorem word_reads {bs l rest:List Nat} {p j c deep:Nat} {v:VT} (hb:bs.drop p=List.replicate j 32++(c::l++rest)) (hc:c=110\/c=116\/c=102\/c=82) (hl:∀ d∈l,isRg d=true) (hr:endsR rest) (hd:deep<64) (hw:wordO (c::l)=(0,v)) (hne:sb (c::l)≠⟨#[82]⟩) :
  ∃ u,nextO bs p true=(0,u)/\Reads bs true deep u v (p+j+(c::l).length)/\ClearR bs p:=by
 have hn:=next_at (last:=true) (l:=l++rest) hb (by rcases hc with rfl|rfl|rfl|rfl<;>decide) (by omega)
 rw [tok_wd hc hl hr] at hn
 refine⟨_,hn,.leaf (.inl rfl) hd ?_,clear_of hn (.inr hne) (fun e=>by cases e)⟩
 unfold leafO
 rw [if_pos rfl]
 show((wordO (c::l)).1,(wordO (c::l)).2,p+j+1+l.length)=_
 rw [hw,List.length_cons]
 congr 2
 omega
theorem num_next {bs n rest:List Nat} {p j c k:Nat} {x:Int} {l:List Nat} (hb:bs.drop p=List.replicate j 32++(n++rest)) (hn:n=c::l) (hc:isD c\/c=45) (hbs:∀ d∈n,isD d\/d=45\/d=46) (ho:numOf n=(0,k,x)) (hr:endsR rest) :
  nextO bs p true=(0,⟨1,p+j,p+j+n.length,k,x,[],[]⟩):=by
 have hb':bs.drop p=List.replicate j 32++c::(l++rest):=by rw [hb,hn];rfl
 have hsp:isSp c=false:=by
  unfold isD at hc
  unfold isSp
  simp only [Bool.or_eq_false_iff,beq_eq_false_iff_ne]
  omega
 rw [next_at hb' hsp (by unfold isD at hc;omega)]
 exact tok_num hn hc hbs ho hr
theorem tok_reads {bs:List Nat} {p deep:Nat} {u:Tkn} (hn:nextO bs p true=(0,u)) (hk:u.kind=1) (h2:u.vk≠2) (hd:deep<64):∃ u',nextO bs p true=(0,u')/\Reads bs true deep u' (tokV u) u.to/\ClearR bs p:=by
 refine⟨u,hn,.leaf (.inr hk) hd ?_,clear_of hn (.inl (by rw [hk];decide)) (fun e=>absurd e h2)⟩
 unfold leafO refO
 rw [if_neg (by rw [hk];decide),if_pos h2]
theorem zero_txt:numOf [48]=(0,2,0):=by decide
set_option maxHeartbeats 1000000 in
theorem form_reads (bs:List Nat):∀ (N:Nat) (t:VT),sizT t<=N->PT bs t:=by
 intro N
 induction N using Nat.strongRecOn with
 |_ N ih =>
  intro t hN deep p j rest hf hdep hb hr hcl
  have hd:deep<64:=by have:=(depthT_le t).1;omega
  obtain⟨k,n,s,l⟩:=t
  rw [sizT_mk] at hN
  have hin:∀ x∈l,PT bs x:=fun x hx=>by
   obtain⟨i,hi,rfl⟩:=List.mem_iff_getElem.1 hx
   have:=sizL_at (List.getElem?_eq_getElem hi)
   exact ih (N-1) (by omega) _ (by omega)
  have ho:=own_zero hf
  rcases kind_of ho with rfl|rfl|rfl|rfl|rfl|rfl|rfl|rfl|rfl
  ·rw [own_0] at ho
   split at ho
   ·next h =>
    have e:VT.mk 0 n s l=nilT:=by rw [h.2.2,str_nil h.1,List.length_eq_zero_iff.1 h.2.1];rfl
    rw [form_0] at hb hcl ⊢
    rw [e]
    exact word_reads hb (by omega) (by decide) hr hd (by rfl) (by decide)
   ·cases ho
  ·rw [own_1] at ho
   split at ho
   ·next h =>
    rw [form_1] at hb hcl ⊢
    rw [str_nil h.1,List.length_eq_zero_iff.1 h.2.1]
    by_cases h1:n=1
    ·rw [if_pos h1] at hb ⊢
     rw [h1]
     exact word_reads hb (by omega) (by decide) hr hd (by rfl) (by decide)
    ·rw [if_neg h1] at hb ⊢
     rw [show n=0 by omega]
     exact word_reads hb (by omega) (by decide) hr hd (by rfl) (by decide)
   ·cases ho
  ·rw [own_2,chkOf] at ho
   split at ho
   ·next h =>
    rw [form_2] at hb hcl ⊢
    have hm:n.natAbs<=2147483647:=by have:=h.2.2;unfold mayN at this;omega
    obtain⟨c,m,e1,e2⟩:=int_cons n
    have hn:=num_next hb e1 e2 (int_b n) (int_back n hm) hr
    refine⟨_,hn,.leaf (.inr rfl) hd ?_,clear_of hn (.inl (by show(1:Nat)≠6;decide)) (fun _=>hcl.1)⟩
    unfold leafO
    rw [if_neg (by show ¬(1:Nat)=6;decide),ref_clear rfl hcl,str_nil h.1,List.length_eq_zero_iff.1 h.2.1]
    rfl
   ·cases ho
  ·rw [own_3,chkOf] at ho
   split at ho
   ·next h =>
    rw [form_3] at hb hcl ⊢
    have hm:n.natAbs<=2147483647*1000000:=by have:=h.2.2;unfold mayN at this;omega
    obtain⟨c,m,e1,e2⟩:=real_cons n
    have hn:=num_next hb e1 e2 (real_b n) (real_back n hm) hr
    rw [str_nil h.1,List.length_eq_zero_iff.1 h.2.1]
    exact tok_reads hn rfl (by show(3:Nat)≠2;decide) hd
   ·cases ho
  ·rw [own_4] at ho
   split at ho
   ·next h =>
    rw [form_4] at hb hcl ⊢
    obtain⟨c,m,e1,e2,e3⟩:=tok_tx (p+j) (sl s) rest (sl_lt s)
    rw [e1] at hb
    have hn:=next_at (last:=true) hb (by rcases e2 with rfl|rfl<;>decide) (by omega)
    rw [e3] at hn
    have:=tok_reads hn rfl (by show(4:Nat)≠2;decide) hd
    have ev:tokV ⟨1,p+j,p+j+(txF (sl s)).length,4,0,sl s,[]⟩=.mk 4 n s l:=by
     show VT.mk 4 0 (sb (sl s)) []=_
     rw [sb_sl,h.1,List.length_eq_zero_iff.1 h.2]
    rw [ev] at this
    exact this
   ·cases ho
  ·obtain⟨e,htx⟩:=name_is (t:=.mk 5 n s l) rfl hf
   have e:VT.mk 5 n s l=nmT s:=e
   rw [e] at hb hcl ⊢
   obtain⟨u,k1,k2,k3,k4,k5,k6⟩:=name_tok htx hb hr
   have:=tok_reads k1 k2 (by rw [k3];decide) hd
   have ev:tokV u=nmT s:=by unfold tokV nmT;rw [k3,k4,k5];rfl
   rw [ev,k6] at this
   exact this
  ·have ho':=ho
   rw [own_6] at ho'
   split at ho'
   ·next h =>
    rw [form_6] at hb hcl ⊢
    have hdl:=(depthL_iff l 1 (64-deep)).1 (by have:=hdep;rw [depthT,if_pos (.inl rfl)] at this;omega)
    have hn:nextO bs p true=(0,⟨2,p+j,p+j+1,0,0,[],[]⟩):=by
     rw [next_at hb (by decide) (by decide)]
     rfl
    have hb2:bs.drop (p+j+1)=formL 0 l++93::rest:=by
     refine drop_past (A:=List.replicate j 32++[91]) ?_ (by rw [List.length_append,List.length_replicate];rfl)
     rw [hb]
     simp
    obtain⟨h1,h2⟩:=form_elems l hin (deep+1) _ 0 rest (first_in (.inl rfl) hf) (fun x hx=>by have:=hdl.2 x hx;omega) hb2
    refine⟨_,hn,?_,clear_of hn (.inl (by show(2:Nat)≠6;decide)) (fun e=>by cases e)⟩
    rw [h.1,str_nil h.2]
    have e:p+j+(91::(formL 0 l++[93])).length=p+j+1+(formL 0 l).length+1:=by simp only [List.length_cons,List.length_append,List.length_nil];omega
    rw [e]
    exact .arr rfl hd h1
   ·cases ho'
  ·have ho':=ho
   rw [own_7] at ho'
   unfold dictO at ho'
   split at ho'
   ·cases ho'
   ·next h =>
    split at ho'
    ·next hri =>
     rw [form_7] at hb hcl ⊢
     have g1:n=0:=Decidable.byContradiction fun e=>h (.inl e)
     have g2:s.size=0:=Decidable.byContradiction fun e=>h (.inr (.inl e))
     have g3:l.length%2=0:=Decidable.byContradiction fun e=>h (.inr (.inr (.inl e)))
     have g4:namesO l:=Classical.byContradiction fun e=>h (.inr (.inr (.inr e)))
     have hok:=dict_okD g3 g4 hri
     have hdl:=(depthL_iff l 1 (64-deep)).1 (by have:=hdep;rw [depth_dict] at this;omega)
     have hn:nextO bs p true=(0,⟨4,p+j,p+j+2,0,0,[],[]⟩):=by
      rw [next_at hb (by decide) (by decide)]
      rfl
     have hb2:bs.drop (p+j+2)=formL 0 l++62::62::rest:=by
      refine drop_past (A:=List.replicate j 32++[60,60]) ?_ (by rw [List.length_append,List.length_replicate];rfl)
      rw [hb]
      simp
     obtain⟨h1,h2,h3⟩:=form_names l.length l (Nat.le_refl _) hin none [] (deep+1) _ 0 rest hok (fun key _=>trivial) (by unfold dictT;rfl) rfl (by omega) (first_in (.inr rfl) hf) (fun x hx=>by have:=hdl.2 x hx;omega) hb2
     rw [List.nil_append] at h1 h3
     refine⟨_,hn,?_,clear_of hn (.inl (by show(4:Nat)≠6;decide)) (fun e=>by cases e)⟩
     have e:p+j+(60::60::(formL 0 l++[62,62])).length=p+j+2+(formL 0 l).length+2:=by simp only [List.length_cons,List.length_append,List.length_nil];omega
     rw [e,g1,str_nil g2]
     have:=Reads.dict (t:=⟨4,p+j,p+j+2,0,0,[],[]⟩) rfl hd h1
     rw [h3] at this
     exact this
    ·cases ho'
  ·rw [own_8] at ho
   split at ho
   ·next h =>
    rw [form_8] at hb hcl ⊢
    have hm:n.natAbs<=2147483647:=by omega
    obtain⟨c,m,e1,e2⟩:=int_cons n
    rw [List.append_assoc] at hb
    have hn:=num_next hb e1 e2 (int_b n) (int_back n hm) (ends_32 _)
    have hb2:bs.drop (p+j+(intTxt n).length)=List.replicate 1 32++([48]++32::82::rest):=by
     refine drop_past (A:=List.replicate j 32++intTxt n) ?_ (by rw [List.length_append,List.length_replicate,Nat.add_assoc])
     rw [hb]
     simp
    have hn2:=num_next hb2 rfl (.inl (by decide)) (by decide) zero_txt (ends_32 _)
    have hb3:bs.drop (p+j+(intTxt n).length+1+1)=List.replicate 1 32++82::([]++rest):=by
     refine drop_past (A:=[32,48]) ?_ rfl
     rw [hb2]
     rfl
    have hn3:=next_at (last:=true) hb3 (by decide) (by decide)
    rw [tok_wd (by omega) (fun d hd=>by cases hd) hr] at hn3
    refine⟨_,hn,.leaf (.inr rfl) hd ?_,clear_of hn (.inl (by show(1:Nat)≠6;decide)) (fun _=>?_)⟩
    ·unfold leafO
     rw [if_neg (by show ¬(1:Nat)=6;decide)]
     have ht:thirdO bs true (nextO bs (p+j+(intTxt n).length) true)=(0,⟨6,p+j+(intTxt n).length+1+1+1,p+j+(intTxt n).length+1+1+1+1+0,0,0,[],[82]⟩):=by
      unfold thirdO
      rw [hn2,if_pos rfl]
      exact hn3
     unfold refO
     rw [if_neg (by show ¬(2:Nat)≠2;decide)]
     simp only [ht]
     rw [hn2]
     have eq:p+j+(intTxt n++[32,48,32,82]).length=p+j+(intTxt n).length+1+1+1+1+0:=by simp only [List.length_append,List.length_cons,List.length_nil];omega
     rw [eq,if_neg (fun e:(0:Int)=6=>absurd e (by decide)),if_neg (fun e=>e.elim (fun e=>e rfl) (fun e=>e rfl)),if_neg (fun e=>by rcases e with e|e|e;exact absurd e (by omega);exact absurd e (by omega);exact e rfl),str_nil h.1,List.length_eq_zero_iff.1 h.2.1]
    ·show NR (nextO bs (p+j+(intTxt n).length) true)
     rw [hn2]
     exact⟨by show(0:Int)≠6;decide,.inl (by show(1:Nat)≠6;decide)⟩
   ·cases ho
theorem form_back {t:VT} (h:checkT t=0):runI (formT t) true (0:Nat) []=(0,t,(formT t).length)/\nextO (formT t) (formT t).length true=(0,noT (formT t).length)/\∃ u,nextO (formT t) 0 true=(0,u)/\Reads (formT t) true 0 u t (formT t).length:=by
 have hend:nextO (formT t) (formT t).length true=(0,noT (formT t).length):=by
  unfold nextO
  rw [List.drop_length]
  simp only [skp,Nat.add_zero,List.drop_length]
  rfl
 have hc:ClearR (formT t) (formT t).length:=clear_of hend (.inl (by show(0:Nat)≠6;decide)) (fun e=>by cases e)
 have h1:¬64<depthT t:=fun e=>by unfold checkT at h;rw [if_pos e] at h;cases h
 have h2:firstT t=0:=by unfold checkT at h;rwa [if_neg h1] at h
 obtain⟨u,k1,k2,_⟩:=form_reads (formT t) (sizT t) t (Nat.le_refl _) 0 0 0 [] h2 (by omega) (by simp) (fun c m e=>by cases e) (by simpa using hc)
 rw [Nat.zero_add] at k2
 exact⟨runI_reads (Nat.zero_le _) k1 k2,hend,u,k1,k2⟩
mutual
def txtsT:VT->Prop
 |.mk _ _ s l=>s.size<=300/\txtsL l
def txtsL:List VT->Prop
 |[]=>True
 |t::l=>txtsT t/\txtsL l
end
theorem txtsT_mk (k n:Int) (s:ByteArray) (l:List VT):txtsT (.mk k n s l)↔s.size<=300/\txtsL l:=by rw [txtsT]
theorem txtsL_mem:∀ {l:List VT},txtsL l↔∀ t∈l,txtsT t
 |[]=>⟨fun _ t h=>(by cases h),fun _=>(by rw [txtsL];trivial)⟩
 |t::l=>by
  rw [txtsL,txtsL_mem (l:=l)]
  exact⟨fun h x hx=>by rcases List.mem_cons.1 hx with rfl|hx;exact h.1;exact h.2 x hx,fun h=>⟨h t (List.mem_cons_self ..),fun x hx=>h x (List.mem_cons_of_mem _ hx)⟩⟩
theorem nmL_len:∀ s:List Nat,(nmL s).length<=3*s.length:=by
 intro s
 induction s with
 |nil=>exact Nat.le_refl _
 |cons c s ih =>
  rw [nmL,List.length_append,List.length_cons]
  have:(nmC c).length<=3:=by unfold nmC;split<;>simp [hex2]
  omega
theorem esL_len:∀ s:List Nat,(esL s).length<=2*s.length:=by
 intro s
 induction s with
 |nil=>exact Nat.le_refl _
 |cons c s ih =>
  rw [esL,List.length_append,List.length_cons]
  have:(esC c).length<=2:=by unfold esC;split<;>simp
  omega
theorem hxL_len:∀ s:List Nat,(hxL s).length=2*s.length:=by
 intro s
 induction s with
 |nil=>rfl
 |cons c s ih =>
  rw [hxL,List.length_append,List.length_cons,ih]
  simp only [hex2,List.length_cons,List.length_nil]
  omega
theorem txF_len (s:List Nat):(txF s).length<=2*s.length+2:=by
 unfold txF
 split
 ·have:=esL_len s
  simp only [List.length_cons,List.length_append,List.length_nil]
  omega
 ·have:=hxL_len s
  simp only [List.length_cons,List.length_append,List.length_nil]
  omega
theorem sign_len (x:Int):(signL x).length<=1:=by unfold signL;split<;>simp
theorem int_len (x:Int) (h:x.natAbs<=2147483647):(intTxt x).length<=11:=by
 have h1:=sign_len x
 have h2:=dn_len (n:=x.natAbs) (k:=10) (by omega)
 rw [intTxt,List.length_append,txt_len]
 omega
theorem trimZ_len:∀ (k:Nat) (l:List Nat),(trimZ k l).length<=l.length:=by
 intro k
 induction k with
 |zero=>intro l;exact Nat.le_refl _
 |succ k ih =>
  intro l
  rw [trimZ]
  split
  ·have:=ih l.dropLast
   rw [List.length_dropLast] at this
   omega
  ·exact Nat.le_refl _
theorem real_len (x:Int) (h:x.natAbs<=2147483647*1000000):(realTxt x).length<=18:=by
 have h1:=sign_len x
 have h2:=dn_len (n:=x.natAbs / 1000000) (k:=10) (by omega)
 have h3:=trimZ_len 5 (txt (x.natAbs%1000000) 6)
 have h4:=dn_len (n:=x.natAbs%1000000) (k:=6) (by omega)
 rw [txt_len] at h3
 rw [realTxt,List.length_append,List.length_append,List.length_cons,txt_len]
 omega
theorem formL_len:∀ (l:List VT),(∀ t∈l,(formT t).length+1<=1000*sizT t)->∀ j,j<=1->(formL j l).length<=1000*sizL l:=by
 intro l
 induction l with
 |nil=>intro _ j _;rw [formL_nil];exact Nat.zero_le _
 |cons t l ih =>
  intro h j hj
  have h1:=h t (List.mem_cons_self ..)
  have h2:=ih (fun x hx=>h x (List.mem_cons_of_mem _ hx)) 1 (Nat.le_refl _)
  rw [formL_cons,sizL_cons]
  simp only [List.length_append,List.length_replicate]
  omega
theorem form_len:∀ (N:Nat) (t:VT),sizT t<=N->firstT t=0->txtsT t->(formT t).length+1<=1000*sizT t:=by
 intro N
 induction N using Nat.strongRecOn with
 |_ N ih =>
  intro t hN hf ht
  obtain⟨k,n,s,l⟩:=t
  have hs:=(txtsT_mk k n s l).1 ht
  rw [sizT_mk] at hN ⊢
  have ho:=own_zero hf
  have hin:k=6\/k=7->∀ x∈l,(formT x).length+1<=1000*sizT x:=fun hk x hx=>by
   have hfx:=first_in hk hf x hx
   have htx:=txtsL_mem.1 hs.2 x hx
   obtain⟨i,hi,rfl⟩:=List.mem_iff_getElem.1 hx
   have:=sizL_at (List.getElem?_eq_getElem hi)
   exact ih (N-1) (by omega) _ (by omega) hfx htx
  have hsl:=sl_len s
  rcases kind_of ho with rfl|rfl|rfl|rfl|rfl|rfl|rfl|rfl|rfl
  ·rw [form_0];simp only [List.length_cons,List.length_nil];omega
  ·rw [form_1];split<;>(simp only [List.length_cons,List.length_nil];omega)
  ·rw [own_2,chkOf] at ho
   split at ho
   ·next h =>
    have:=int_len n (by have:=h.2.2;unfold mayN at this;omega)
    rw [form_2];omega
   ·cases ho
  ·rw [own_3,chkOf] at ho
   split at ho
   ·next h =>
    have:=real_len n (by have:=h.2.2;unfold mayN at this;omega)
    rw [form_3];omega
   ·cases ho
  ·have:=txF_len (sl s)
   rw [form_4];omega
  ·have:=nmL_len (sl s)
   rw [form_5,nmF,List.length_cons];omega
  ·have:=formL_len l (hin (.inl rfl)) 0 (by omega)
   rw [form_6];simp only [List.length_cons,List.length_append,List.length_nil];omega
  ·have:=formL_len l (hin (.inr rfl)) 0 (by omega)
   rw [form_7];simp only [List.length_cons,List.length_append,List.length_nil];omega
  ·rw [own_8] at ho
   split at ho
   ·next h =>
    have:=int_len n (by omega)
    rw [form_8];simp only [List.length_cons,List.length_append,List.length_nil];omega
   ·cases ho
open Go.RowKit
noncomputable def wholeO (bs:List Nat):Int × VT :=
 if (runI bs true 0 []).1≠0 then((runI bs true 0 []).1,nilT)
 else if (nextA bs ((runI bs true 0 []).2.2:Nat) true).1≠0 then((nextA bs ((runI bs true 0 []).2.2:Nat) true).1,nilT)
 else if (nextA bs ((runI bs true 0 []).2.2:Nat) true).2.kind≠0 then(11,nilT) else(0,(runI bs true 0 []).2.1)
def WhTo (w:World) (R:Int × VT) (e:Ending) (w':World):Prop:=∃ v:VC,e=.returned (.tuple #[v.val,.int .i64 R.1])/\Ins (fun i=>i<w.heap.size) w' R.2 v/\Chg NoS w w'
set_option maxHeartbeats 4000000 in
set_option maxRecDepth 100000 in
theorem qwho_any (bs:List Nat) (A:Option Addr) (c:Nat) (w:World) (hS:Src w 1 A bs.length c (lcells bs)) (hl:bs.length<=400000) (hc:bs.length<=c) (hb:∀ x∈bs,x<256) :
  Calls Tryz.prog 16 #[.slice A bs.length c] w (WhTo w (wholeO bs)):=by
 have HVL:=kf (fun W (hW:Chg NoS w W)=>qval_ins bs A c 0 true W (Src.below (w0:=w) hS hW) hl hc hb)
 have HNX:=kf (fun(p:Nat) W (hW:Chg NoS w W)=>pnext_any bs A c (p:Nat) true W (Src.below (w0:=w) hS hW) hl hc hb)
 have HWO:Hid (wholeO bs=wholeO bs):=rfl
 obtain⟨X,hX⟩:∃ X,X=wholeO bs:=⟨_,rfl⟩
 rw [<- hX]
 unfold wholeO at hX
 obtain⟨n,hn⟩:∃ n,n=bs.length:=⟨_,rfl⟩
 obtain⟨R,hR⟩:∃ R,R=runI bs true 0 []:=⟨_,rfl⟩
 rw [<- hR,<- hn] at HVL
 rw [<- hn] at HNX ⊢
 rw [<- hR] at hX
 obtain⟨er,t,q⟩:=R
 have HNX:=kf (HNX.out q)
 obtain⟨N,hN⟩:∃ N,N=nextA bs (q:Nat) true:=⟨_,rfl⟩
 simp only [] at hX
 rw [<- hN] at HNX hX
 obtain⟨er2,tk,tf,tt_,tvk,tvn,tvs,ts⟩:=N
 unfold NxTo tknV at HNX
 unfold ValTI at HVL
 simp only [] at HNX HVL hX
 obtain⟨S6,hS6⟩:∃ S6,S6=sb tvs:=⟨_,rfl⟩
 obtain⟨S7,hS7⟩:∃ S7,S7=sb ts:=⟨_,rfl⟩
 rw [<- hS6,<- hS7] at HNX
 have HX:=kf hX
 have HB0:=kf (Blk.new w 24 #[.int .i64 0,.int .i64 0,.string ⟨#[]⟩,.slice none 0 0])
 have HC0:=kf ((Chg.refl NoS w).alloc (.cells #[.int .i64 0,.int .i64 0,.string ⟨#[]⟩,.slice none 0 0] 24))
 clear hS hb hR hn hS6 hS7 hl hc hX hN HWO
 by_cases he:er=0
 ·subst he
  have HX2:=kf (HX.out.trans (if_neg (fun h=>h rfl)))
  clear HX
  by_cases he2:er2=0
  ·subst he2
   have HX3:=kf (HX2.out.trans (if_neg (fun h=>h rfl)))
   clear HX2
   by_cases hk:tk=0
   ·subst hk
    have HW:Hid (X=(0,t)):=HX3.out.trans (if_neg (fun h=>h rfl))
    clear HX3
    go_enter Tryz.func16,Tryz.ntmps16
    go_upto_region 2 with(go_at_call 34;refine(HVL.out _ HC0.out).mono ?_;rintro e w2 ⟨⟨vk,vn,vs,vA,vl,vc⟩,rfl,hv,hc2⟩;have HV:=kf hv;have HC2:=kf hc2;clear hv hc2;unfold VC.val;simp only [])
    have HB2:=kf ((HB0.out.chg HC2.out (fun e=>e)).alloc (.cells #[.int .i64 vk,.int .i64 vn,.string vs,.slice vA vl vc] 24))
    have HB4:=kf (Blk.new w2 24 #[.int .i64 vk,.int .i64 vn,.string vs,.slice vA vl vc])
    have HC3:=kf ((HC0.out.trans HC2.out (fun _ _ e=>e)).alloc (.cells #[.int .i64 vk,.int .i64 vn,.string vs,.slice vA vl vc] 24))
    have HC23:=kf ((Chg.refl NoS w2).alloc (.cells #[.int .i64 vk,.int .i64 vn,.string vs,.slice vA vl vc] 24))
    obtain⟨W3,hW3⟩:∃ W3,W3=w2.alloc (.cells #[.int .i64 vk,.int .i64 vn,.string vs,.slice vA vl vc] 24):=⟨_,rfl⟩
    obtain⟨g4,hg4⟩:∃ g4,g4=w2.heap.size:=⟨_,rfl⟩
    rw [<- hW3] at HB2 HB4 HC3 HC23 ⊢
    rw [<- hg4] at HB4 ⊢
    obtain⟨g2,hg2⟩:∃ g2,g2=w.heap.size:=⟨_,rfl⟩
    rw [<- hg2] at HB2 ⊢
    have hge2:w.heap.size<=g2:=by omega
    have HG2:=kf (show g2<(w.alloc (.cells #[.int .i64 0,.int .i64 0,.string ⟨#[]⟩,.slice none 0 0] 24)).heap.size by have:=HB0.out.lt;rwa [<- hg2] at this)
    have HN24:=kf (show g2≠g4 by have h1:=HB0.out.lt;have h2:=HC2.out.size;omega)
    clear hW3 hg4 hg2
    go_upto_region 5 with(go_at_call 35;refine(HNX.out _ HC3.out).mono ?_;rintro e w5 ⟨rfl,hc5⟩;have HC5:=kf hc5;clear hc5)
    have HX2:=kf ((HB2.out.chg HC5.out (fun e=>e)).alloc (.cells #[.int .i64 0,.int .i64 (tf:Nat),.int .i64 (tt_:Nat),.int .i64 (tvk:Nat),.int .i64 tvn,.string S6,.slice none 0 0,.string S7] 62))
    have HX4:=kf ((HB4.out.chg HC5.out (fun e=>e)).alloc (.cells #[.int .i64 0,.int .i64 (tf:Nat),.int .i64 (tt_:Nat),.int .i64 (tvk:Nat),.int .i64 tvn,.string S6,.slice none 0 0,.string S7] 62))
    have HX7:=kf (Blk.new w5 62 #[.int .i64 0,.int .i64 (tf:Nat),.int .i64 (tt_:Nat),.int .i64 (tvk:Nat),.int .i64 tvn,.string S6,.slice none 0 0,.string S7])
    have HC6:=kf ((HC3.out.trans HC5.out (fun _ _ e=>e)).alloc (.cells #[.int .i64 0,.int .i64 (tf:Nat),.int .i64 (tt_:Nat),.int .i64 (tvk:Nat),.int .i64 tvn,.string S6,.slice none 0 0,.string S7] 62))
    have HC26:=kf ((HC23.out.trans HC5.out (fun _ _ e=>e)).alloc (.cells #[.int .i64 0,.int .i64 (tf:Nat),.int .i64 (tt_:Nat),.int .i64 (tvk:Nat),.int .i64 tvn,.string S6,.slice none 0 0,.string S7] 62))
    obtain⟨W6,hW6⟩:∃ W6,W6=w5.alloc (.cells #[.int .i64 0,.int .i64 (tf:Nat),.int .i64 (tt_:Nat),.int .i64 (tvk:Nat),.int .i64 tvn,.string S6,.slice none 0 0,.string S7] 62):=⟨_,rfl⟩
    obtain⟨g7,hg7⟩:∃ g7,g7=w5.heap.size:=⟨_,rfl⟩
    rw [<- hW6] at HX2 HX4 HX7 HC6 HC26 ⊢
    rw [<- hg7] at HX7 ⊢
    clear hW6 hg7
    obtain⟨r0,r1,r2,r3,z0,z1,z2,z3⟩:=HX2.out.cl4
    obtain⟨p0,p1,p2,p3,_,_,_,_⟩:=HX4.out.cl4
    obtain⟨q0,q1,q2,q3,q4,q5,q6,q7,_,_,_,_,_,_,_,_⟩:=HX7.out.cl8
    go_wp2_with fail
    refine bodyPost_ret (v:=.tuple #[.agg #[.int .i64 vk,.int .i64 vn,.string vs,.slice vA vl vc],.int .i64 0]) (by simp [results,Tryz.results16,go_sem,r0,r1,r2,r3]) rfl ?_
    exact⟨⟨vk,vn,vs,vA,vl,vc⟩,by rw [HW.out];rfl,by rw [HW.out];exact fun V hV=>HV.out V (((HC26.out.mono (fun _ _ e=>e.elim)).trans (set4_chg W6 g2 _ _ _ _) (fun i _ e=>by rw [e];exact HG2.out)).trans hV (fun i _ e=>Nat.lt_of_lt_of_le e HC0.out.size)),Chg.newc hge2 (Chg.newc hge2 (Chg.newc hge2 (Chg.newc hge2 HC6.out)))⟩
   ·have HW:Hid (X=(11,nilT)):=HX3.out.trans (if_pos hk)
    have e1:((tk:Int)==0)=false:=by simp;omega
    have e2:((tk:Int) != 0)=true:=by simp;omega
    clear HX3 hk
    go_enter Tryz.func16,Tryz.ntmps16
    go_upto_region 2 with(go_at_call 34;refine(HVL.out _ HC0.out).mono ?_;rintro e w2 ⟨⟨vk,vn,vs,vA,vl,vc⟩,rfl,hv,hc2⟩;have HV:=kf hv;have HC2:=kf hc2;clear hv hc2;unfold VC.val;simp only [])
    have HB2:=kf ((HB0.out.chg HC2.out (fun e=>e)).alloc (.cells #[.int .i64 vk,.int .i64 vn,.string vs,.slice vA vl vc] 24))
    have HB4:=kf (Blk.new w2 24 #[.int .i64 vk,.int .i64 vn,.string vs,.slice vA vl vc])
    have HC3:=kf ((HC0.out.trans HC2.out (fun _ _ e=>e)).alloc (.cells #[.int .i64 vk,.int .i64 vn,.string vs,.slice vA vl vc] 24))
    have HC23:=kf ((Chg.refl NoS w2).alloc (.cells #[.int .i64 vk,.int .i64 vn,.string vs,.slice vA vl vc] 24))
    obtain⟨W3,hW3⟩:∃ W3,W3=w2.alloc (.cells #[.int .i64 vk,.int .i64 vn,.string vs,.slice vA vl vc] 24):=⟨_,rfl⟩
    obtain⟨g4,hg4⟩:∃ g4,g4=w2.heap.size:=⟨_,rfl⟩
    rw [<- hW3] at HB2 HB4 HC3 HC23 ⊢
    rw [<- hg4] at HB4 ⊢
    obtain⟨g2,hg2⟩:∃ g2,g2=w.heap.size:=⟨_,rfl⟩
    rw [<- hg2] at HB2 ⊢
    have hge2:w.heap.size<=g2:=by omega
    have HG2:=kf (show g2<(w.alloc (.cells #[.int .i64 0,.int .i64 0,.string ⟨#[]⟩,.slice none 0 0] 24)).heap.size by have:=HB0.out.lt;rwa [<- hg2] at this)
    have HN24:=kf (show g2≠g4 by have h1:=HB0.out.lt;have h2:=HC2.out.size;omega)
    clear hW3 hg4 hg2
    go_upto_region 5 with(go_at_call 35;refine(HNX.out _ HC3.out).mono ?_;rintro e w5 ⟨rfl,hc5⟩;have HC5:=kf hc5;clear hc5)
    have HX2:=kf ((HB2.out.chg HC5.out (fun e=>e)).alloc (.cells #[.int .i64 (tk:Nat),.int .i64 (tf:Nat),.int .i64 (tt_:Nat),.int .i64 (tvk:Nat),.int .i64 tvn,.string S6,.slice none 0 0,.string S7] 62))
    have HX4:=kf ((HB4.out.chg HC5.out (fun e=>e)).alloc (.cells #[.int .i64 (tk:Nat),.int .i64 (tf:Nat),.int .i64 (tt_:Nat),.int .i64 (tvk:Nat),.int .i64 tvn,.string S6,.slice none 0 0,.string S7] 62))
    have HX7:=kf (Blk.new w5 62 #[.int .i64 (tk:Nat),.int .i64 (tf:Nat),.int .i64 (tt_:Nat),.int .i64 (tvk:Nat),.int .i64 tvn,.string S6,.slice none 0 0,.string S7])
    have HC6:=kf ((HC3.out.trans HC5.out (fun _ _ e=>e)).alloc (.cells #[.int .i64 (tk:Nat),.int .i64 (tf:Nat),.int .i64 (tt_:Nat),.int .i64 (tvk:Nat),.int .i64 tvn,.string S6,.slice none 0 0,.string S7] 62))
    have HC26:=kf ((HC23.out.trans HC5.out (fun _ _ e=>e)).alloc (.cells #[.int .i64 (tk:Nat),.int .i64 (tf:Nat),.int .i64 (tt_:Nat),.int .i64 (tvk:Nat),.int .i64 tvn,.string S6,.slice none 0 0,.string S7] 62))
    obtain⟨W6,hW6⟩:∃ W6,W6=w5.alloc (.cells #[.int .i64 (tk:Nat),.int .i64 (tf:Nat),.int .i64 (tt_:Nat),.int .i64 (tvk:Nat),.int .i64 tvn,.string S6,.slice none 0 0,.string S7] 62):=⟨_,rfl⟩
    obtain⟨g7,hg7⟩:∃ g7,g7=w5.heap.size:=⟨_,rfl⟩
    rw [<- hW6] at HX2 HX4 HX7 HC6 HC26 ⊢
    rw [<- hg7] at HX7 ⊢
    clear hW6 hg7
    obtain⟨r0,r1,r2,r3,z0,z1,z2,z3⟩:=HX2.out.cl4
    obtain⟨p0,p1,p2,p3,_,_,_,_⟩:=HX4.out.cl4
    obtain⟨q0,q1,q2,q3,q4,q5,q6,q7,_,_,_,_,_,_,_,_⟩:=HX7.out.cl8
    go_wp2_with fail
    refine bodyPost_ret (v:=.tuple #[.agg #[.int .i64 0,.int .i64 0,.string ⟨#[]⟩,.slice none 0 0],.int .i64 11]) (by simp [results,Tryz.results16,go_sem,r0,r1,r2,r3]) rfl ?_
    exact⟨⟨0,0,⟨#[]⟩,none,0,0⟩,by rw [HW.out];rfl,by rw [HW.out];exact fun V _=>nil_is V,Chg.newc hge2 (Chg.newc hge2 (Chg.newc hge2 (Chg.newc hge2 HC6.out)))⟩
  ·have HW:Hid (X=(er2,nilT)):=HX2.out.trans (if_pos he2)
   have e1:(er2==0)=false:=by simpa using he2
   have e2:(er2 != 0)=true:=by simpa using he2
   clear HX2 he2
   go_enter Tryz.func16,Tryz.ntmps16
   go_upto_region 2 with(go_at_call 34;refine(HVL.out _ HC0.out).mono ?_;rintro e w2 ⟨⟨vk,vn,vs,vA,vl,vc⟩,rfl,hv,hc2⟩;have HV:=kf hv;have HC2:=kf hc2;clear hv hc2;unfold VC.val;simp only [])
   have HB2:=kf ((HB0.out.chg HC2.out (fun e=>e)).alloc (.cells #[.int .i64 vk,.int .i64 vn,.string vs,.slice vA vl vc] 24))
   have HB4:=kf (Blk.new w2 24 #[.int .i64 vk,.int .i64 vn,.string vs,.slice vA vl vc])
   have HC3:=kf ((HC0.out.trans HC2.out (fun _ _ e=>e)).alloc (.cells #[.int .i64 vk,.int .i64 vn,.string vs,.slice vA vl vc] 24))
   have HC23:=kf ((Chg.refl NoS w2).alloc (.cells #[.int .i64 vk,.int .i64 vn,.string vs,.slice vA vl vc] 24))
   obtain⟨W3,hW3⟩:∃ W3,W3=w2.alloc (.cells #[.int .i64 vk,.int .i64 vn,.string vs,.slice vA vl vc] 24):=⟨_,rfl⟩
   obtain⟨g4,hg4⟩:∃ g4,g4=w2.heap.size:=⟨_,rfl⟩
   rw [<- hW3] at HB2 HB4 HC3 HC23 ⊢
   rw [<- hg4] at HB4 ⊢
   obtain⟨g2,hg2⟩:∃ g2,g2=w.heap.size:=⟨_,rfl⟩
   rw [<- hg2] at HB2 ⊢
   have hge2:w.heap.size<=g2:=by omega
   have HG2:=kf (show g2<(w.alloc (.cells #[.int .i64 0,.int .i64 0,.string ⟨#[]⟩,.slice none 0 0] 24)).heap.size by have:=HB0.out.lt;rwa [<- hg2] at this)
   have HN24:=kf (show g2≠g4 by have h1:=HB0.out.lt;have h2:=HC2.out.size;omega)
   clear hW3 hg4 hg2
   go_upto_region 5 with(go_at_call 35;refine(HNX.out _ HC3.out).mono ?_;rintro e w5 ⟨rfl,hc5⟩;have HC5:=kf hc5;clear hc5)
   have HX2:=kf ((HB2.out.chg HC5.out (fun e=>e)).alloc (.cells #[.int .i64 (tk:Nat),.int .i64 (tf:Nat),.int .i64 (tt_:Nat),.int .i64 (tvk:Nat),.int .i64 tvn,.string S6,.slice none 0 0,.string S7] 62))
   have HX4:=kf ((HB4.out.chg HC5.out (fun e=>e)).alloc (.cells #[.int .i64 (tk:Nat),.int .i64 (tf:Nat),.int .i64 (tt_:Nat),.int .i64 (tvk:Nat),.int .i64 tvn,.string S6,.slice none 0 0,.string S7] 62))
   have HX7:=kf (Blk.new w5 62 #[.int .i64 (tk:Nat),.int .i64 (tf:Nat),.int .i64 (tt_:Nat),.int .i64 (tvk:Nat),.int .i64 tvn,.string S6,.slice none 0 0,.string S7])
   have HC6:=kf ((HC3.out.trans HC5.out (fun _ _ e=>e)).alloc (.cells #[.int .i64 (tk:Nat),.int .i64 (tf:Nat),.int .i64 (tt_:Nat),.int .i64 (tvk:Nat),.int .i64 tvn,.string S6,.slice none 0 0,.string S7] 62))
   have HC26:=kf ((HC23.out.trans HC5.out (fun _ _ e=>e)).alloc (.cells #[.int .i64 (tk:Nat),.int .i64 (tf:Nat),.int .i64 (tt_:Nat),.int .i64 (tvk:Nat),.int .i64 tvn,.string S6,.slice none 0 0,.string S7] 62))
   obtain⟨W6,hW6⟩:∃ W6,W6=w5.alloc (.cells #[.int .i64 (tk:Nat),.int .i64 (tf:Nat),.int .i64 (tt_:Nat),.int .i64 (tvk:Nat),.int .i64 tvn,.string S6,.slice none 0 0,.string S7] 62):=⟨_,rfl⟩
   obtain⟨g7,hg7⟩:∃ g7,g7=w5.heap.size:=⟨_,rfl⟩
   rw [<- hW6] at HX2 HX4 HX7 HC6 HC26 ⊢
   rw [<- hg7] at HX7 ⊢
   clear hW6 hg7
   obtain⟨r0,r1,r2,r3,z0,z1,z2,z3⟩:=HX2.out.cl4
   obtain⟨p0,p1,p2,p3,_,_,_,_⟩:=HX4.out.cl4
   obtain⟨q0,q1,q2,q3,q4,q5,q6,q7,_,_,_,_,_,_,_,_⟩:=HX7.out.cl8
   go_wp2_with fail
   refine bodyPost_ret (v:=.tuple #[.agg #[.int .i64 0,.int .i64 0,.string ⟨#[]⟩,.slice none 0 0],.int .i64 er2]) (by simp [results,Tryz.results16,go_sem,r0,r1,r2,r3]) rfl ?_
   exact⟨⟨0,0,⟨#[]⟩,none,0,0⟩,by rw [HW.out];rfl,by rw [HW.out];exact fun V _=>nil_is V,Chg.newc hge2 (Chg.newc hge2 (Chg.newc hge2 (Chg.newc hge2 HC6.out)))⟩
 ·have HW:Hid (X=(er,nilT)):=HX.out.trans (if_pos he)
  have e1:(er==0)=false:=by simpa using he
  have e2:(er != 0)=true:=by simpa using he
  clear HX he
  go_enter Tryz.func16,Tryz.ntmps16
  go_upto_region 2 with(go_at_call 34;refine(HVL.out _ HC0.out).mono ?_;rintro e w2 ⟨⟨vk,vn,vs,vA,vl,vc⟩,rfl,hv,hc2⟩;have HV:=kf hv;have HC2:=kf hc2;clear hv hc2;unfold VC.val;simp only [])
  have HB2:=kf ((HB0.out.chg HC2.out (fun e=>e)).alloc (.cells #[.int .i64 vk,.int .i64 vn,.string vs,.slice vA vl vc] 24))
  have HB4:=kf (Blk.new w2 24 #[.int .i64 vk,.int .i64 vn,.string vs,.slice vA vl vc])
  have HC3:=kf ((HC0.out.trans HC2.out (fun _ _ e=>e)).alloc (.cells #[.int .i64 vk,.int .i64 vn,.string vs,.slice vA vl vc] 24))
  have HC23:=kf ((Chg.refl NoS w2).alloc (.cells #[.int .i64 vk,.int .i64 vn,.string vs,.slice vA vl vc] 24))
  obtain⟨W3,hW3⟩:∃ W3,W3=w2.alloc (.cells #[.int .i64 vk,.int .i64 vn,.string vs,.slice vA vl vc] 24):=⟨_,rfl⟩
  obtain⟨g4,hg4⟩:∃ g4,g4=w2.heap.size:=⟨_,rfl⟩
  rw [<- hW3] at HB2 HB4 HC3 HC23 ⊢
  rw [<- hg4] at HB4 ⊢
  obtain⟨g2,hg2⟩:∃ g2,g2=w.heap.size:=⟨_,rfl⟩
  rw [<- hg2] at HB2 ⊢
  have hge2:w.heap.size<=g2:=by omega
  have HG2:=kf (show g2<(w.alloc (.cells #[.int .i64 0,.int .i64 0,.string ⟨#[]⟩,.slice none 0 0] 24)).heap.size by have:=HB0.out.lt;rwa [<- hg2] at this)
  have HN24:=kf (show g2≠g4 by have h1:=HB0.out.lt;have h2:=HC2.out.size;omega)
  clear hW3 hg4 hg2
  obtain⟨r0,r1,r2,r3,z0,z1,z2,z3⟩:=HB2.out.cl4
  have HC6:=kf HC3.out
  go_wp2_with fail
  refine bodyPost_ret (v:=.tuple #[.agg #[.int .i64 0,.int .i64 0,.string ⟨#[]⟩,.slice none 0 0],.int .i64 er]) (by simp [results,Tryz.results16,go_sem,r0,r1,r2,r3]) rfl ?_
  exact⟨⟨0,0,⟨#[]⟩,none,0,0⟩,by rw [HW.out];rfl,by rw [HW.out];exact fun V _=>nil_is V,Chg.newc hge2 (Chg.newc hge2 (Chg.newc hge2 (Chg.newc hge2 HC6.out)))⟩
theorem whole_form {t:VT} (h:checkT t=0):wholeO (formT t)=(0,t):=by
 obtain⟨h1,h2,_⟩:=form_back h
 have h1:runI (formT t) true 0 []=(0,t,(formT t).length):=h1
 have h3:nextA (formT t) ((formT t).length:Nat) true=(0,noT (formT t).length):=by
  unfold nextA
  rw [if_neg (by omega),Int.toNat_natCast]
  exact h2
 unfold wholeO
 rw [h1]
 simp only []
 rw [h3,if_neg (fun e=>e rfl),if_neg (fun e=>e rfl),if_neg (fun e=>e rfl)]
end Go.Proofs.YtcehpobjnbgpdaaGreatDoor
