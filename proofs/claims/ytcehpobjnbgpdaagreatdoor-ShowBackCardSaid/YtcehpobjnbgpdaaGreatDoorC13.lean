/- Merged by program. -/
import Derived.Test.YtcehpobjnbgpdaaGreatDoorC05
set_option linter.unusedVariables false
set_option linter.unusedSimpArgs false
namespace Go.Proofs.YtcehpobjnbgpdaaGreatDoor
open Go.RowKit
end Go.Proofs.YtcehpobjnbgpdaaGreatDoor
namespace Go.Proofs.YtcehpobjnbgpdaaGreatDoor.ro
open Go.RowKit
class LBox where
 O:Nat->Prop
variable [LBox]
def KV (w:World) (t:VT) (e:VC):Prop:=∀ V,Chg LBox.O w V->ValIs V t e
theorem KV.now {w:World} {t:VT} {e:VC} (h:KV w t e):ValIs w t e:=h w (Chg.refl _ w)
theorem KV.chg {w V:World} {t:VT} {e:VC} (h:KV w t e) (hc:Chg LBox.O w V):KV V t e:=fun V' h'=>h V' (hc.trans h' (fun _ _ e=>e))
theorem KV.call {w V:World} {t:VT} {e:VC} (h:KV w t e) (hc:Chg NoS w V):KV V t e:=h.chg (hc.mono (fun _ _ e=>e.elim))
theorem nm_is (w:World) (key:ByteArray) (hk:key.size<=maxLen):KV w (nmT key) ⟨5,0,key,none,0,0⟩:=fun V _=>Go.Proofs.YtcehpobjnbgpdaaGreatDoor.nm_is V key hk
def KRow (w:World) (A:Option Addr) (l:List VT):Prop:=∀ (j:Nat) (t:VT),l[j]?=some t->∃ (ad:Addr) (e:VC),A=some ad/\(∀ i,i<4->w.cell? (ad.add (j*4+i))=e.cells[i]?)/\KV w t e
structure RowK (w:World) (A:Option Addr) (l:List VT):Prop where
 r:RowIs w A 0 l
 k:KRow w A l
theorem RowK.start {w:World} {A:Option Addr} {t:VT} {l:List VT} (h:RowK w A (t::l)):∃ b off,A=some ⟨b,off,none⟩:=h.r.start
theorem el_at {w:World} {b off q:Nat} {l:List VT} {t:VT} (h:RowK w (some ⟨b,off,none⟩) l) (ht:l[q]?=some t):∃ (eA:Option Addr) (el ec:Nat),KV w t ⟨t.kind,t.num,t.str,eA,el,ec⟩ /\
  ∀ W,Chg NoS w W->W.cell? ⟨b,off+q*4,none⟩=some (.int .i64 t.kind)/\W.cell? ⟨b,off+q*4+1,none⟩=some (.int .i64 t.num)/\W.cell? ⟨b,off+q*4+2,none⟩=some (.string t.str)/\W.cell? ⟨b,off+q*4+3,none⟩=some (.slice eA el ec):=by
 obtain⟨fA,fl,fc,hv,hcell⟩:=Go.Proofs.YtcehpobjnbgpdaaGreatDoor.el_at h.r ht
 obtain⟨ad,⟨ek,en,es,eA,el,ec⟩,had,hc,hk⟩:=h.k q t ht
 obtain⟨c0,c1,c2,c3⟩:=hcell w (Chg.refl NoS w)
 cases had
 have hadd:∀ i,(⟨b,off,none⟩:Addr).add i=⟨b,off+i,none⟩:=fun i=>by unfold Addr.add;split<;>simp_all
 have d0:=hc 0 (by decide)
 have d1:=hc 1 (by decide)
 have d2:=hc 2 (by decide)
 have d3:=hc 3 (by decide)
 rw [hadd] at d0 d1 d2 d3
 simp only [<- Nat.add_assoc,Nat.add_zero] at d0 d1 d2 d3
 rw [c0] at d0
 rw [c1] at d1
 rw [c2] at d2
 rw [c3] at d3
 simp [VC.cells] at d0 d1 d2 d3
 obtain⟨rfl,rfl,rfl⟩:=d3
 subst d0 d1 d2
 exact⟨_,_,_,hk,hcell⟩
structure GV (w wr:World) (es:List VC) (ts:List VT) (n:Nat) (A:Option Addr) (c:Nat):Prop where
 own:wr.ownsRow 0 24 4 (.slice A n c) n (vcells es)
 chg:Chg NoS w wr
 new:∀ a,A=some a->w.heap.size<=a.block
 len:es.length=n
 tlen:ts.length=n
 is:∀ (j:Nat) (t:VT) (e:VC),ts[j]?=some t->es[j]?=some e->KV w t e
theorem GV.start {w wr:World} (h:Chg NoS w wr):GV w wr [] [] 0 none 0:=⟨own_nil wr 0 _ 4,h,fun _ h=>(by cases h),rfl,rfl,fun j t e h=>(by simp at h)⟩
theorem GV.call {w wr w2:World} {es:List VC} {ts:List VT} {n c:Nat} {A:Option Addr} (h:GV w wr es ts n A c) (hc:Chg NoS wr w2):GV w w2 es ts n A c :=
 ⟨own_chg (S:=NoS) h.own hc (fun _ _ e=>e),h.chg.trans hc (fun _ _ e=>e),h.new,h.len,h.tlen,h.is⟩
theorem GV.far {w wr:World} {es:List VC} {ts:List VT} {n c g:Nat} {A:Option Addr} (h:GV w wr es ts n A c) (hne:(Value.slice A n c).ownBlock≠some g) (hg:w.heap.size<=g) (i:Nat) (u:Value):GV w (wr.setCell ⟨g,i,none⟩ u) es ts n A c :=
 ⟨own_chg (S:=fun x=>x=g) h.own (Chg.setCell (S:=fun x=>x=g) (Chg.refl (fun x=>x=g) wr) (p:=⟨g,i,none⟩) (fun _=>rfl) u) (fun g' hg' e=>hne (by rw [hg',e])),h.chg.setCell (p:=⟨g,i,none⟩) (fun h2=>absurd h2 (Nat.not_lt.2 hg)) u,h.new,h.len,h.tlen,h.is⟩
theorem GV.good {w wr:World} {es:List VC} {ts:List VT} {n c:Nat} {A:Option Addr} (h:GV w wr es ts n A c) (hn:n<=maxLen):(A=none->n=0/\c=0)/\n<=c:=by
 rcases h.own.2 with⟨h1,h0⟩|⟨g',cap,cur,h1,hb,hh,h2,h3,_⟩
 ·simp only [Value.slice.injEq] at h1
  obtain⟨rfl,_,rfl⟩:=h1
  exact⟨fun _=>⟨h0,rfl⟩,by omega⟩
 ·simp only [Value.slice.injEq] at h1
  obtain⟨rfl,_,rfl⟩:=h1
  exact⟨fun e=>(by cases e),h2⟩
theorem appV {w wr W:World} {ops:Array Oper} {rest:List Oper} {o:Oper} {a:Act} {Q:Exit->Act->World->Prop} {es new:List VC} {ts tn:List VT} {n c m cx:Nat} {A X:Option Addr} (hgd:o.guard=none) (s x:Operand)
  (ho:o.op=.call { callee:=.builtin .append,args:=#[s,x],argTypes:=#[22,22] }) (hs:a.eval s=.slice A n c) (hx:a.eval x=.slice X m cx)
  (h:GV w wr es ts n A c) (hc:Chg NoS wr W) (hn:n<=2000000000) (hm:m<=2000000000) (hsrc:Src W 4 X m cx (vcells new)) (hlen:new.length=m) (htl:tn.length=m) (his:∀ (j:Nat) (t:VT) (e:VC),tn[j]?=some t->new[j]?=some e->KV w t e)
  (k:∀ A3 c3 w',GV w w' (es++new) (ts++tn) (n+m) A3 c3->(∀ (g:Nat) (T:TypeId) (cs:Array Value),Blk W g T cs->(Value.slice A n c).ownBlock≠some g->Blk w' g T cs/\(Value.slice A3 (n+m) c3).ownBlock≠some g)->wpList Tryz.prog ops Q rest (a.put o.dst (.slice A3 (n+m) c3)) w') :
  wpList Tryz.prog ops Q (o::rest) a W:=by
 obtain⟨i0,hi,hz0,hz1,hz2⟩:=info_partsV info_VC
 refine wpList_append_src hgd s x 22 ho 24 i0 _ 4 56 Tryz.underlying22 hi hz0 hz1 hz2 rfl (by decide) (.slice A n c) n (vcells es) hs (own_chg (S:=NoS) h.own hc (fun _ _ e=>e)) X m cx (vcells new) hx hsrc (vcells_cell _) (by unfold maxLen;omega) (by omega) ?_
 intro S2 w4 hown4 hgr4 hat4
 obtain⟨A4,c4,rfl,hA4⟩:=own_slice hown4
 refine k A4 c4 w4 ⟨by rw [vcells_app];exact hown4,?_,?_,by rw [List.length_append,h.len,hlen],by rw [List.length_append,h.tlen,htl],fun j t e ht he=>?_⟩ (fun g T cs hb hne=>⟨hb.grown hgr4 (fun e=>hne e.symm),fun e=>?_⟩)
 ·refine(h.chg.trans hc (fun _ _ e=>e)).grown hgr4 (fun kk e hk=>?_)
  rcases A with _|b
  ·simp [Value.ownBlock] at e
  ·have e2:b.block=kk:=by simpa [Value.ownBlock] using e
   have:=h.new b rfl
   omega
 ·rintro b rfl
  have hsz:=h.chg.size
  have hsz2:=hc.size
  rcases hat4 with e|e
  ·rcases A with _|d
   ·simp [Value.ownBlock] at e
   ·have e2:b.block=d.block:=by simpa [Value.ownBlock] using e
    rw [e2]
    exact h.new d rfl
  ·have e2:b.block=W.heap.size:=by simpa [Value.ownBlock] using e
   omega
 ·by_cases hj:j<n
  ·rw [List.getElem?_append_left (by rw [h.tlen];exact hj)] at ht
   rw [List.getElem?_append_left (by rw [h.len];exact hj)] at he
   exact h.is j t e ht he
  ·rw [List.getElem?_append_right (by rw [h.tlen];omega),h.tlen] at ht
   rw [List.getElem?_append_right (by rw [h.len];omega),h.len] at he
   exact his _ t e ht he
 ·rcases hat4 with h2|h2
  ·exact hne (h2.symm.trans e)
  ·have h3:=hb.lt
   rw [h2] at e
   cases e
   exact absurd h3 (Nat.lt_irrefl _)
structure PS (w W:World) (g gx go:Nat) (cv cx cz:Array Value) (es:List VC) (ts:List VT) (m:Nat) (A:Option Addr) (c:Nat):Prop where
 bv:PB w W g cv
 bx:PB w W gx cx
 bo:PB w W go cz
 gv:GV w W es ts m A c
 nv:(Value.slice A m c).ownBlock≠some g
 nx:(Value.slice A m c).ownBlock≠some gx
 no:(Value.slice A m c).ownBlock≠some go
theorem PS.app {w W W':World} {g gx go:Nat} {cv cx cz:Array Value} {es es':List VC} {ts ts':List VT} {m m' c c':Nat} {A A':Option Addr} (h:PS w W g gx go cv cx cz es ts m A c) (o:Obj) (hg:GV w W' es' ts' m' A' c')
  (hk:∀ (g:Nat) (T:TypeId) (cs:Array Value),Blk (W.alloc o) g T cs->(Value.slice A m c).ownBlock≠some g->Blk W' g T cs/\(Value.slice A' m' c').ownBlock≠some g):PS w W' g gx go cv cx cz es' ts' m' A' c' :=
 ⟨((h.bv.alloc o).kept hk h.nv).1,((h.bx.alloc o).kept hk h.nx).1,((h.bo.alloc o).kept hk h.no).1,hg,((h.bv.alloc o).kept hk h.nv).2,((h.bx.alloc o).kept hk h.nx).2,((h.bo.alloc o).kept hk h.no).2⟩
theorem PS.call {w W W':World} {g gx go:Nat} {cv cx cz:Array Value} {es:List VC} {ts:List VT} {m c:Nat} {A:Option Addr} (h:PS w W g gx go cv cx cz es ts m A c) (hc:Chg NoS W W'):PS w W' g gx go cv cx cz es ts m A c :=
 ⟨h.bv.call hc,h.bx.call hc,h.bo.call hc,h.gv.call hc,h.nv,h.nx,h.no⟩
theorem is_one {w:World} {t:VT} {e:VC} (h:KV w t e):∀ (j:Nat) (t':VT) (e':VC),[t][j]?=some t'->[e][j]?=some e'->KV w t' e':=by
 intro j t' e' h1 h2
 cases j with
 |zero=>simp at h1 h2;subst h1 h2;exact h
 |succ j=>simp at h1
theorem is_two {w:World} {t u:VT} {e f:VC} (h:KV w t e) (k:KV w u f):∀ (j:Nat) (t':VT) (e':VC),[t,u][j]?=some t'->[e,f][j]?=some e'->KV w t' e':=by
 intro j t' e' h1 h2
 match j with
 |0=>simp at h1 h2;subst h1 h2;exact h
 |1=>simp at h1 h2;subst h1 h2;exact k
 |j+2=>simp at h1
def PutTo (w:World) (n:Int) (s:ByteArray) (L:List VT) (e:Ending) (w':World):Prop:=∃ (es:List VC) (m:Nat) (A:Option Addr) (c:Nat),e=.returned (.agg #[.int .i64 7,.int .i64 n,.string s,.slice A m c])/\GV w w' es L m A c/\m<=maxLen/\(-9223372036854775808<=n/\n<=9223372036854775807)/\s.size<=maxLen/\Chg NoS w w'
set_option maxHeartbeats 8000000 in
set_option maxRecDepth 100000 in
theorem kput_none (c cx:VC) (l:List VT) (tx:VT) (key:ByteArray) (w:World) (hv:ValIs w (.mk c.k c.n c.s l) c) (hvx:KV w tx cx) (hkr:KRow w c.A l) (hsz:sizL l<=1000000000) (hkey:key.size<=maxLen) (h7:c.k=7) (hf:findL key l=none) :
  Calls Tryz.prog 135 #[c.val,.string key,cx.val] w (PutTo w c.n c.s (putL key tx l)):=by
 obtain⟨_,_,_,hg,hl,hr⟩:=hv.inv
 have HF:=kf (fun W (h:ValIs W (.mk c.k c.n c.s l) c)=>rfind_any c l key W h hsz)
 have HV:=kf hv
 have HVX:=kf hvx
 have HNM:=kf (nm_is w key hkey)
 have HGD:=kf hg
 obtain⟨k,n,s,A,len,cap⟩:=c
 obtain⟨xk,xn,xs,xA,xl,xc⟩:=cx
 simp only [] at hl hr hkr
 have hcap:=hg.cap
 simp only [] at hcap
 have hl9:len<=1000000000:=by have:=sizL_len l;omega
 have HL:=kf hl
 have HR:=kf (⟨hr,hkr⟩:RowK w A l)
 unfold VC.val at HF
 simp only [] at HF HV HVX h7 ⊢
 show Calls Tryz.prog 135 #[.agg #[.int .i64 k,.int .i64 n,.string s,.slice A len cap],.string key,.agg #[.int .i64 xk,.int .i64 xn,.string xs,.slice xA xl xc]] w _
 have HS0:=kf (⟨⟨((Blk.new w 24 #[.int .i64 k,.int .i64 n,.string s,.slice A len cap]).alloc (.cells #[.int .i64 xk,.int .i64 xn,.string xs,.slice xA xl xc] 24)).alloc (.cells #[.int .i64 0,.int .i64 0,.string ⟨#[]⟩,.slice none 0 0] 24),Nat.le_refl _⟩,
  ⟨(Blk.new (w.alloc (.cells #[.int .i64 k,.int .i64 n,.string s,.slice A len cap] 24)) 24 #[.int .i64 xk,.int .i64 xn,.string xs,.slice xA xl xc]).alloc (.cells #[.int .i64 0,.int .i64 0,.string ⟨#[]⟩,.slice none 0 0] 24),by simp⟩,
  ⟨Blk.new ((w.alloc (.cells #[.int .i64 k,.int .i64 n,.string s,.slice A len cap] 24)).alloc (.cells #[.int .i64 xk,.int .i64 xn,.string xs,.slice xA xl xc] 24)) 24 #[.int .i64 0,.int .i64 0,.string ⟨#[]⟩,.slice none 0 0],by simp;omega⟩,GV.start (((Chg.refl NoS w).alloc _).alloc _ |>.alloc _),fun e=>(by cases e),fun e=>(by cases e),fun e=>(by cases e)⟩:PS w _ w.heap.size _ _ _ _ _ [] [] 0 none 0)
 have hs1:(w.alloc (.cells #[.int .i64 k,.int .i64 n,.string s,.slice A len cap] 24)).heap.size=w.heap.size+1:=by simp
 have hs2:((w.alloc (.cells #[.int .i64 k,.int .i64 n,.string s,.slice A len cap] 24)).alloc (.cells #[.int .i64 xk,.int .i64 xn,.string xs,.slice xA xl xc] 24)).heap.size=w.heap.size+1+1:=by simp
 rw [hs1,hs2] at HS0
 obtain⟨W0,hW⟩:∃ W,W=((w.alloc (.cells #[.int .i64 k,.int .i64 n,.string s,.slice A len cap] 24)).alloc (.cells #[.int .i64 xk,.int .i64 xn,.string xs,.slice xA xl xc] 24)).alloc (.cells #[.int .i64 0,.int .i64 0,.string ⟨#[]⟩,.slice none 0 0] 24):=⟨_,rfl⟩
 rw [<- hW] at HS0
 obtain⟨g,hg1⟩:∃ g,g=w.heap.size:=⟨_,rfl⟩
 obtain⟨gx,hg2⟩:∃ g,g=w.heap.size+1:=⟨_,rfl⟩
 obtain⟨go,hg3⟩:∃ g,g=w.heap.size+1+1:=⟨_,rfl⟩
 rw [<- hg3,<- hg2,<- hg1] at HS0
 have HNE:Hid (g≠go/\g≠gx/\gx≠go):=⟨by omega,by omega,by omega⟩
 subst h7
 have HFI:=kf (show findI 7 l key=(match findL key l with|some j=>((2*j:Nat):Int)|none=>-1) from if_pos rfl)
 rw [hf] at HFI
 simp only [] at HFI
 rw [HFI.out] at HF
 have HE:=kf (put_7 (n:=n) (s:=s) (key:=key) (x:=tx) (l:=l))
 have hpl:=putL_len key tx l
 rw [hl] at hpl
 have HPL:=kf hpl
 obtain⟨L,hL⟩:∃ L,L=putL key tx l:=⟨_,rfl⟩
 rw [<- hL] at HE HPL
 have HLL:=kf hL
 have HLN:=kf (show L=insL key tx l from by rw [HLL.out];unfold putL;rw [hf])
 clear hv hvx hg hr hkr hsz hkey hpl hL hl hf
 go_enter Tryz.func135,Tryz.ntmps135
 go_upto_region 1 with fail
 rw [<- hW,<- hg3,<- hg2,<- hg1]
 clear hW hg1 hg2 hg3 hs1 hs2
 have p0:=HS0.out.bv.blk.cell 0
 have p1:=HS0.out.bv.blk.cell 1
 have p2:=HS0.out.bv.blk.cell 2
 have p3:=HS0.out.bv.blk.cell 3
 simp at p0 p1 p2 p3
 go_upto_region 7 with(go_at_call 134;refine(HF.out _ (HV.out.chg HS0.out.gv.chg)).mono ?_;rintro e w2 ⟨rfl,hc2⟩;have HS2:=kf (HS0.out.call hc2);clear hc2)
 clear p0 p1 p2 p3 HS0 HF
 have mm:(-1:Int)<0:=by decide
 go_loopw [7,9,10] (fun vo vd vk wr=>∃ (k m c2:Nat) (done:Bool) (A2:Option Addr) (es:List VC) (ts:List VT),k<=len+1/\m<=k+2/\vo=.slice A2 m c2/\vd=.bool done/\vk=.int .i64 (k:Nat)/\Hid (PS w wr g gx go #[.int .i64 7,.int .i64 n,.string s,.slice A len cap] #[.int .i64 xk,.int .i64 xn,.string xs,.slice xA xl xc] #[.int .i64 0,.int .i64 0,.string ⟨#[]⟩,.slice none 0 0] es ts m A2 c2/\L=ts++leftL key tx done (l.drop k)/\(done=false->m<=k)/\(len<=k->k=len\/k=len+1))) (fun _ _ vk _=>len+1-(intOf vk).toNat)
 case atStart=>exact⟨0,0,0,false,none,[],[],by omega,by omega,rfl,rfl,by go_num,kf ⟨HS2.out,by rw [HLN.out];rfl,fun _=>Nat.le_refl _,fun h=>.inl (by omega)⟩⟩
 case round =>
  obtain⟨k,m,c2,done,A2,es,ts,hk,hm,rfl,rfl,rfl,HI⟩:=hrel
  have p0:=HI.out.1.bv.blk.cell 0
  have x0:=HI.out.1.bx.blk.cell 0
  have p1:=HI.out.1.bv.blk.cell 1
  have x1:=HI.out.1.bx.blk.cell 1
  have p2:=HI.out.1.bv.blk.cell 2
  have x2:=HI.out.1.bx.blk.cell 2
  have p3:=HI.out.1.bv.blk.cell 3
  have x3:=HI.out.1.bx.blk.cell 3
  simp at p0 p1 p2 p3 x0 x1 x2 x3
  by_cases h1:k<len
  ·obtain⟨t,ht,hd⟩:=drop_vt (l:=l) (k:=k) (by rw [HL.out];exact h1)
   obtain⟨b,off,rfl⟩:∃ b off,A=some ⟨b,off,none⟩:=by
    have h:=HR.out
    cases hll:l with
    |nil=>rw [hll] at ht;simp at ht
    |cons t0 l0=>rw [hll] at h;exact h.start
   obtain⟨eA,el,ec,hve,hce⟩:=el_at HR.out ht
   obtain⟨c0,c1,c2,c3⟩:=hce _ HI.out.1.gv.chg
   have HCE:=kf hce
   have HVE:=kf hve
   have i1:(k:Int)<len:=by omega
   obtain⟨tk,htk⟩:∃ tk,t.kind=tk:=⟨_,rfl⟩
   obtain⟨tn,htn⟩:∃ tn,t.num=tn:=⟨_,rfl⟩
   obtain⟨tss,hts⟩:∃ ts,t.str=ts:=⟨_,rfl⟩
   rw [htk] at c0 HCE HVE
   rw [htn] at c1 HCE HVE
   rw [hts] at c2 HCE HVE
   have HD:=kf hd
   have HT:=kf ht
   clear hve hce
   have hkw:IntKind.i64.wrap ((k:Int)+2)=(k:Int)+2:=by rw [IntKind.wrap_i64];omega
   have hneg:((k:Int)==-1)=false:=by first|(simp;done)|(simp;omega)
   cases done
   ·by_cases h5:tk=5
    ·subst h5
     by_cases hgt:Op.bytesLess key.toList tss.toList=true
     ·have HGT:=kf (show gtT key t from⟨htk,by rw [hts];exact hgt⟩)
      have f1:(Op.bytesLess tss.toList key.toList || tss.toList==key.toList)=false:=by rw [less_leq,hgt];rfl
      clear htk htn hts hd ht hgt
      by_cases hmore:k+1<len
      ·obtain⟨u,hu⟩:∃ u,u=k+1:=⟨_,rfl⟩
       have hul:u<len:=by omega
       have HU:=kf hu
       have e1:(k:Int)+1=(u:Int):=by omega
       have k1:IntKind.i64.wrap (u:Int)=(u:Int):=by rw [IntKind.wrap_i64];omega
       have i2:(u:Int)<len:=by omega
       obtain⟨t2,ht2,hd2⟩:=drop_vt (l:=l) (k:=u) (by rw [HL.out];exact hul)
       obtain⟨fA,fl,fc,hvf,hcf⟩:=el_at HR.out ht2
       obtain⟨uk,huk⟩:∃ tk,t2.kind=tk:=⟨_,rfl⟩
       obtain⟨un,hun⟩:∃ tn,t2.num=tn:=⟨_,rfl⟩
       obtain⟨us,hus⟩:∃ ts,t2.str=ts:=⟨_,rfl⟩
       rw [huk,hun,hus] at hvf
       rw [huk,hun,hus] at hcf
       have HCF:=kf hcf
       have HVF:=kf hvf
       have HD2:=kf hd2
       have HT2:=kf ht2
       clear hvf hcf hd2 ht2 hu huk hun hus
       have HP0:=kf HI.out.1
       go_wp2_with first
        |(at_builtin;refine appV (w:=w) (new:=[⟨5,0,key,none,0,0⟩,⟨xk,xn,xs,xA,xl,xc⟩]) (tn:=[nmT key,tx]) rfl (.tmp 50) (.tmp 54) rfl rfl rfl HP0.out.gv ((Chg.refl _ _).alloc _) (by first|omega|(simp only [List.length_cons,List.length_nil];omega)) (by first|omega|(simp only [List.length_cons,List.length_nil];omega)) (src_new _ _ [⟨5,0,key,none,0,0⟩,⟨xk,xn,xs,xA,xl,xc⟩] _ rfl _ _ rfl) rfl rfl (is_two HNM.out HVX.out) ?_;intro A1 cc1 w1 hg1 hk1;have HP1:=kf (HP0.out.app _ hg1 hk1);clear hg1 hk1;have p3:=HP1.out.bv.blk.cell 3;simp at p3;obtain⟨c0,c1,c2,c3⟩:=HCE.out _ HP1.out.gv.chg)
        |(at_builtin;refine appV (w:=w) (new:=[⟨5,tn,tss,eA,el,ec⟩]) (tn:=[t]) rfl (.tmp 56) (.tmp 62) rfl rfl rfl HP1.out.gv ((Chg.refl _ _).alloc _) (by first|omega|(simp only [List.length_cons,List.length_nil];omega)) (by first|omega|(simp only [List.length_cons,List.length_nil];omega)) (src_new _ _ [⟨5,tn,tss,eA,el,ec⟩] _ rfl _ _ rfl) rfl rfl (is_one HVE.out) ?_;intro A2 cc2 w2 hg2 hk2;have HP2:=kf (HP1.out.app _ hg2 hk2);clear hg2 hk2;have p3:=HP2.out.bv.blk.cell 3;have x0:=HP2.out.bx.blk.cell 0;have x1:=HP2.out.bx.blk.cell 1;have x2:=HP2.out.bx.blk.cell 2;have x3:=HP2.out.bx.blk.cell 3;simp at p3 x0 x1 x2 x3;obtain⟨f0,f1,f2,f3⟩:=HCF.out _ HP2.out.gv.chg)
        |(at_builtin;refine appV (w:=w) (new:=[⟨uk,un,us,fA,fl,fc⟩]) (tn:=[t2]) rfl (.tmp 77) (.tmp 84) rfl rfl rfl HP2.out.gv ((Chg.refl _ _).alloc _) (by first|omega|(simp only [List.length_cons,List.length_nil];omega)) (by first|omega|(simp only [List.length_cons,List.length_nil];omega)) (src_new _ _ [⟨uk,un,us,fA,fl,fc⟩] _ rfl _ _ rfl) rfl rfl (is_one HVF.out) ?_;intro A3 cc3 w3 hg3 hk3;have HP3:=kf (HP2.out.app _ hg3 hk3);clear hg3 hk3)
       go_roundw
       case rel=>exact⟨k+2,(((m+2)+1)+1),cc3,true,A3,_,(((ts++[nmT key,tx])++[t])++[t2]),by omega,by have:=HI.out.2.2.1;have h8:=this rfl;omega,rfl,rfl,by go_num,kf ⟨HP3.out,by rw [HI.out.2.1,HD.out,left_gt HGT.out,left_done];rw [<- HU.out,HD2.out,HU.out];simp,fun h=>by(cases h),fun _=>by omega⟩⟩
       case measure=>simp [intOf];omega
      ·have hul:k+1=len:=by omega
       have HZ1:=kf (show l.drop (k+1)=[] from List.drop_of_length_le (by rw [HL.out];omega))
       have HZ2:=kf (show l.drop (k+2)=[] from List.drop_of_length_le (by rw [HL.out];omega))
       have e1:¬(k:Int)+1<len:=by omega
       have d3:decide ((k:Int)+1<len)=false:=by simp;omega
       have k1:IntKind.i64.wrap ((k:Int)+1)=(k:Int)+1:=by rw [IntKind.wrap_i64];omega
       have HP0:=kf HI.out.1
       go_wp2_with first
        |(at_builtin;refine appV (w:=w) (new:=[⟨5,0,key,none,0,0⟩,⟨xk,xn,xs,xA,xl,xc⟩]) (tn:=[nmT key,tx]) rfl (.tmp 50) (.tmp 54) rfl rfl rfl HP0.out.gv ((Chg.refl _ _).alloc _) (by first|omega|(simp only [List.length_cons,List.length_nil];omega)) (by first|omega|(simp only [List.length_cons,List.length_nil];omega)) (src_new _ _ [⟨5,0,key,none,0,0⟩,⟨xk,xn,xs,xA,xl,xc⟩] _ rfl _ _ rfl) rfl rfl (is_two HNM.out HVX.out) ?_;intro A1 cc1 w1 hg1 hk1;have HP1:=kf (HP0.out.app _ hg1 hk1);clear hg1 hk1;have p3:=HP1.out.bv.blk.cell 3;simp at p3;obtain⟨c0,c1,c2,c3⟩:=HCE.out _ HP1.out.gv.chg)
        |(at_builtin;refine appV (w:=w) (new:=[⟨5,tn,tss,eA,el,ec⟩]) (tn:=[t]) rfl (.tmp 56) (.tmp 62) rfl rfl rfl HP1.out.gv ((Chg.refl _ _).alloc _) (by first|omega|(simp only [List.length_cons,List.length_nil];omega)) (by first|omega|(simp only [List.length_cons,List.length_nil];omega)) (src_new _ _ [⟨5,tn,tss,eA,el,ec⟩] _ rfl _ _ rfl) rfl rfl (is_one HVE.out) ?_;intro A2 cc2 w2 hg2 hk2;have HP2:=kf (HP1.out.app _ hg2 hk2);clear hg2 hk2;have p3:=HP2.out.bv.blk.cell 3;have x0:=HP2.out.bx.blk.cell 0;have x1:=HP2.out.bx.blk.cell 1;have x2:=HP2.out.bx.blk.cell 2;have x3:=HP2.out.bx.blk.cell 3;simp at p3 x0 x1 x2 x3)
       go_roundw
       case rel=>exact⟨k+2,((m+2)+1),cc2,true,A2,_,((ts++[nmT key,tx])++[t]),by omega,by have:=HI.out.2.2.1;have h8:=this rfl;omega,rfl,rfl,by go_num,kf ⟨HP2.out,by rw [HI.out.2.1,HD.out,left_gt HGT.out,left_done];rw [HZ1.out,HZ2.out];simp,fun h=>by(cases h),fun _=>by omega⟩⟩
       case measure=>simp [intOf];omega
     ·have HGT:=kf (show ¬gtT key t from fun h=>hgt (by rw [<- hts];exact h.2))
      have hgf:Op.bytesLess key.toList tss.toList=false:=by simpa using hgt
      have f1:(Op.bytesLess tss.toList key.toList || tss.toList==key.toList)=true:=by rw [less_leq,hgf];rfl
      clear hgf htk htn hts hd ht hgt
      by_cases hmore:k+1<len
      ·obtain⟨u,hu⟩:∃ u,u=k+1:=⟨_,rfl⟩
       have hul:u<len:=by omega
       have HU:=kf hu
       have e1:(k:Int)+1=(u:Int):=by omega
       have k1:IntKind.i64.wrap (u:Int)=(u:Int):=by rw [IntKind.wrap_i64];omega
       have i2:(u:Int)<len:=by omega
       obtain⟨t2,ht2,hd2⟩:=drop_vt (l:=l) (k:=u) (by rw [HL.out];exact hul)
       obtain⟨fA,fl,fc,hvf,hcf⟩:=el_at HR.out ht2
       obtain⟨uk,huk⟩:∃ tk,t2.kind=tk:=⟨_,rfl⟩
       obtain⟨un,hun⟩:∃ tn,t2.num=tn:=⟨_,rfl⟩
       obtain⟨us,hus⟩:∃ ts,t2.str=ts:=⟨_,rfl⟩
       rw [huk,hun,hus] at hvf
       rw [huk,hun,hus] at hcf
       have HCF:=kf hcf
       have HVF:=kf hvf
       have HD2:=kf hd2
       have HT2:=kf ht2
       clear hvf hcf hd2 ht2 hu huk hun hus
       have HP0:=kf HI.out.1
       go_wp2_with first
        |(at_builtin;refine appV (w:=w) (new:=[⟨5,tn,tss,eA,el,ec⟩]) (tn:=[t]) rfl (.tmp 56) (.tmp 62) rfl rfl rfl HP0.out.gv ((Chg.refl _ _).alloc _) (by first|omega|(simp only [List.length_cons,List.length_nil];omega)) (by first|omega|(simp only [List.length_cons,List.length_nil];omega)) (src_new _ _ [⟨5,tn,tss,eA,el,ec⟩] _ rfl _ _ rfl) rfl rfl (is_one HVE.out) ?_;intro A2 cc2 w2 hg2 hk2;have HP2:=kf (HP0.out.app _ hg2 hk2);clear hg2 hk2;have p3:=HP2.out.bv.blk.cell 3;have x0:=HP2.out.bx.blk.cell 0;have x1:=HP2.out.bx.blk.cell 1;have x2:=HP2.out.bx.blk.cell 2;have x3:=HP2.out.bx.blk.cell 3;simp at p3 x0 x1 x2 x3;obtain⟨f0,f1,f2,f3⟩:=HCF.out _ HP2.out.gv.chg)
        |(at_builtin;refine appV (w:=w) (new:=[⟨uk,un,us,fA,fl,fc⟩]) (tn:=[t2]) rfl (.tmp 77) (.tmp 84) rfl rfl rfl HP2.out.gv ((Chg.refl _ _).alloc _) (by first|omega|(simp only [List.length_cons,List.length_nil];omega)) (by first|omega|(simp only [List.length_cons,List.length_nil];omega)) (src_new _ _ [⟨uk,un,us,fA,fl,fc⟩] _ rfl _ _ rfl) rfl rfl (is_one HVF.out) ?_;intro A3 cc3 w3 hg3 hk3;have HP3:=kf (HP2.out.app _ hg3 hk3);clear hg3 hk3)
       go_roundw
       case rel=>exact⟨k+2,((m+1)+1),cc3,false,A3,_,((ts++[t])++[t2]),by omega,by have:=HI.out.2.2.1;omega,rfl,rfl,by go_num,kf ⟨HP3.out,by rw [HI.out.2.1,HD.out,left_le HGT.out];rw [<- HU.out,HD2.out,HU.out];simp,fun h=>by(have:=HI.out.2.2.1 rfl;omega),fun _=>by omega⟩⟩
       case measure=>simp [intOf];omega
      ·have hul:k+1=len:=by omega
       have HZ1:=kf (show l.drop (k+1)=[] from List.drop_of_length_le (by rw [HL.out];omega))
       have HZ2:=kf (show l.drop (k+2)=[] from List.drop_of_length_le (by rw [HL.out];omega))
       have e1:¬(k:Int)+1<len:=by omega
       have d3:decide ((k:Int)+1<len)=false:=by simp;omega
       have k1:IntKind.i64.wrap ((k:Int)+1)=(k:Int)+1:=by rw [IntKind.wrap_i64];omega
       have HP0:=kf HI.out.1
       go_wp2_with first
        |(at_builtin;refine appV (w:=w) (new:=[⟨5,tn,tss,eA,el,ec⟩]) (tn:=[t]) rfl (.tmp 56) (.tmp 62) rfl rfl rfl HP0.out.gv ((Chg.refl _ _).alloc _) (by first|omega|(simp only [List.length_cons,List.length_nil];omega)) (by first|omega|(simp only [List.length_cons,List.length_nil];omega)) (src_new _ _ [⟨5,tn,tss,eA,el,ec⟩] _ rfl _ _ rfl) rfl rfl (is_one HVE.out) ?_;intro A2 cc2 w2 hg2 hk2;have HP2:=kf (HP0.out.app _ hg2 hk2);clear hg2 hk2;have p3:=HP2.out.bv.blk.cell 3;have x0:=HP2.out.bx.blk.cell 0;have x1:=HP2.out.bx.blk.cell 1;have x2:=HP2.out.bx.blk.cell 2;have x3:=HP2.out.bx.blk.cell 3;simp at p3 x0 x1 x2 x3)
       go_roundw
       case rel=>exact⟨k+2,(m+1),cc2,false,A2,_,(ts++[t]),by omega,by have:=HI.out.2.2.1;omega,rfl,rfl,by go_num,kf ⟨HP2.out,by rw [HI.out.2.1,HD.out,left_le HGT.out];rw [HZ1.out,HZ2.out];simp,fun h=>by(have:=HI.out.2.2.1 rfl;omega),fun _=>by omega⟩⟩
       case measure=>simp [intOf];omega
    ·have HGT:=kf (show ¬gtT key t from fun h=>h5 (by rw [<- htk];exact h.1))
     have f5:(tk==5)=false:=by simpa using h5
     clear htk htn hts hd ht h5
     by_cases hmore:k+1<len
     ·obtain⟨u,hu⟩:∃ u,u=k+1:=⟨_,rfl⟩
      have hul:u<len:=by omega
      have HU:=kf hu
      have e1:(k:Int)+1=(u:Int):=by omega
      have k1:IntKind.i64.wrap (u:Int)=(u:Int):=by rw [IntKind.wrap_i64];omega
      have i2:(u:Int)<len:=by omega
      obtain⟨t2,ht2,hd2⟩:=drop_vt (l:=l) (k:=u) (by rw [HL.out];exact hul)
      obtain⟨fA,fl,fc,hvf,hcf⟩:=el_at HR.out ht2
      obtain⟨uk,huk⟩:∃ tk,t2.kind=tk:=⟨_,rfl⟩
      obtain⟨un,hun⟩:∃ tn,t2.num=tn:=⟨_,rfl⟩
      obtain⟨us,hus⟩:∃ ts,t2.str=ts:=⟨_,rfl⟩
      rw [huk,hun,hus] at hvf
      rw [huk,hun,hus] at hcf
      have HCF:=kf hcf
      have HVF:=kf hvf
      have HD2:=kf hd2
      have HT2:=kf ht2
      clear hvf hcf hd2 ht2 hu huk hun hus
      have HP0:=kf HI.out.1
      go_wp2_with first
       |(at_builtin;refine appV (w:=w) (new:=[⟨tk,tn,tss,eA,el,ec⟩]) (tn:=[t]) rfl (.tmp 56) (.tmp 62) rfl rfl rfl HP0.out.gv ((Chg.refl _ _).alloc _) (by first|omega|(simp only [List.length_cons,List.length_nil];omega)) (by first|omega|(simp only [List.length_cons,List.length_nil];omega)) (src_new _ _ [⟨tk,tn,tss,eA,el,ec⟩] _ rfl _ _ rfl) rfl rfl (is_one HVE.out) ?_;intro A2 cc2 w2 hg2 hk2;have HP2:=kf (HP0.out.app _ hg2 hk2);clear hg2 hk2;have p3:=HP2.out.bv.blk.cell 3;have x0:=HP2.out.bx.blk.cell 0;have x1:=HP2.out.bx.blk.cell 1;have x2:=HP2.out.bx.blk.cell 2;have x3:=HP2.out.bx.blk.cell 3;simp at p3 x0 x1 x2 x3;obtain⟨f0,f1,f2,f3⟩:=HCF.out _ HP2.out.gv.chg)
       |(at_builtin;refine appV (w:=w) (new:=[⟨uk,un,us,fA,fl,fc⟩]) (tn:=[t2]) rfl (.tmp 77) (.tmp 84) rfl rfl rfl HP2.out.gv ((Chg.refl _ _).alloc _) (by first|omega|(simp only [List.length_cons,List.length_nil];omega)) (by first|omega|(simp only [List.length_cons,List.length_nil];omega)) (src_new _ _ [⟨uk,un,us,fA,fl,fc⟩] _ rfl _ _ rfl) rfl rfl (is_one HVF.out) ?_;intro A3 cc3 w3 hg3 hk3;have HP3:=kf (HP2.out.app _ hg3 hk3);clear hg3 hk3)
      go_roundw
      case rel=>exact⟨k+2,((m+1)+1),cc3,false,A3,_,((ts++[t])++[t2]),by omega,by have:=HI.out.2.2.1;omega,rfl,rfl,by go_num,kf ⟨HP3.out,by rw [HI.out.2.1,HD.out,left_le HGT.out];rw [<- HU.out,HD2.out,HU.out];simp,fun h=>by(have:=HI.out.2.2.1 rfl;omega),fun _=>by omega⟩⟩
      case measure=>simp [intOf];omega
     ·have hul:k+1=len:=by omega
      have HZ1:=kf (show l.drop (k+1)=[] from List.drop_of_length_le (by rw [HL.out];omega))
      have HZ2:=kf (show l.drop (k+2)=[] from List.drop_of_length_le (by rw [HL.out];omega))
      have e1:¬(k:Int)+1<len:=by omega
      have d3:decide ((k:Int)+1<len)=false:=by simp;omega
      have k1:IntKind.i64.wrap ((k:Int)+1)=(k:Int)+1:=by rw [IntKind.wrap_i64];omega
      have HP0:=kf HI.out.1
      go_wp2_with first
       |(at_builtin;refine appV (w:=w) (new:=[⟨tk,tn,tss,eA,el,ec⟩]) (tn:=[t]) rfl (.tmp 56) (.tmp 62) rfl rfl rfl HP0.out.gv ((Chg.refl _ _).alloc _) (by first|omega|(simp only [List.length_cons,List.length_nil];omega)) (by first|omega|(simp only [List.length_cons,List.length_nil];omega)) (src_new _ _ [⟨tk,tn,tss,eA,el,ec⟩] _ rfl _ _ rfl) rfl rfl (is_one HVE.out) ?_;intro A2 cc2 w2 hg2 hk2;have HP2:=kf (HP0.out.app _ hg2 hk2);clear hg2 hk2;have p3:=HP2.out.bv.blk.cell 3;have x0:=HP2.out.bx.blk.cell 0;have x1:=HP2.out.bx.blk.cell 1;have x2:=HP2.out.bx.blk.cell 2;have x3:=HP2.out.bx.blk.cell 3;simp at p3 x0 x1 x2 x3)
      go_roundw
      case rel=>exact⟨k+2,(m+1),cc2,false,A2,_,(ts++[t]),by omega,by have:=HI.out.2.2.1;omega,rfl,rfl,by go_num,kf ⟨HP2.out,by rw [HI.out.2.1,HD.out,left_le HGT.out];rw [HZ1.out,HZ2.out];simp,fun h=>by(have:=HI.out.2.2.1 rfl;omega),fun _=>by omega⟩⟩
      case measure=>simp [intOf];omega
   ·clear htk htn hts hd ht
    by_cases hmore:k+1<len
    ·obtain⟨u,hu⟩:∃ u,u=k+1:=⟨_,rfl⟩
     have hul:u<len:=by omega
     have HU:=kf hu
     have e1:(k:Int)+1=(u:Int):=by omega
     have k1:IntKind.i64.wrap (u:Int)=(u:Int):=by rw [IntKind.wrap_i64];omega
     have i2:(u:Int)<len:=by omega
     obtain⟨t2,ht2,hd2⟩:=drop_vt (l:=l) (k:=u) (by rw [HL.out];exact hul)
     obtain⟨fA,fl,fc,hvf,hcf⟩:=el_at HR.out ht2
     obtain⟨uk,huk⟩:∃ tk,t2.kind=tk:=⟨_,rfl⟩
     obtain⟨un,hun⟩:∃ tn,t2.num=tn:=⟨_,rfl⟩
     obtain⟨us,hus⟩:∃ ts,t2.str=ts:=⟨_,rfl⟩
     rw [huk,hun,hus] at hvf
     rw [huk,hun,hus] at hcf
     have HCF:=kf hcf
     have HVF:=kf hvf
     have HD2:=kf hd2
     have HT2:=kf ht2
     clear hvf hcf hd2 ht2 hu huk hun hus
     have HP0:=kf HI.out.1
     go_wp2_with first
      |(at_builtin;refine appV (w:=w) (new:=[⟨tk,tn,tss,eA,el,ec⟩]) (tn:=[t]) rfl (.tmp 56) (.tmp 62) rfl rfl rfl HP0.out.gv ((Chg.refl _ _).alloc _) (by first|omega|(simp only [List.length_cons,List.length_nil];omega)) (by first|omega|(simp only [List.length_cons,List.length_nil];omega)) (src_new _ _ [⟨tk,tn,tss,eA,el,ec⟩] _ rfl _ _ rfl) rfl rfl (is_one HVE.out) ?_;intro A2 cc2 w2 hg2 hk2;have HP2:=kf (HP0.out.app _ hg2 hk2);clear hg2 hk2;have p3:=HP2.out.bv.blk.cell 3;have x0:=HP2.out.bx.blk.cell 0;have x1:=HP2.out.bx.blk.cell 1;have x2:=HP2.out.bx.blk.cell 2;have x3:=HP2.out.bx.blk.cell 3;simp at p3 x0 x1 x2 x3;obtain⟨f0,f1,f2,f3⟩:=HCF.out _ HP2.out.gv.chg)
      |(at_builtin;refine appV (w:=w) (new:=[⟨uk,un,us,fA,fl,fc⟩]) (tn:=[t2]) rfl (.tmp 77) (.tmp 84) rfl rfl rfl HP2.out.gv ((Chg.refl _ _).alloc _) (by first|omega|(simp only [List.length_cons,List.length_nil];omega)) (by first|omega|(simp only [List.length_cons,List.length_nil];omega)) (src_new _ _ [⟨uk,un,us,fA,fl,fc⟩] _ rfl _ _ rfl) rfl rfl (is_one HVF.out) ?_;intro A3 cc3 w3 hg3 hk3;have HP3:=kf (HP2.out.app _ hg3 hk3);clear hg3 hk3)
     go_roundw
     case rel=>exact⟨k+2,((m+1)+1),cc3,true,A3,_,((ts++[t])++[t2]),by omega,by have:=HI.out.2.2.1;omega,rfl,rfl,by go_num,kf ⟨HP3.out,by rw [HI.out.2.1,HD.out,left_done];rw [<- HU.out,HD2.out,HU.out];simp,fun h=>by(cases h),fun _=>by omega⟩⟩
     case measure=>simp [intOf];omega
    ·have hul:k+1=len:=by omega
     have HZ1:=kf (show l.drop (k+1)=[] from List.drop_of_length_le (by rw [HL.out];omega))
     have HZ2:=kf (show l.drop (k+2)=[] from List.drop_of_length_le (by rw [HL.out];omega))
     have e1:¬(k:Int)+1<len:=by omega
     have d3:decide ((k:Int)+1<len)=false:=by simp;omega
     have k1:IntKind.i64.wrap ((k:Int)+1)=(k:Int)+1:=by rw [IntKind.wrap_i64];omega
     have HP0:=kf HI.out.1
     go_wp2_with first
      |(at_builtin;refine appV (w:=w) (new:=[⟨tk,tn,tss,eA,el,ec⟩]) (tn:=[t]) rfl (.tmp 56) (.tmp 62) rfl rfl rfl HP0.out.gv ((Chg.refl _ _).alloc _) (by first|omega|(simp only [List.length_cons,List.length_nil];omega)) (by first|omega|(simp only [List.length_cons,List.length_nil];omega)) (src_new _ _ [⟨tk,tn,tss,eA,el,ec⟩] _ rfl _ _ rfl) rfl rfl (is_one HVE.out) ?_;intro A2 cc2 w2 hg2 hk2;have HP2:=kf (HP0.out.app _ hg2 hk2);clear hg2 hk2;have p3:=HP2.out.bv.blk.cell 3;have x0:=HP2.out.bx.blk.cell 0;have x1:=HP2.out.bx.blk.cell 1;have x2:=HP2.out.bx.blk.cell 2;have x3:=HP2.out.bx.blk.cell 3;simp at p3 x0 x1 x2 x3)
     go_roundw
     case rel=>exact⟨k+2,(m+1),cc2,true,A2,_,(ts++[t]),by omega,by have:=HI.out.2.2.1;omega,rfl,rfl,by go_num,kf ⟨HP2.out,by rw [HI.out.2.1,HD.out,left_done];rw [HZ1.out,HZ2.out];simp,fun h=>by(cases h),fun _=>by omega⟩⟩
     case measure=>simp [intOf];omega
  ·obtain hkk:k=len\/k=len+1:=HI.out.2.2.2 (by omega)
   have i1:¬(k:Int)<len:=by omega
   have HDZ:=kf (show l.drop k=[] from List.drop_of_length_le (by rw [HL.out];omega))
   clear hkk h1
   cases done
   ·have HFIN:=kf (show L=ts++[nmT key,tx] from by rw [HI.out.2.1,HDZ.out];rfl)
    have hm9:=HI.out.2.2.1 rfl
    have HP0:=kf HI.out.1
    go_upto_region 19 with(at_builtin;refine appV (w:=w) (new:=[⟨5,0,key,none,0,0⟩,⟨xk,xn,xs,xA,xl,xc⟩]) (tn:=[nmT key,tx]) rfl (.tmp 92) (.tmp 96) rfl rfl rfl HP0.out.gv ((Chg.refl _ _).alloc _) (by first|omega|(simp only [List.length_cons,List.length_nil];omega)) (by first|omega|(simp only [List.length_cons,List.length_nil];omega)) (src_new _ _ [⟨5,0,key,none,0,0⟩,⟨xk,xn,xs,xA,xl,xc⟩] _ rfl _ _ rfl) rfl rfl (is_two HNM.out HVX.out) ?_;intro AF ccF wF hgF hkF;have HPF:=kf (HP0.out.app _ hgF hkF);clear hgF hkF;have p3:=HPF.out.bv.blk.cell 3;simp at p3)
    have gz3:=HPF.out.bv.blk.frozen 3
    have q0:=HPF.out.bv.blk.cell 0
    have q1:=HPF.out.bv.blk.cell 1
    have q2:=HPF.out.bv.blk.cell 2
    have q3:=HPF.out.bv.blk.cell 3
    simp at q0 q1 q2 q3
    go_upto_region 20 with fail
    clear q0 q1 q2 q3 gz3
    have HB9:Hid (PB w (wF.setCell ⟨g,3,none⟩ (.slice AF (m+2) ccF)) g #[.int .i64 7,.int .i64 n,.string s,.slice AF (m+2) ccF]):=HPF.out.bv.set 3 _
    have HO9:=kf (HPF.out.bo.far (Ne.symm HNE.out.1) 3 (.slice AF (m+2) ccF))
    have HG9:=kf (HPF.out.gv.far HPF.out.nv HPF.out.bv.new 3 (.slice AF (m+2) ccF))
    have HC9:=kf HG9.out.chg
    have HN9:=kf HPF.out.no
    obtain⟨w9,hw9⟩:∃ W,W=wF.setCell ⟨g,3,none⟩ (.slice AF (m+2) ccF):=⟨_,rfl⟩
    rw [<- hw9] at HB9 HO9 HG9 HC9 ⊢
    clear hw9
    have q0:=HB9.out.blk.cell 0
    have q1:=HB9.out.blk.cell 1
    have q2:=HB9.out.blk.cell 2
    have q3:=HB9.out.blk.cell 3
    have z0:=HO9.out.blk.frozen 0
    have z1:=HO9.out.blk.frozen 1
    have z2:=HO9.out.blk.frozen 2
    have z3:=HO9.out.blk.frozen 3
    have y0:=HO9.out.blk.cell 0
    have y1:=HO9.out.blk.cell 1
    have y2:=HO9.out.blk.cell 2
    have y3:=HO9.out.blk.cell 3
    simp at q0 q1 q2 q3 y0 y1 y2 y3
    go_wp2_with fail
    try simp only [Exit.noGoto_ret]
    clear y0 y1 y2 y3
    obtain⟨hb,hcc⟩:=HO9.out.set4 (a:=.int .i64 7) (b:=.int .i64 n) (c:=.string s) (d:=.slice AF (m+2) ccF) HC9.out rfl
    have hgv:=(((HG9.out.far HN9.out HO9.out.new 0 (.int .i64 7)).far HN9.out HO9.out.new 1 (.int .i64 n)).far HN9.out HO9.out.new 2 (.string s)).far HN9.out HO9.out.new 3 (.slice AF (m+2) ccF)
    have r0:=hb.blk.cell 0
    have r1:=hb.blk.cell 1
    have r2:=hb.blk.cell 2
    have r3:=hb.blk.cell 3
    simp at r0 r1 r2 r3
    refine bodyPost_ret (v:=.agg #[.int .i64 7,.int .i64 n,.string s,.slice AF (m+2) ccF]) (by simp [results,Tryz.results135,go_sem,r0,r1,r2,r3]) rfl ?_
    exact⟨_,_,_,_,rfl,by rw [<- HLL.out,HFIN.out];exact hgv,by unfold maxLen;omega,HGD.out.n,HGD.out.s,hcc⟩
   ·have HFIN:=kf (show L=ts from by rw [HI.out.2.1,HDZ.out];show ts++[]=ts;rw [List.append_nil])
    have HPF:=kf HI.out.1
    obtain⟨wF,hwF⟩:∃ W,W=wr:=⟨_,rfl⟩
    rw [<- hwF] at HPF ⊢
    rw [<- hwF] at p0 p1 p2 p3 x0 x1 x2 x3
    clear hwF HI
    go_upto_region 19 with fail
    have gz3:=HPF.out.bv.blk.frozen 3
    have q0:=HPF.out.bv.blk.cell 0
    have q1:=HPF.out.bv.blk.cell 1
    have q2:=HPF.out.bv.blk.cell 2
    have q3:=HPF.out.bv.blk.cell 3
    simp at q0 q1 q2 q3
    go_upto_region 20 with fail
    clear q0 q1 q2 q3 gz3
    have HB9:Hid (PB w (wF.setCell ⟨g,3,none⟩ (.slice A2 m c2)) g #[.int .i64 7,.int .i64 n,.string s,.slice A2 m c2]):=HPF.out.bv.set 3 _
    have HO9:=kf (HPF.out.bo.far (Ne.symm HNE.out.1) 3 (.slice A2 m c2))
    have HG9:=kf (HPF.out.gv.far HPF.out.nv HPF.out.bv.new 3 (.slice A2 m c2))
    have HC9:=kf HG9.out.chg
    have HN9:=kf HPF.out.no
    obtain⟨w9,hw9⟩:∃ W,W=wF.setCell ⟨g,3,none⟩ (.slice A2 m c2):=⟨_,rfl⟩
    rw [<- hw9] at HB9 HO9 HG9 HC9 ⊢
    clear hw9
    have q0:=HB9.out.blk.cell 0
    have q1:=HB9.out.blk.cell 1
    have q2:=HB9.out.blk.cell 2
    have q3:=HB9.out.blk.cell 3
    have z0:=HO9.out.blk.frozen 0
    have z1:=HO9.out.blk.frozen 1
    have z2:=HO9.out.blk.frozen 2
    have z3:=HO9.out.blk.frozen 3
    have y0:=HO9.out.blk.cell 0
    have y1:=HO9.out.blk.cell 1
    have y2:=HO9.out.blk.cell 2
    have y3:=HO9.out.blk.cell 3
    simp at q0 q1 q2 q3 y0 y1 y2 y3
    go_wp2_with fail
    try simp only [Exit.noGoto_ret]
    clear y0 y1 y2 y3
    obtain⟨hb,hcc⟩:=HO9.out.set4 (a:=.int .i64 7) (b:=.int .i64 n) (c:=.string s) (d:=.slice A2 m c2) HC9.out rfl
    have hgv:=(((HG9.out.far HN9.out HO9.out.new 0 (.int .i64 7)).far HN9.out HO9.out.new 1 (.int .i64 n)).far HN9.out HO9.out.new 2 (.string s)).far HN9.out HO9.out.new 3 (.slice A2 m c2)
    have r0:=hb.blk.cell 0
    have r1:=hb.blk.cell 1
    have r2:=hb.blk.cell 2
    have r3:=hb.blk.cell 3
    simp at r0 r1 r2 r3
    refine bodyPost_ret (v:=.agg #[.int .i64 7,.int .i64 n,.string s,.slice A2 m c2]) (by simp [results,Tryz.results135,go_sem,r0,r1,r2,r3]) rfl ?_
    exact⟨_,_,_,_,rfl,by rw [<- HLL.out,HFIN.out];exact hgv,by unfold maxLen;omega,HGD.out.n,HGD.out.s,hcc⟩
theorem GV.laid {w w' V:World} {es:List VC} {ts:List VT} {n c:Nat} {A:Option Addr} (h:GV w w' es ts n A c) (hg:∀ i,LBox.O i->i<w.heap.size) (hc:Chg LBox.O w' V) (hn:n<=maxLen) (v:Int) (s:ByteArray) (hv:-9223372036854775808<=v/\v<=9223372036854775807) (hs:s.size<=maxLen) :
  ValIs V (.mk 7 v s ts) ⟨7,v,s,A,n,c⟩/\KRow V A ts:=by
 have hown:V.ownsRow 0 24 4 (.slice A n c) n (vcells es):=own_chg h.own hc (fun g hg2 e=>by
  rcases A with _|ad
  ·simp [Value.ownBlock] at hg2
  ·have e2:ad.block=g:=by simpa [Value.ownBlock] using hg2
   have:=h.new ad rfl
   have:=hg g e
   omega)
 have hwV:Chg LBox.O w V:=(h.chg.mono (fun _ _ e=>e.elim)).trans hc (fun _ _ e=>e)
 have his:∀ (j:Nat) (t:VT) (e:VC),ts[j]?=some t->es[j]?=some e->KV V t e:=fun j t e h1 h2=>(h.is j t e h1 h2).chg hwV
 have hgv:Go.Proofs.YtcehpobjnbgpdaaGreatDoor.ro.GV w w' es ts n A c:=h
 have hsrc:=src_own hown
 have hcell:∀ (j:Nat) (e:VC),es[j]?=some e->∃ ad,A=some ad/\∀ i,i<4->V.cell? (ad.add (j*4+i))=e.cells[i]?:=by
  intro j e he
  have hj:j<es.length:=(List.getElem?_eq_some_iff.1 he).1
  rcases A with _|ad
  ·have h0:=(hsrc.2.1 rfl).1
   have h1:=h.len
   omega
  ·refine⟨ad,rfl,fun i hi=>?_⟩
   have h1:=vcells_at he hi
   rw [List.getElem?_eq_getElem (show i<e.cells.length from hi)] at h1 ⊢
   exact hsrc.2.2 ad rfl _ _ h1
 have hrow:RowIs V A 0 ts:=by
  rcases A with _|ad
  ·have h0:=(hsrc.2.1 rfl).1
   have h1:=h.tlen
   rw [h0] at h1
   rw [List.eq_nil_of_length_eq_zero h1]
   exact .nil _ _
  ·have key:∀ (m j:Nat),j+m=n->RowIs V (some ad) j (ts.drop j):=by
    intro m
    induction m with
    |zero =>
     intro j hj
     rw [List.drop_of_length_le (by rw [h.tlen];omega)]
     exact .nil _ _
    |succ m ih =>
     intro j hj
     have hjt:j<ts.length:=by rw [h.tlen];omega
     have hje:j<es.length:=by rw [h.len];omega
     rw [List.drop_eq_getElem_cons hjt]
     obtain⟨ad',had,hcl⟩:=hcell j _ (List.getElem?_eq_getElem hje)
     cases had
     exact .cons ad j _ _ es[j] hcl ((his j _ _ (List.getElem?_eq_getElem hjt) (List.getElem?_eq_getElem hje)).now) (ih (j+1) (by omega))
   have:=key n 0 (by omega)
   rwa [List.drop_zero] at this
 refine⟨.mk ⟨7,v,s,A,n,c⟩ ts ⟨⟨(by decide:(-9223372036854775808:Int)<=7),(by decide:(7:Int)<=9223372036854775807)⟩,hv,hs,(h.good hn).1,(h.good hn).2,hn⟩ h.tlen hrow,fun j t ht=>?_⟩
 have hj:j<ts.length:=(List.getElem?_eq_some_iff.1 ht).1
 have hje:j<es.length:=by rw [h.len,<- h.tlen];exact hj
 obtain⟨ad,had,hcl⟩:=hcell j _ (List.getElem?_eq_getElem hje)
 exact⟨ad,es[j],had,hcl,his j t _ ht (List.getElem?_eq_getElem hje)⟩
end Go.Proofs.YtcehpobjnbgpdaaGreatDoor.ro
