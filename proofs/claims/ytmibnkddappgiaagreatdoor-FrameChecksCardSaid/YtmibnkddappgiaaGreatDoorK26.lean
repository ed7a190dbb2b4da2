import Derived.Test.YtmibnkddappgiaaGreatDoorK24
set_option linter.unusedVariables false
set_option maxHeartbeats 64000000
set_option maxRecDepth 100000
set_option linter.unusedSimpArgs false
namespace Go.Proofs.YtmibnkddappgiaaGreatDoor
open Go.RowKit
def obA (v:VC) (st:Bool) (d:ByteArray):Array Value:=#[.int .i64 v.k,.int .i64 v.n,.string v.s,.slice v.A v.len v.cap,.bool st,.string d]
def z1u (v:VC) (st:Bool) (d:ByteArray):Value:=.agg (obA v st d)
structure Cl6 (W:World) (g:Nat) (T:TypeId) (a0 a1 a2 a3 a4 a5:Value):Prop where
 c0:W.cell? ⟨g,0,none⟩=some a0
 c1:W.cell? ⟨g,1,none⟩=some a1
 c2:W.cell? ⟨g,2,none⟩=some a2
 c3:W.cell? ⟨g,3,none⟩=some a3
 c4:W.cell? ⟨g,4,none⟩=some a4
 c5:W.cell? ⟨g,5,none⟩=some a5
 f0:W.frozen? ⟨g,0,none⟩=false
 f1:W.frozen? ⟨g,1,none⟩=false
 f2:W.frozen? ⟨g,2,none⟩=false
 f3:W.frozen? ⟨g,3,none⟩=false
 f4:W.frozen? ⟨g,4,none⟩=false
 f5:W.frozen? ⟨g,5,none⟩=false
theorem Blk.cl6 {W:World} {g:Nat} {T:TypeId} {a b c d e f:Value} (h:Blk W g T #[a,b,c,d,e,f]):Cl6 W g T a b c d e f :=
 ⟨(h.cell 0).trans rfl,(h.cell 1).trans rfl,(h.cell 2).trans rfl,(h.cell 3).trans rfl,(h.cell 4).trans rfl,(h.cell 5).trans rfl,h.frozen 0,h.frozen 1,h.frozen 2,h.frozen 3,h.frozen 4,h.frozen 5⟩
theorem z1x (w:World) (g:Nat) (a b c d e f:Value):Chg (fun i=>i=g) w ((((((w.setCell ⟨g,0,none⟩ a).setCell ⟨g,1,none⟩ b).setCell ⟨g,2,none⟩ c).setCell ⟨g,3,none⟩ d).setCell ⟨g,4,none⟩ e).setCell ⟨g,5,none⟩ f) :=
 ((z0l w g a b c d).setCell (p:=⟨g,4,none⟩) (fun _=>rfl) e).setCell (p:=⟨g,5,none⟩) (fun _=>rfl) f
theorem z47 (k n:Int) (s:ByteArray) (A:Option Addr) (l c:Nat) (w:World) :
  Calls Tryz.prog 10 #[.agg #[.int .i64 k,.int .i64 n,.string s,.slice A l c]] w fun e w'=>e=.returned (z1u ⟨k,n,s,A,l,c⟩ false ⟨#[]⟩)/\Chg NoS w w':=by
 have hb:=Blk.new (w.alloc (.cells #[.int .i64 k,.int .i64 n,.string s,.slice A l c] 24)) 26 #[.int .i64 0,.int .i64 0,.string ⟨#[]⟩,.slice none 0 0,.bool false,.string ⟨#[]⟩];rw [World.size_alloc] at hb;obtain⟨r0,r1,r2,r3,r4,r5,z0,z1,z2,z3,z4,z5⟩:=hb.cl6;go_enter Tryz.func10,Tryz.ntmps10;go_wp2_with fail;refine bodyPost_ret (v:=z1u ⟨k,n,s,A,l,c⟩ false ⟨#[]⟩) (by unfold z1u obA;simp [results,Tryz.results10,go_sem]) rfl ?_;exact⟨rfl,(((Chg.refl NoS w).alloc _).alloc _)⟩
theorem z45 (k n:Int) (s d:ByteArray) (A:Option Addr) (l c:Nat) (w:World) :
  Calls Tryz.prog 11 #[.agg #[.int .i64 k,.int .i64 n,.string s,.slice A l c],.string d] w fun e w'=>e=.returned (z1u ⟨k,n,s,A,l,c⟩ true d)/\Chg NoS w w':=by
 go_enter Tryz.func11,Tryz.ntmps11;go_wp2_with fail;refine bodyPost_ret (v:=z1u ⟨k,n,s,A,l,c⟩ true d) (by unfold z1u obA;simp [results,Tryz.results11,go_sem]) rfl ?_;exact⟨rfl,(((Chg.refl NoS w).alloc _).alloc _)⟩
theorem y4q {k n:Int} {s key:ByteArray} {l:List VT} (h:k≠7\/k=7/\z0n key l=none):z2q (.mk k n s l) key=.mk k n s l:=by
 apply y1x;unfold z1c;rcases h with h|⟨h,h2⟩
 ·rw [if_neg h];decide
 ·rw [if_pos h,h2];decide
theorem Bx.finG {w W:World} {g go:Nat} {k n:Int} {s:ByteArray} {cv cz:Array Value} {es:List VC} {ts:List VT} {m c:Nat} {A:Option Addr} (h:Bx w W g go cv cz es ts m A c) (hz:cz.size=4) (hm:m<=maxLen)
  (hk:-9223372036854775808<=k/\k<=9223372036854775807) (hn:-9223372036854775808<=n/\n<=9223372036854775807) (hs:s.size<=maxLen) (W':World) (hW:W'=(((W.setCell ⟨go,0,none⟩ (.int .i64 k)).setCell ⟨go,1,none⟩ (.int .i64 n)).setCell ⟨go,2,none⟩ (.string s)).setCell ⟨go,3,none⟩ (.slice A m c)) :
  PB w W' go #[.int .i64 k,.int .i64 n,.string s,.slice A m c]/\GV w W' es ts m A c/\Chg NoS w W':=by
 subst hW;obtain⟨h1,h2⟩:=h.o.set4 (a:=.int .i64 k) (b:=.int .i64 n) (c:=.string s) (d:=.slice A m c) h.row.chg hz;exact⟨h1,((((h.row.far h.no h.o.new 0 _).far h.no h.o.new 1 _).far h.no h.o.new 2 _).far h.no h.o.new 3 _),h2⟩
theorem v44 {w:World} {b off:Nat} {l:List VT} {es:List VC} (hes:es.length=l.length) (hec:∀ (i:Nat) (e:VC),es[i]?=some e->∀ m,m<4->w.cell? ⟨b,off+(0+i)*4+m,none⟩=e.cells[m]?) (hei:∀ (i:Nat) (t:VT) (e:VC),l[i]?=some t->es[i]?=some e->ValIs w t e) :
  (∀ (W:World) (q cx:Nat),Chg NoS w W->q<=l.length->PcV w W (some ⟨b,off,none⟩) q cx (es.take q) (l.take q)) /\
  (∀ (W:World) (r o m cx:Nat),Chg NoS w W->r+m=l.length->(0<m->o=off+r*4)->PcV w W (some ⟨b,o,none⟩) m cx (es.drop r) (l.drop r)):=by
 refine⟨fun W q cx hc hq=>⟨?_,by rw [List.length_take,hes];omega,by rw [List.length_take];omega,fun j t e h1 h2=>?_⟩,fun W r o m cx hc hr2 ho=>?_⟩
 ·have h:=z9u (p:=0) (m:=q) (cx:=cx) hec hc (by rw [hes];omega);simpa using h
 ·rw [List.getElem?_take] at h1 h2;split at h1
  ·next h=>rw [if_pos h] at h2;exact hei j t e h1 h2
  ·cases h1
 ·by_cases hm:m=0
  ·subst hm;rw [List.drop_of_length_le (by omega),List.drop_of_length_le (by omega)];exact v73 (fun e=>(by cases e))
  ·obtain rfl:=ho (by omega);refine⟨?_,by rw [List.length_drop,hes];omega,by rw [List.length_drop];omega,fun j t e h1 h2=>?_⟩
   ·have h:=z9u (p:=r) (m:=m) (cx:=cx) hec hc (by rw [hes];omega);rwa [List.take_of_length_le (by rw [List.length_drop,hes];omega)] at h
   ·rw [List.getElem?_drop] at h1 h2;exact hei _ t e h1 h2
def v9m (c:VC) (l:List VT) (key:ByteArray) (es:List VC) (w:World) (e:Ending) (w':World):Prop :=
 (e=.returned c.val/\z2q (.mk c.k c.n c.s l) key=.mk c.k c.n c.s l/\Chg NoS w w') \/
 ∃ (q r:Nat) (A:Option Addr) (n c':Nat),e=.returned (VC.val ⟨7,c.n,c.s,A,n,c'⟩)/\GV w w' (es.take q++es.drop r) (l.take q++l.drop r) n A c'/\z2q (.mk c.k c.n c.s l) key=.mk 7 c.n c.s (l.take q++l.drop r)/\n<=1000000000
theorem v1j (c:VC) (l:List VT) (key:ByteArray) (w:World) (hv:ValIs w (.mk c.k c.n c.s l) c) (hsz:z1n l<=100000000) (es:List VC) (hes:es.length=l.length) (hec:∀ b off,c.A=some ⟨b,off,none⟩->∀ (i:Nat) (e:VC),es[i]?=some e->∀ m,m<4->w.cell? ⟨b,off+(0+i)*4+m,none⟩=e.cells[m]?) (hei:∀ (i:Nat) (t:VT) (e:VC),l[i]?=some t->es[i]?=some e->ValIs w t e) :
  Calls Tryz.prog 79 #[c.val,.string key] w (v9m c l key es w):=by
 obtain⟨_,_,_,hg,hl,hr⟩:=hv.inv;have HF:=kf (fun W (h:ValIs W (.mk c.k c.n c.s l) c)=>y0b c l key W h (by omega));have HV:=kf hv;have HGD:=kf hg;have HES:=kf hes;have HEI:=kf hei;obtain⟨k,n,s,A,len,cap⟩:=c;simp only [] at hl hr hec;have HEC:=kf hec;have hcap:=hg.cap;simp only [] at hcap;have hl9:len<=100000000:=by have:=z63 l;omega
 have HL:=kf hl;have HR:=kf hr;unfold VC.val at HF;simp only [] at HF HV HGD ⊢;show Calls Tryz.prog 79 #[.agg #[.int .i64 k,.int .i64 n,.string s,.slice A len cap],.string key] w _;have HB:=kf (⟨(Blk.new w 24 #[.int .i64 k,.int .i64 n,.string s,.slice A len cap]).alloc (.cells #[.int .i64 0,.int .i64 0,.string ⟨#[]⟩,.slice none 0 0] 24),Nat.le_refl _⟩:PB w _ w.heap.size _);have HO:=kf (⟨Blk.new (w.alloc (.cells #[.int .i64 k,.int .i64 n,.string s,.slice A len cap] 24)) 24 #[.int .i64 0,.int .i64 0,.string ⟨#[]⟩,.slice none 0 0],by simp⟩:PB w _ _ _);have hs1:(w.alloc (.cells #[.int .i64 k,.int .i64 n,.string s,.slice A len cap] 24)).heap.size=w.heap.size+1:=by simp
 rw [hs1] at HO;have HC0:=kf (((Chg.refl NoS w).alloc (.cells #[.int .i64 k,.int .i64 n,.string s,.slice A len cap] 24)).alloc (.cells #[.int .i64 0,.int .i64 0,.string ⟨#[]⟩,.slice none 0 0] 24));clear hs1 hv hg hl hr hsz hes hec hei;go_enter Tryz.func79,Tryz.ntmps79;go_upto_region 2 with(go_at_call 61;refine(HF.out _ (HV.out.chg HC0.out)).mono ?_;rintro e w2 ⟨q,b,rfl,hc2,hq2⟩;have HB2:=kf (HB.out.call hc2);have HO9:=kf (HO.out.call hc2);have HC2:=kf (HC0.out.trans hc2 (fun _ _ e=>e));have HQ:=kf hq2;clear hc2 hq2);obtain⟨g2,hg2⟩:∃ g,g=w.heap.size+1:=⟨_,rfl⟩
 rw [<- hg2] at HO9 ⊢;obtain⟨g,hg1⟩:∃ g,g=w.heap.size:=⟨_,rfl⟩
 rw [<- hg1] at HB2 ⊢;have HNE:Hid (g≠g2):=by show _≠_;omega
 clear hg1 hg2 HB HO HF HC0;have p0:=HB2.out.blk.cell 0;have p1:=HB2.out.blk.cell 1;have p2:=HB2.out.blk.cell 2;have p3:=HB2.out.blk.cell 3;simp at p0 p1 p2 p3;rcases HQ.out with⟨rfl,hq⟩|⟨rfl,rfl,j,hj,rfl,hlt⟩
 ·have HE:=kf (y4q (n:=n) (s:=s) hq);clear hq;have z0:=HO9.out.blk.frozen 0;have z1:=HO9.out.blk.frozen 1;have z2:=HO9.out.blk.frozen 2;have z3:=HO9.out.blk.frozen 3;have y0:=HO9.out.blk.cell 0;have y1:=HO9.out.blk.cell 1;have y2:=HO9.out.blk.cell 2;have y3:=HO9.out.blk.cell 3;simp at y0 y1 y2 y3;go_wp2_with fail;try simp only [Exit.noGoto_ret]
  clear y0 y1 y2 y3;obtain⟨hb,hcc⟩:=HO9.out.set4 (a:=.int .i64 k) (b:=.int .i64 n) (c:=.string s) (d:=.slice A len cap) HC2.out rfl;have r0:=hb.blk.cell 0;have r1:=hb.blk.cell 1;have r2:=hb.blk.cell 2;have r3:=hb.blk.cell 3;simp at r0 r1 r2 r3;refine bodyPost_ret (v:=.agg #[.int .i64 k,.int .i64 n,.string s,.slice A len cap]) (by simp [results,Tryz.results79,go_sem,r0,r1,r2,r3]) rfl ?_;exact .inl ⟨rfl,HE.out,hcc⟩
 ·have hl3:2*j<len:=by rw [<- HL.out];exact hlt
  obtain⟨q,hq⟩:∃ q,q=2*j:=⟨_,rfl⟩
  have HE:=kf (z96 (n:=n) (s:=s) (l:=l) (key:=key) (q:=q) (show z1c 7 l key=_ by unfold z1c;rw [if_pos rfl,hj,hq]));rw [<- hq] at hl3 ⊢;clear hq HQ hlt hj
  obtain⟨b,off,rfl⟩:∃ b off,A=some ⟨b,off,none⟩:=by
   have h:=HR.out;have h2:=HL.out;cases hll:l with
   |nil=>rw [hll] at h2;simp at h2;omega
   |cons t0 l0=>rw [hll] at h;exact h.start
  obtain⟨hp1,hp2⟩:=v44 HES.out (HEC.out b off rfl) HEI.out;obtain⟨r,hr2⟩:∃ r,r=min (q+2) len:=⟨_,rfl⟩
  have HED:Hid (l.drop (q+2)=l.drop r):=by
   show _=_;by_cases h:q+2<=len
   ·rw [show r=q+2 by omega]
   ·rw [List.drop_of_length_le (by rw [HL.out];omega),List.drop_of_length_le (by rw [HL.out];omega)]
  rw [HED.out] at HE;have HBH:=kf (fun(W:World)=>y4u b off len cap q r W hr2 hcap (by omega) (by omega));have HP1:=kf (fun(W:World) (h:Chg NoS w W)=>hp1 W q cap h (by rw [HL.out];omega));have HP2:=kf (fun(W:World) (o:Nat) (h:Chg NoS w W) (ho:r<len->o=off+r*4)=>hp2 W r o (len-r) (cap-r) h (by rw [HL.out];omega) (fun h=>ho (by omega)));obtain⟨N,hN⟩:∃ N,q+(len-r)=N:=⟨_,rfl⟩
  have hN9:N<=1000000000:=by omega
  have i1:(q:Int)<=cap:=by omega
  have i2:q<=cap:=by omega
  have HNN:=kf hN;clear hp1 hp2 hr2 hN
  have HCT:Hid (∀ o:Nat,(r<len->o=off+r*4)->Calls Tryz.prog 94 #[.slice (some ⟨w2.heap.size,0,none⟩) 2 2] ((w2.alloc (.cells #[.slice (some ⟨b,off,none⟩) q cap,.slice (some ⟨b,o,none⟩) (len-r) (cap-r)] 22)).drew) fun e w'=>∃ A3 c3,e=.returned (.slice A3 N c3)/\Bx w w' g g2 #[.int .i64 7,.int .i64 n,.string s,.slice (some ⟨b,off,none⟩) len cap] #[.int .i64 0,.int .i64 0,.string ⟨#[]⟩,.slice none 0 0] (es.take q++es.drop r) (l.take q++l.drop r) N A3 c3):=by
   show ∀ o:Nat,_;intro o ho;have hcc:=(HC2.out.alloc (.cells #[.slice (some ⟨b,off,none⟩) q cap,.slice (some ⟨b,o,none⟩) (len-r) (cap-r)] 22)).drew;refine(v25 (w0:=w) (G:=w2.heap.size) (N:=N) hcc (HP1.out _ hcc) (HP2.out _ o hcc ho) HNN.out hN9 (Blk.new w2 _ _).drew).mono ?_;rintro e w4 ⟨A3,c3,rfl,hg4,hc4,hn4⟩;exact⟨A3,c3,rfl,((HB2.out.alloc _).drew).call hc4,((HO9.out.alloc _).drew).call hc4,hg4,hn4 _ ((HB2.out.alloc _).drew).blk.lt,hn4 _ ((HO9.out.alloc _).drew).blk.lt,HNE.out⟩
  clear HP1 HP2 HNN;go_upto_region 3 with fail
  first
   |(go_loud (go_region_law (first
     |(go_simp;go_at_call 95;refine(HBH.out _).mono ?_;rintro e w3 ⟨⟨o,rfl,ho⟩,rfl⟩)
     |(go_simp;go_at_call 94;refine(HCT.out o ho).mono ?_;rintro e w4 ⟨A3,c3,rfl,hx4⟩;have z3:=hx4.b.blk.frozen 3;have q3:=hx4.b.blk.cell 3;simp at q3))))
   |fail "region"
  all_goals
   have HX:=kf hx4;clear hx4 z3 q3 p0 p1 p2 p3;have HB9:=kf HX.out.put;have q0:=HB9.out.b.blk.cell 0;have q1:=HB9.out.b.blk.cell 1;have q2:=HB9.out.b.blk.cell 2;have q3:=HB9.out.b.blk.cell 3;have HO9:=kf HB9.out.o;simp at q0 q1 q2 q3;have z0:=HO9.out.blk.frozen 0;have z1:=HO9.out.blk.frozen 1;have z2:=HO9.out.blk.frozen 2;have z3:=HO9.out.blk.frozen 3;have y0:=HO9.out.blk.cell 0;have y1:=HO9.out.blk.cell 1;have y2:=HO9.out.blk.cell 2;have y3:=HO9.out.blk.cell 3;simp at y0 y1 y2 y3;go_wp2_with fail;try simp only [Exit.noGoto_ret]
   clear y0 y1 y2 y3;obtain⟨hb,hvv,hcc⟩:=HB9.out.finG (k:=7) (n:=n) (s:=s) rfl (by unfold maxLen;omega) HGD.out.k HGD.out.n HGD.out.s _ rfl;have r0:=hb.blk.cell 0;have r1:=hb.blk.cell 1;have r2:=hb.blk.cell 2;have r3:=hb.blk.cell 3;simp at r0 r1 r2 r3;refine bodyPost_ret (v:=.agg #[.int .i64 7,.int .i64 n,.string s,.slice A3 N c3]) (by simp [results,Tryz.results79,go_sem,r0,r1,r2,r3]) rfl ?_;exact .inr ⟨q,r,A3,N,c3,rfl,hvv,HE.out,hN9⟩
theorem v0k {O:Nat->Prop} {w:World} {k n:Int} {s:ByteArray} {l:List VT} {c:VC} (h:Ins O w (.mk k n s l) c):∃ es:List VC,es.length=l.length/\(∀ b off,c.A=some ⟨b,off,none⟩->∀ (i:Nat) (e:VC),es[i]?=some e->∀ m,m<4->w.cell? ⟨b,off+(0+i)*4+m,none⟩=e.cells[m]?)/\∀ (i:Nat) (t:VT) (e:VC),l[i]?=some t->es[i]?=some e->Ins O w t e:=by
 cases hl:l with
 |nil=>exact⟨[],rfl,fun b off _ i e h=>(by simp at h),fun i t e h=>(by simp at h)⟩
 |cons t0 l0 =>
  rw [hl] at h;have hr:=h.now.inv.2.2.2.2.2;obtain⟨b,off,hA⟩:=hr.start;rw [hA] at hr;obtain⟨es,hes,hec,hei⟩:=hr.list
  have hO:¬O b:=by
   intro hb;have e0:∃ e,es[0]?=some e:=⟨_,List.getElem?_eq_getElem (by rw [hes];simp)⟩
   obtain⟨e,he⟩:=e0;have hc:=hec 0 e he 0 (by decide);have hV:=h (w.setCell ⟨b,off,none⟩ (.bool true)) ((Chg.refl O w).setCell (p:=⟨b,off,none⟩) (fun _=>hb) _);have hr2:=hV.inv.2.2.2.2.2;rw [hA] at hr2;obtain⟨e2,c0,_⟩:=hr2.plain
   have hsome:w.cell? ⟨b,off,none⟩=some (.int .i64 e.k):=by
    have h3:=hc;simp only [Nat.add_zero,Nat.zero_mul] at h3;rw [h3];rfl
   have h4:(w.setCell ⟨b,off,none⟩ (.bool true)).cell? ⟨b,off,none⟩=some (.bool true):=World.cell?_setCell_same _ _ _ hsome;simp only [Nat.zero_mul,Nat.add_zero] at c0;rw [h4] at c0;cases c0
  refine⟨es,hes,fun b' off' e=>?_,fun i t e ht he V hV=>?_⟩
  ·rw [hA] at e;cases e
   exact hec
  ·have hr2:=(h V hV).inv.2.2.2.2.2;rw [hA] at hr2;obtain⟨es2,hes2,hec2,hei2⟩:=hr2.list;have hi:i<es.length:=(List.getElem?_eq_some_iff.1 he).1;obtain⟨e2,he2⟩:∃ e2,es2[i]?=some e2:=⟨_,List.getElem?_eq_getElem (by rw [hes2,<- hes];exact hi)⟩
   have hv:=hei2 i t e2 ht he2
   have key:∀ m,m<4->e2.cells[m]?=e.cells[m]?:=fun m hm=>by
    rw [<- hec2 i e2 he2 m hm,<- hec i e he m hm];have hsz:m<e.cells.length:=hm;have h5:w.cell? ⟨b,off+(0+i)*4+m,none⟩=some e.cells[m]:=by rw [hec i e he m hm,List.getElem?_eq_getElem hsz]
    exact hV.cell (p:=⟨b,off+(0+i)*4+m,none⟩) (z05 h5) hO
   obtain⟨a1,a2,a3,a4,a5,a6⟩:=e;obtain⟨b1,b2,b3,b4,b5,b6⟩:=e2;have k0:=key 0 (by decide);have k1:=key 1 (by decide);have k2:=key 2 (by decide);have k3:=key 3 (by decide);simp [VC.cells] at k0 k1 k2 k3;obtain⟨k3,k4,k5⟩:=k3;subst k0 k1 k2 k3 k4 k5;exact hv
theorem v1l {O:Nat->Prop} (c:VC) (l:List VT) (key:ByteArray) (w:World) (hv:Ins O w (.mk c.k c.n c.s l) c) (hsz:z1n l<=100000000) :
  Calls Tryz.prog 79 #[c.val,.string key] w fun e w'=>∃ v:VC,e=.returned v.val/\Ins (fun i=>O i/\i<w.heap.size) w' (z2q (.mk c.k c.n c.s l) key) v/\Chg NoS w w':=by
 obtain⟨es,hes,hec,hei⟩:=v0k hv;refine(v1j c l key w hv.now hsz es hes hec (fun i t e h1 h2=>(hei i t e h1 h2).now)).mono ?_;rintro e w' (⟨rfl,h2,h3⟩|⟨q,r,A,n,c',rfl,h2,h3,h4⟩)
 ·exact⟨c,rfl,by rw [h2];exact(hv.chg (O:=O) h3).turn (Chg.refl _ _) (fun i _ h=>h.1),h3⟩
 ·have hg:=hv.now.good;refine⟨⟨7,c.n,c.s,A,n,c'⟩,rfl,?_,h2.chg⟩;rw [h3];refine y1p h2.own (fun g hg2 h5=>?_) h2.len h2.tlen (fun j t e ht he=>?_) (by decide) hg.n hg.s
  ·cases A with
   |none=>cases hg2
   |some a =>
    have h6:=h2.new a rfl;cases hg2
    omega
  ·have h6:Ins O w t e:=by
    by_cases hj:j<(l.take q).length
    ·rw [List.getElem?_append_left hj] at ht;have hl1:(es.take q).length=(l.take q).length:=by rw [List.length_take,List.length_take,hes]
     rw [List.getElem?_append_left (by rw [hl1];exact hj)] at he;rw [List.getElem?_take] at ht he;split at ht
     ·next h7=>rw [if_pos h7] at he;exact hei j t e ht he
     ·cases ht
    ·rw [List.getElem?_append_right (by omega)] at ht;have hl1:(es.take q).length=(l.take q).length:=by rw [List.length_take,List.length_take,hes]
     rw [List.getElem?_append_right (by omega),hl1] at he;rw [List.getElem?_drop] at ht he;exact hei _ t e ht he
   exact(h6.chg (O:=O) h2.chg).turn (Chg.refl _ _) (fun i _ h=>h.1)
theorem y4c {l:List VT} (q r:Nat) (h:q<=r):z1n (l.take q++l.drop r)<=z1n l:=by
 rw [z3n];have h1:=z64 l q;have h2:=z64 (l.drop q) (r-q);rw [List.drop_drop,show q+(r-q)=r by omega] at h2;omega
theorem y9d (t:VT) (key:ByteArray):z1h (z2q t key)<=z1h t:=by
 obtain⟨k,n,s,l⟩:=t;by_cases h:z1c k l key<0
 ·rw [y1x h];exact Nat.le_refl _
 ·obtain⟨q,hq⟩:∃ q:Nat,z1c k l key=(q:Int):=⟨(z1c k l key).toNat,by omega⟩
  rw [z96 hq,z0f,z0f];have:=y4c (l:=l) q (q+2) (by omega);omega
def q17 (O:Nat->Prop) (w:World) (t:VT) (e:Ending) (w':World):Prop:=∃ (k n:Int) (s:ByteArray) (A:Option Addr) (l c:Nat),e=.returned (.agg #[.int .i64 k,.int .i64 n,.string s,.slice A l c])/\Ins (fun i=>O i/\i<w.heap.size) w' t ⟨k,n,s,A,l,c⟩/\Chg NoS w w'
theorem y0s {O:Nat->Prop} (t:VT) (k n:Int) (s key:ByteArray) (A:Option Addr) (l c:Nat) (w:World) (hv:Ins O w t ⟨k,n,s,A,l,c⟩) (hsz:z1h t<=1000000) :
  Calls Tryz.prog 79 #[.agg #[.int .i64 k,.int .i64 n,.string s,.slice A l c],.string key] w (q17 O w (z2q t key)):=by
 obtain⟨tk,tn,ts,tl⟩:=t;obtain⟨e1,e2,e3⟩:=hv.eq;have e1':k=tk:=e1;have e2':n=tn:=e2;have e3':s=ts:=e3;clear e1 e2 e3;subst e1' e2' e3';rw [z0f] at hsz;refine(v1l ⟨k,n,s,A,l,c⟩ tl key w hv (by omega)).mono ?_;rintro e w' ⟨⟨vk,vn,vs,vA,vl,vc⟩,rfl,h1,h2⟩;exact⟨vk,vn,vs,vA,vl,vc,rfl,h1,h2⟩
open Go.RowKit Go.Deep Go.ChangeShapes Go.WideShapes Go.ChangeAt
theorem y30 {H:Type} {enc:TypeId × Value->H} {w:World} {base b0:Nat} {spare:Nat->Bool} {held:Bool} {r:Reach} {v:Value} {d:DataW H} {p:List MemPlace} (hv:Value.okWide Tryz.prog w r b0 26 v)
  (h:DataW.Trod enc Tryz.prog w base spare held 26 v d p):∃ (c:VC) (t:VT) (st:Bool) (D:ByteArray),v=z1u c st D/\ValIs w t c/\D.size<=maxLen:=by
 obtain⟨cs,rfl,hsz⟩:=okWide_struct Tryz.underlying26 hv;obtain⟨fuel,hf⟩:=h;obtain⟨y0,y1,y2,m,hd,hl,h0,h1,h2⟩:=trod_struct3 Tryz.underlying26 hf;rw [show Tryz.prog.cellsOf 26=6 from by kernel_rfl] at hl;simp only [Value.cells] at hl h0 h1 h2;obtain⟨l,hl2⟩:∃ l,l=cs.toList:=⟨_,rfl⟩
 rw [<- hl2] at hl h0 h1 h2;match l,hl,hl2,h0,h1,h2 with
 |[u0,u1,u2,u3,u4,u5],_,hl2,h0,h1,h2 =>
  have h0':DataW.trod enc Tryz.prog w base spare held m 24 [u0,u1,u2,u3]=some y0:=h0;have h1':DataW.trod enc Tryz.prog w base spare held m 4 [u4]=some y1:=h1;have h2':DataW.trod enc Tryz.prog w base spare held m 9 [u5]=some y2:=h2;obtain⟨c,t,hc,hvt⟩:=v8w _ _ _ h0';obtain⟨b,e1⟩:=v5f Tryz.underlying4 h1';obtain⟨s,e2,_,g2⟩:=DataW.trod_string Tryz.underlying9 h2';simp only [List.cons.injEq,and_true] at e1 e2;subst e1 e2;refine⟨c,t,b,s,?_,hvt,g2⟩;unfold z1u obA;congr 1;refine Array.ext' ?_;rw [<- hl2];unfold VC.cells at hc;simp only [List.cons.injEq,and_true] at hc;obtain⟨rfl,rfl,rfl,rfl⟩:=hc;rfl
end Go.Proofs.YtmibnkddappgiaaGreatDoor
