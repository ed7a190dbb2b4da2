import Derived.Test.YtmibnkddappgiaaGreatDoorK06
set_option linter.unusedVariables false
set_option maxHeartbeats 64000000
set_option maxRecDepth 100000
set_option linter.unusedSimpArgs false
namespace Go.Proofs.YtmibnkddappgiaaGreatDoor
open Go.RowKit
theorem y77 (n:Nat) (w:World) (hn:n<=1000000000):Calls Tryz.prog 119 #[.slice none 0 0,.int .i64 n] w fun e w'=>∃ A c,e=.returned (.slice A 0 c)/\GV w w' [] [] 0 A c:=by
 obtain⟨i0,hi,hz0,hz1,hz2⟩:=z2y z8x;rcases Nat.eq_zero_or_pos n with rfl|h0
 ·go_enter Tryz.func119,Tryz.ntmps119;go_wp2_with fail;go_ret;exact⟨none,0,rfl,GV.start (Chg.refl _ _)⟩
 ·obtain⟨cc,hcc⟩:∃ cc,cc=grownCap w n 0 24:=⟨_,rfl⟩
  have hc1:n<=cc:=hcc ▸ grownCap_ge _ _ _ _;have hc2:cc<=maxLen:=hcc ▸ grownCap_le_maxLen _ _ _ _ (by unfold maxLen;omega);have hrun:=fun ty=>Go.Lib.run_append_nil_zeros (P:=Tryz.prog) w 22 3 ty 24 i0 _ .i64 .i64 Tryz.underlying22 Tryz.underlying3 hi hz0 n h0 (by rw [hz1];omega) (by omega) (by rw [hz2];omega);rw [<- hcc] at hrun;have HR:=kf hrun;have HC2:=kf hc2;have HC1:=kf hc1;clear hrun hcc hc2 hc1;have d1:decide ((n:Int)<0)=false:=by simp
  have d2:decide (0<(n:Int))=true:=by simp;omega
  go_enter Tryz.func119,Tryz.ntmps119
  go_wp2_with (first
   |(at_builtin;go_loud (refine Go.Lib.wpList_append_run _ rfl (.tmp 20) (.tmp 21) 22 3 rfl _ _ rfl rfl _ _ (HR.out _) ?_)))
  go_ret;refine⟨some ⟨w.heap.size,0,none⟩,cc,rfl,⟨⟨rfl,.inr ⟨w.heap.size,cc,_,rfl,Nat.zero_le _,heap_alloc_new w.drew _,Nat.zero_le _,HC2.out,?_,rfl⟩⟩,((Chg.refl _ w).drew).alloc _,fun a ha=>(by cases ha;exact Nat.le_refl _),rfl,rfl,fun j t e h=>(by simp at h)⟩⟩;rw [Array.size_append,size_zeroCells,size_zeroCells];have:=HC1.out;show n*4+(cc-n)*4=cc*4;omega
theorem z57 {α:Type} (L:List α) (k:Nat) (x:α) (h:L[k]?=some x):L.take (k+1)=L.take k++[x]:=by
 rw [List.take_add_one,h];rfl
structure SlV where
 A:Option Addr
 c:Nat
 es:List VC
 ts:List VT
def SlV.val (x:SlV):Value:=.slice x.A x.es.length x.c
def z50 (Xs:List SlV):List VC:=Xs.flatMap SlV.es
def v2t (Xs:List SlV):List VT:=Xs.flatMap SlV.ts
theorem z3j (Xs:List SlV) (x:SlV):z50 (Xs++[x])=z50 Xs++x.es:=by simp [z50]
theorem y8k (Xs:List SlV) (x:SlV):v2t (Xs++[x])=v2t Xs++x.ts:=by simp [v2t]
theorem y8l (Xs:List SlV) (k:Nat):(z50 (Xs.take k)).length<=(z50 Xs).length:=by
 have h:z50 (Xs.take k)++z50 (Xs.drop k)=z50 Xs:=by unfold z50;rw [<- List.flatMap_append,List.take_append_drop]
 have h2:=congrArg List.length h;rw [List.length_append] at h2;omega
structure SlV.Ok (w0 w:World) (x:SlV):Prop where
 src:Src w 4 x.A x.es.length x.c (z04 x.es)
 len:x.ts.length=x.es.length
 is:∀ (j:Nat) (t:VT) (e:VC),x.ts[j]?=some t->x.es[j]?=some e->ValIs w0 t e
theorem v22 (Xs:List SlV) (A:Option Addr) (c:Nat) (w:World) (hX:Xs.length<=100) (h0:0<Xs.length) (hT:(z50 Xs).length<=1000000000) (hS:Src w 1 A Xs.length c (Xs.map SlV.val)) (hall:∀ x∈Xs,x.Ok w w) :
  Calls Tryz.prog 94 #[.slice A Xs.length c] w fun e w'=>∃ A3 c3,e=.returned (.slice A3 (z50 Xs).length c3)/\GV w w' (z50 Xs) (v2t Xs) (z50 Xs).length A3 c3:=by
 obtain⟨b,off,rfl,hcell⟩:=hS.plain (by simpa using h0);have HC:=kf hcell;have HALL:=kf hall;have HT:=kf hT;obtain⟨n,hn⟩:∃ n,n=Xs.length:=⟨_,rfl⟩
 have HN:=kf hn;rw [<- hn] at hX ⊢;have hle:Hid (∀ k,(z50 (Xs.take k)).length<=1000000000):=fun k=>Nat.le_trans (y8l Xs k) hT;have HTK:Hid (Xs.take n=Xs):=by show _=_;rw [hn,List.take_length]
 clear hn hS hcell hall h0 hT;go_enter Tryz.func94,Tryz.ntmps94;go_wp2_with fail;go_loop [3,11] (fun v i=>∃ k:Nat,k<=n/\i=.int .i64 k/\v=.int .i64 (z50 (Xs.take k)).length) (fun _ i=>n-(intOf i).toNat)
 case atStart=>exact⟨0,Nat.zero_le _,rfl,by simp [z50]⟩
 case round =>
  obtain⟨k,hk,rfl,rfl⟩:=hrel;by_cases hlt:k<n
  ·obtain⟨x,hx⟩:∃ x,Xs[k]?=some x:=⟨_,List.getElem?_eq_getElem (by have:=HN.out;omega)⟩
   have hc:=HC.out k x.val (by simp [hx]);unfold SlV.val at hc;have e1:=hle.out (k+1);rw [z57 Xs k x hx,z3j,List.length_append] at e1;obtain⟨s,hs⟩:∃ s,s=(z50 (Xs.take k)).length:=⟨_,rfl⟩
   obtain⟨m,hm⟩:∃ m,m=x.es.length:=⟨_,rfl⟩
   have e2:(z50 (Xs.take (k+1))).length=s+m:=by rw [z57 Xs k x hx,z3j,List.length_append,hs,hm]
   rw [<- hs] at e1 ⊢;rw [<- hm] at e1 hc;have E2:=kf e2;clear hs hm e2;have d1:decide ((s:Int)+m<0)=false:=by simp;omega
   go_wp2_with fail;go_round
   case rel=>exact⟨k+1,by omega,by go_num,by rw [E2.out];go_num⟩
   case measure=>simp [intOf];omega
  ·obtain rfl:n=k:=by omega
   rw [HTK.out];obtain⟨s,hs⟩:∃ s,s=(z50 Xs).length:=⟨_,rfl⟩
   have HSS:=kf hs;rw [<- hs];have hsl:s<=1000000000:=by have:=HT.out;omega
   clear hs;go_wp2_with (go_at_call 119;refine(y77 s _ hsl).mono ?_;rintro e w3 ⟨A3,c3,rfl,hg3⟩;have HG3:=kf hg3;clear hg3);go_loopw [6,27] (fun va vb wr=>∃ k:Nat,∃ A2:Option Addr,∃ c2:Nat,k<=n/\vb=.int .i64 k/\va=.slice A2 (z50 (Xs.take k)).length c2/\Hid (GV w wr (z50 (Xs.take k)) (v2t (Xs.take k)) (z50 (Xs.take k)).length A2 c2)) (fun _ vb _=>n-(intOf vb).toNat)
   case atStart=>exact⟨0,A3,c3,Nat.zero_le _,rfl,by simp [z50],kf (by simpa [z50,v2t] using HG3.out)⟩
   case round =>
    obtain⟨k,A2,c2,hk,rfl,rfl,HG⟩:=hrel;by_cases hlt:k<n
    ·obtain⟨x,hx⟩:∃ x,Xs[k]?=some x:=⟨_,List.getElem?_eq_getElem (by have:=HN.out;omega)⟩
     have hc:=(HG.out.chg.cell (p:=⟨b,off+k,none⟩) (by exact z05 (HC.out k x.val (by simp [hx]))) (fun h=>h)).trans (HC.out k x.val (by simp [hx]));unfold SlV.val at hc;have HX:=kf (z57 Xs k x hx);have HOK:=kf (HALL.out x (List.mem_of_getElem? hx));have HSx:=kf (HOK.out.src.below (w0:=w) HG.out.chg);have hlen:=hle.out (k+1);rw [HX.out,z3j,List.length_append] at hlen;have HLN:=kf hlen;obtain⟨xa,xc,xe,xt⟩:=x;clear hlen hx;simp only [] at hc HX HOK HSx HLN
     go_wp2_with (first
      |(at_builtin;go_loud (refine q0v (w:=w) (wr:=wr) (es:=z50 (Xs.take k)) (ts:=v2t (Xs.take k)) (new:=xe) (tn:=xt) rfl (.tmp 31) (.tmp 32) rfl rfl rfl HG.out (Chg.refl _ _) (by have:=HLN.out;omega) (by have:=HLN.out;omega) HSx.out rfl HOK.out.len HOK.out.is ?_);intro A4 c4 w4 hg4 _;have HG4:=kf hg4;clear hg4))
     go_roundw
     case rel =>
      refine⟨k+1,A4,c4,by omega,by go_num,?_,?_⟩
      ·rw [HX.out,z3j];simp
      ·rw [HX.out,z3j,y8k,List.length_append];exact HG4.out
     case measure=>simp [intOf];omega
    ·obtain rfl:n=k:=by omega
     rw [HTK.out] at HG ⊢;go_wp2_with fail;go_ret;exact⟨A2,c2,rfl,HG.out⟩
theorem y4u (b off len cap q r:Nat) (w:World) (hr:r=min (q+2) len) (hc:len<=cap) (hl:len<=1000000000) (hq:q<=len) :
  Calls Tryz.prog 95 #[.slice (some ⟨b,off,none⟩) len cap,.int .i64 (q:Nat)] w fun e w'=>(∃ o,e=.returned (.slice (some ⟨b,o,none⟩) (len-r) (cap-r))/\(r<len->o=off+r*4))/\w'=w:=by
 have e1:min ((q:Int)+2) (len:Int)=(r:Nat):=by omega
 have i1:r<=len:=by omega
 have i2:(r:Int)<=len:=by omega
 clear hr;go_enter Tryz.func95,Tryz.ntmps95;go_wp2_with fail
 all_goals
  go_ret;exact⟨⟨_,rfl,fun h=>by first|rfl|omega⟩,rfl⟩
theorem GV.base {w0 w w':World} {es:List VC} {ts:List VT} {n c:Nat} {A:Option Addr} (h:GV w w' es ts n A c) (hc:Chg NoS w0 w) (hi:∀ (j:Nat) (t:VT) (e:VC),ts[j]?=some t->es[j]?=some e->ValIs w0 t e):GV w0 w' es ts n A c :=
 ⟨h.own,hc.trans h.chg (fun _ _ e=>e),fun a ha=>Nat.le_trans hc.size (h.new a ha),h.len,h.tlen,hi⟩
mutual
def z54 {σ:Type} (step:VT->Nat->σ->σ × Bool):VT->Nat->σ->σ
 |.mk k n s l,d,st=>if (step (.mk k n s l) d st).2 then z33 step l (d+1) (step (.mk k n s l) d st).1 else(step (.mk k n s l) d st).1
def z33 {σ:Type} (step:VT->Nat->σ->σ × Bool):List VT->Nat->σ->σ
 |[],_,st=>st
 |t::l,d,st=>z33 step l d (z54 step t d st)
end
theorem z8b {σ:Type} {step:VT->Nat->σ->σ × Bool} {k n:Int} {s:ByteArray} {l:List VT} {d:Nat} {st:σ} (h:(step (.mk k n s l) d st).2=true):z54 step (.mk k n s l) d st=z33 step l (d+1) (step (.mk k n s l) d st).1:=by rw [z54,if_pos h]
theorem z61 {σ:Type} {step:VT->Nat->σ->σ × Bool} {k n:Int} {s:ByteArray} {l:List VT} {d:Nat} {st:σ} (h:(step (.mk k n s l) d st).2=false):z54 step (.mk k n s l) d st=(step (.mk k n s l) d st).1:=by rw [z54,if_neg (by rw [h];decide)]
theorem z55 {σ:Type} (step:VT->Nat->σ->σ × Bool) (t:VT) (l:List VT) (d:Nat) (st:σ):z33 step (t::l) d st=z33 step l d (z54 step t d st):=by rw [z33]
structure SeeOf (w0:World) (g:Nat) (lb:Array Value) {σ:Type} (S:Nat->Prop) (J:σ->World->Prop) (step:VT->Nat->σ->σ × Bool):Prop where
 chg:∀ st W,J st W->Chg NoS w0 W
 keep:∀ st W W',J st W->Chg NoS W W'->J st W'
 low:∀ st W,J st W->∀ i,S i->i<W.heap.size
 see:∀ (t:VT) (c:VC) (d:Nat) (st:σ) (W:World),ValIs W t c->J st W->d<=2000000000->Calls Tryz.prog g (#[c.val,.int .i64 (d:Nat)]++lb) W fun e w'=>e=.returned (.bool (step t d st).2)/\J (step t d st).1 w'/\Chg S W w'
theorem RowIs.at0 {w w':World} {b off j:Nat} {t:VT} {l:List VT} (h:RowIs w (some ⟨b,off,none⟩) j (t::l)) (hc:Chg NoS w w'):∃ (ek en:Int) (es:ByteArray) (eA:Option Addr) (el ec:Nat),
  w'.cell? ⟨b,off+j*4,none⟩=some (.int .i64 ek)/\w'.cell? ⟨b,off+j*4+1,none⟩=some (.int .i64 en)/\w'.cell? ⟨b,off+j*4+2,none⟩=some (.string es)/\w'.cell? ⟨b,off+j*4+3,none⟩=some (.slice eA el ec)/\ValIs w t ⟨ek,en,es,eA,el,ec⟩/\RowIs w (some ⟨b,off,none⟩) (j+1) l:=by
 obtain⟨⟨ek,en,es,eA,el,ec⟩,h0,h1,h2,h3,hv,hr⟩:=h.plain;refine⟨ek,en,es,eA,el,ec,?_,?_,?_,?_,hv,hr⟩
 ·exact(hc.cell (p:=⟨b,_,none⟩) (by exact z05 h0) (fun e=>e)).trans h0
 ·exact(hc.cell (p:=⟨b,_,none⟩) (by exact z05 h1) (fun e=>e)).trans h1
 ·exact(hc.cell (p:=⟨b,_,none⟩) (by exact z05 h2) (fun e=>e)).trans h2
 ·exact(hc.cell (p:=⟨b,_,none⟩) (by exact z05 h3) (fun e=>e)).trans h3
theorem Chg.weak {S:Nat->Prop} {w w':World} (h:Chg NoS w w'):Chg S w w':=(Chg.refl S w).trans h (fun _ _ e=>absurd e (fun e=>e))
theorem v2x {σ:Type} (w0:World) (g:Nat) (lb:Array Value) (eg:∀ args w,(callFunc g args).run Tryz.prog w=.ok (.enter g args) w) (S:Nat->Prop) (J:σ->World->Prop) (step:VT->Nat->σ->σ × Bool) (hs:SeeOf w0 g lb S J step) :
  ∀ (N:Nat) (t:VT),z1h t<=N->∀ (c:VC) (d:Nat) (st:σ) (w:World),ValIs w0 t c->J st w->d+N<=2000000000 ->
  Calls Tryz.prog 36 #[c.val,.int .i64 (d:Nat),.func (.func g) #[] lb] w fun e w'=>e=.returned (.tuple #[])/\J (z54 step t d st) w'/\Chg S w w':=by
 intro N;induction N with
 |zero =>
  intro t ht;obtain⟨k,n,s,l⟩:=t;rw [z0f] at ht;omega
 |succ N ih =>
  intro t ht c d st w hv hj hd;have HV:=kf hv;obtain⟨tk,tn,ts,l⟩:=t;obtain⟨h1,h2,h3,hg,hl,hr⟩:=hv.inv;obtain⟨ck,cn,cs,A,len,cap⟩:=c;simp only [] at h1 h2 h3 hl hr;subst h1 h2 h3;rw [z0f] at ht;have hcap:=hg.cap;have hlm:=hg.len;simp only [] at hcap hlm;unfold maxLen at hlm;have HL:=kf hl;have HR:=kf hr;have HIH:=kf (fun(t':VT) (ht':z1h t'<=z1n l)=>ih t' (by omega));unfold VC.val;simp only [];have HB:=kf (Blk.new w 24 #[.int .i64 ck,.int .i64 cn,.string cs,.slice A len cap]);have hc0:=((Chg.refl NoS w).alloc (.cells #[.int .i64 ck,.int .i64 cn,.string cs,.slice A len cap] 24))
  have HC0:=kf (Chg.weak (S:=S) hc0);have HJ0:=kf (hs.keep _ _ _ hj hc0);have HNS:Hid (¬S w.heap.size):=fun h=>absurd (hs.low _ _ hj _ h) (Nat.lt_irrefl _);obtain⟨W0,hW⟩:∃ W0,W0=w.alloc (.cells #[.int .i64 ck,.int .i64 cn,.string cs,.slice A len cap] 24):=⟨_,rfl⟩
  obtain⟨gb,hgg⟩:∃ gb,gb=w.heap.size:=⟨_,rfl⟩
  rw [<- hW] at HB HC0 HJ0;rw [<- hgg] at HB HNS;have HX:=kf (hs.see (.mk ck cn cs l) ⟨ck,cn,cs,A,len,cap⟩ d st W0 (HV.out.chg (hs.chg _ _ HJ0.out)) HJ0.out (by omega));unfold VC.val at HX;simp only [] at HX;obtain⟨bb,hbb⟩:∃ bb,bb=(step (.mk ck cn cs l) d st).2:=⟨_,rfl⟩
  obtain⟨s1,hs1⟩:∃ s1,s1=(step (.mk ck cn cs l) d st).1:=⟨_,rfl⟩
  have p0:=HB.out.cell 0;have p1:=HB.out.cell 1;have p2:=HB.out.cell 2;have p3:=HB.out.cell 3;simp at p0 p1 p2 p3;have HS:=kf hs;rw [<- hbb,<- hs1] at HX;have HBB:=kf hbb;have HS1:=kf hs1;clear hv hg hl hr ih ht hc0 hj hbb hs1 hs;cases bb with
  |false =>
   have HE:=kf (show z54 step (.mk ck cn cs l) d st=s1 from by rw [z61 HBB.out.symm,HS1.out]);go_enter Tryz.func36,Tryz.ntmps36;go_upto_region 1 with fail;rw [<- hgg,<- hW];clear hgg hW;go_wp2_with (go_at_fn g;refine HX.out.mono ?_;rintro e w3 ⟨rfl,hj3,hc3⟩;have HJ3:=kf hj3;have HC3:=kf (HC0.out.trans hc3 (fun _ _ e=>e));clear hj3 hc3);(try simp only [Exit.inBlock,Exit.then])
   refine bodyPost_ret (results_none rfl _ _ _) rfl ?_;exact⟨rfl,by rw [HE.out];exact HJ3.out,HC3.out⟩
  |true =>
   have HE:=kf (show z54 step (.mk ck cn cs l) d st=z33 step l (d+1) s1 from by rw [z8b HBB.out.symm,HS1.out]);go_enter Tryz.func36,Tryz.ntmps36;go_upto_region 1 with fail;rw [<- hgg,<- hW];clear hgg hW;go_upto_region 2 with(go_at_fn g;refine HX.out.mono ?_;rintro e w3 ⟨rfl,hj3,hc3⟩;have HJ3:=kf hj3;have HB3:=kf (HB.out.chg hc3 HNS.out);have HC3:=kf (HC0.out.trans hc3 (fun _ _ e=>e));clear hj3 hc3);clear p0 p1 p2 p3;have q3:=HB3.out.cell 3;simp at q3;go_upto_region 3 with fail;clear q3;go_loopw [16] (fun vk wr=>∃ (k:Nat) (s2:σ),k<=len/\vk=.int .i64 (k:Nat)/\Hid (J s2 wr)/\Hid (Chg S w wr)/\Hid (RowIs w0 A k (l.drop k))/\Hid (z33 step l (d+1) s1=z33 step (l.drop k) (d+1) s2)) (fun vk _=>len-(intOf vk).toNat)
   case atStart=>exact⟨0,s1,by omega,rfl,HJ3,HC3,by rw [List.drop_zero];exact HR.out,kf (by rw [List.drop_zero])⟩
   case round =>
    obtain⟨k,s2,hk,rfl,HJW,HCW,HRW,HFW⟩:=hrel;by_cases h1:k<len
    ·obtain⟨t',ht',hdd⟩:=z0s (l:=l) (k:=k) (by rw [HL.out];exact h1)
     obtain⟨b,off,rfl⟩:∃ b off,A=some ⟨b,off,none⟩:=by
      have h:=HR.out;cases hll:l with
      |nil=>rw [hll] at ht';simp at ht'
      |cons t0 l0=>rw [hll] at h;exact h.start
     have hrw:=HRW.out;rw [hdd] at hrw;obtain⟨ek,en,es,eA,el,ec,c0,c1,c2,c3,hv',hr'⟩:=hrw.at0 (HS.out.chg _ _ HJW.out);have HX2:=kf (fun(W:World) (h:Chg NoS wr W)=>HIH.out t' (z2u ht') ⟨ek,en,es,eA,el,ec⟩ (d+1) s2 W hv' (HS.out.keep _ _ _ HJW.out h) (by omega));unfold VC.val at HX2;simp only [] at HX2;have HRN:=kf hr';obtain⟨s4,hs4⟩:∃ s4,s4=z54 step t' (d+1) s2:=⟨_,rfl⟩
     have HFN:=kf (show z33 step l (d+1) s1=z33 step (l.drop (k+1)) (d+1) s4 from by rw [HFW.out,hdd,z55,hs4]);rw [<- hs4] at HX2;have i1:(k:Int)<len:=by omega
     have hdi:((d+1:Nat):Int)=(d:Int)+1:=by omega
     rw [hdi] at HX2;clear hrw hv' hr' hdd ht' hs4 hdi;go_wp2_with (go_at_call 36;refine(HX2.out _ ((Chg.refl NoS wr).alloc _)).mono ?_;rintro e w4 ⟨rfl,hj4,hc4⟩;have HJ4:=kf hj4;have HC4:=kf ((HCW.out.alloc _).trans hc4 (fun _ _ e=>e));clear hj4 hc4);go_roundw
     case rel=>exact⟨k+1,s4,by omega,by go_num,HJ4,HC4,HRN,HFN⟩
     case measure=>simp [intOf];omega
    ·obtain rfl:k=len:=by omega
     have HFE:=kf (show z33 step l (d+1) s1=s2 from by rw [HFW.out,List.drop_of_length_le (by rw [HL.out];exact Nat.le_refl _),z33]);go_wp2_with fail;go_end0;exact⟨rfl,by rw [HE.out,HFE.out];exact HJW.out,HCW.out⟩
theorem y27 {σ:Type} (w0:World) (g:Nat) (lb:Array Value) (eg:∀ args w,(callFunc g args).run Tryz.prog w=.ok (.enter g args) w) (S:Nat->Prop) (J:σ->World->Prop) (step:VT->Nat->σ->σ × Bool) (hs:SeeOf w0 g lb S J step)
  (t:VT) (c:VC) (d:Nat) (st:σ) (w:World) (hv:ValIs w0 t c) (hj:J st w) (hd:d+z1h t<=2000000000) :
  Calls Tryz.prog 36 #[c.val,.int .i64 (d:Nat),.func (.func g) #[] lb] w fun e w'=>e=.returned (.tuple #[])/\J (z54 step t d st) w'/\Chg S w w' :=
 v2x w0 g lb eg S J step hs _ t (Nat.le_refl _) c d st w hv hj hd
def z4j (p:ByteArray->Bool):List VT->Nat
 |[]=>0
 |[t]=>if t.kind=5/\p t.str=true then 0 else 1
 |t::_::l=>if t.kind=5/\p t.str=true then 0 else z4j p l+2
theorem z8r {p:ByteArray->Bool} {t:VT} {l:List VT} (h:t.kind=5/\p t.str=true):z4j p (t::l)=0:=by
 cases l with
 |nil=>rw [z4j,if_pos h]
 |cons u l=>rw [z4j,if_pos h]
theorem y2v {p:ByteArray->Bool} {t:VT} (h:¬(t.kind=5/\p t.str=true)):z4j p [t]=1:=by rw [z4j,if_neg h]
theorem y2u {p:ByteArray->Bool} {t u:VT} {l:List VT} (h:¬(t.kind=5/\p t.str=true)):z4j p (t::u::l)=z4j p l+2:=by rw [z4j,if_neg h]
theorem y67 (p:ByteArray->Bool):∀ l:List VT,z4j p l<=l.length
 |[]=>Nat.le_refl _
 |[t]=>by rw [z4j];split<;>simp
 |t::u::l=>by
  have:=y67 p l;rw [z4j];split
  ·simp
  ·simp only [List.length_cons];omega
def pEq (key s:ByteArray):Bool:=s.toList==key.toList
theorem pEq_iff {key:ByteArray} {t:VT}:(t.kind=5/\pEq key t.str=true)↔z7g key t:=by
 unfold pEq z7g;constructor
 ·rintro⟨h1,h2⟩;exact⟨h1,z2o (by simpa using h2)⟩
 ·rintro⟨h1,h2⟩;exact⟨h1,by rw [h2];simp⟩
theorem y2t (key:ByteArray):∀ l:List VT,(∃ j,z0n key l=some j/\z4j (pEq key) l=2*j/\2*j<l.length)\/(z0n key l=none/\z4j (pEq key) l=l.length)
 |[]=>.inr ⟨z16 key,rfl⟩
 |[t]=>by
  by_cases h:z7g key t
  ·exact .inl ⟨0,z1b h,z8r (pEq_iff.2 h),by simp⟩
  ·exact .inr ⟨by rw [z3s h];rfl,y2v (fun e=>h (pEq_iff.1 e))⟩
 |t::u::l=>by
  by_cases h:z7g key t
  ·exact .inl ⟨0,z1b h,z8r (pEq_iff.2 h),by simp⟩
  ·have h2:=y2u (l:=l) (u:=u) (fun e=>h (pEq_iff.1 e));have h3:=z3s (l:=u::l) h;rw [List.drop_succ_cons,List.drop_zero] at h3;rcases y2t key l with⟨j,e1,e2,e3⟩|⟨e1,e2⟩
   ·exact .inl ⟨j+1,by rw [h3,e1];rfl,by rw [h2,e2];omega,by simp only [List.length_cons];omega⟩
   ·exact .inr ⟨by rw [h3,e1];rfl,by rw [h2,e2];simp only [List.length_cons]⟩
theorem y09 {p:ByteArray->Bool} {l:List VT} {q:Nat} {t:VT} (hd:l.drop q=t::l.drop (q+1)) (h:¬(t.kind=5/\p t.str=true)) (he:z4j p l=q+z4j p (l.drop q)) (hq:q<l.length) :
  (z4j p l=(q+2)+z4j p (l.drop (q+2))/\q+2<=l.length)\/(q+2=l.length+1/\z4j p l=l.length):=by
 by_cases h1:q+1<l.length
 ·have h2:l.drop (q+1)=l[q+1]::l.drop (q+2):=List.drop_eq_getElem_cons h1;rw [he,hd,h2,y2u h];exact .inl ⟨by omega,by omega⟩
 ·have h2:l.drop (q+1)=[]:=List.drop_of_length_le (by omega);rw [he,hd,h2,y2v h];exact .inr ⟨by omega,by omega⟩
theorem v15 (p:ByteArray->Bool) (g:Nat) (lb:Array Value) (eg:∀ args w,(callFunc g args).run Tryz.prog w=.ok (.enter g args) w) (l:List VT) (A:Option Addr) (len cap:Nat) (w0 w:World) (hl:l.length=len) (hlm:len<=1000000000) (hr:RowIs w0 A 0 l) (hc:Chg NoS w0 w)
  (hp:∀ s:ByteArray,Calls Tryz.prog g (#[.string s]++lb) w fun e w'=>e=.returned (.bool (p s))/\w=w') :
  Calls Tryz.prog 84 #[.slice A len cap,.func (.func g) #[] lb] w fun e w'=>e=.returned (.int .i64 ((z4j p l:Nat):Int))/\w=w':=by
 have HL:=kf hl;have HR:=kf hr;have HC:=kf hc;have HP:=kf hp;have HQL:=kf (y67 p l);clear hl hr hc hp;go_enter Tryz.func84,Tryz.ntmps84;go_upto_region 2 with fail;go_loop [5] (fun va=>∃ q:Nat,q<=len+1/\va=.int .i64 (q:Nat)/\Hid ((z4j p l=q+z4j p (l.drop q)/\q<=len)\/(q=len+1/\z4j p l=len))) (fun va=>len+1-(intOf va).toNat)
 case atStart=>exact⟨0,by omega,rfl,.inl ⟨by rw [List.drop_zero,Nat.zero_add],by omega⟩⟩
 case round =>
  obtain⟨q,hq,rfl,HQ⟩:=hrel;by_cases h1:q<len
  ·obtain⟨t,ht,hd⟩:=z0s (l:=l) (k:=q) (by rw [HL.out];exact h1)
   obtain⟨b,off,rfl⟩:∃ b off,A=some ⟨b,off,none⟩:=by
    have h:=HR.out;cases hll:l with
    |nil=>rw [hll] at ht;simp at ht
    |cons t0 l0=>rw [hll] at h;exact h.start
   obtain⟨eA,el,ec,c0,_,c2,_,_⟩:=HR.out.nth HC.out ht;have i1:(q:Int)<len:=by omega
   have he:z4j p l=q+z4j p (l.drop q):=by
    rcases HQ.out with h|h
    ·exact h.1
    ·omega
   have HE:=kf he;have HD:=kf hd;obtain⟨tk,htk⟩:∃ tk,t.kind=tk:=⟨_,rfl⟩
   obtain⟨ts,hts⟩:∃ ts,t.str=ts:=⟨_,rfl⟩
   rw [htk] at c0;rw [hts] at c2;have HTK:=kf htk;have HTS:=kf hts;have hcl:=HP.out ts;clear htk hts he hd ht;by_cases h5:tk=5
   ·subst h5;cases hpb:p ts with
    |true =>
     rw [hpb] at hcl;have HF:=kf (show z4j p l=q from by rw [HE.out,HD.out,z8r ⟨HTK.out,by rw [HTS.out];exact hpb⟩,Nat.add_zero]);clear hpb;go_wp2_with (go_at_fn g;refine hcl.mono ?_;rintro e w' ⟨rfl,rfl⟩);go_ret;exact⟨z00 (by rw [HF.out]),rfl⟩
    |false =>
     rw [hpb] at hcl;have HF:=kf (y09 HD.out (fun h=>by rw [HTS.out,hpb] at h;exact absurd h.2 (by decide)) HE.out (by rw [HL.out];exact h1));rw [HL.out] at HF;clear hpb;go_wp2_with (go_at_fn g;refine hcl.mono ?_;rintro e w' ⟨rfl,rfl⟩);go_round
     case rel=>exact⟨q+2,by omega,by go_num,HF⟩
     case measure=>simp [intOf];omega
   ·have e5:(tk==5)=false:=by simpa using h5
    have HF:=kf (y09 HD.out (fun h=>h5 (by rw [<- HTK.out];exact h.1)) HE.out (by rw [HL.out];exact h1));rw [HL.out] at HF;clear h5 hcl;go_wp2_with fail;go_round
    case rel=>exact⟨q+2,by omega,by go_num,HF⟩
    case measure=>simp [intOf];omega
  ·have HF:Hid (z4j p l=len):=by
    show _=_;rcases HQ.out with h|h
    ·rw [h.1,List.drop_of_length_le (by rw [HL.out];omega),z4j];omega
    ·exact h.2
   have d1:decide ((q:Int)<len)=false:=by simp;omega
   have d1':decide (q<len)=false:=by simp;omega
   go_wp2_with fail;go_ret;exact⟨z00 (by rw [HF.out]),rfl⟩
theorem v43 (key s:ByteArray) (g:Nat) (w:World) (h:w.cell? ⟨g,0,none⟩=some (.string key)) :
  Calls Tryz.prog 85 #[.string s,.pointer (some ⟨g,0,none⟩)] w fun e w'=>e=.returned (.bool (pEq key s))/\w=w':=by
 unfold pEq;go_enter Tryz.func85,Tryz.ntmps85;go_wp2_with fail;go_ret;exact⟨rfl,rfl⟩
def v5z (w:World) (k:Int) (l:List VT) (key:ByteArray) (e:Ending) (w':World):Prop :=
 ∃ (q:Nat) (b:Bool),e=.returned (.tuple #[.int .i64 (q:Nat),.bool b])/\Chg NoS w w'/\((b=false/\(k≠7\/k=7/\z0n key l=none))\/(b=true/\k=7/\∃ j,z0n key l=some j/\q=2*j/\q<l.length))
theorem y0b (c:VC) (l:List VT) (key:ByteArray) (w:World) (hv:ValIs w (.mk c.k c.n c.s l) c) (hsz:z1n l<=1000000000) :
  Calls Tryz.prog 61 #[c.val,.string key] w (v5z w c.k l key):=by
 obtain⟨_,_,_,hg,hl,hr⟩:=hv.inv;obtain⟨k,n,s,A,len,cap⟩:=c;simp only [] at hl hr;have hl9:len<=1000000000:=by have:=z63 l;omega
 unfold VC.val;simp only [];have HC0:=kf (((Chg.refl NoS w).alloc (.cells #[.int .i64 k,.int .i64 n,.string s,.slice A len cap] 24)).alloc (.cells #[.string key] 9));have hb:=((Blk.new w 24 #[.int .i64 k,.int .i64 n,.string s,.slice A len cap]).alloc (.cells #[.string key] 9))
 have p0:=hb.cell 0;have p3:=hb.cell 3;simp at p0 p3;have hk1:=(Blk.new (w.alloc (.cells #[.int .i64 k,.int .i64 n,.string s,.slice A len cap] 24)) 9 #[.string key]).cell 0;rw [World.size_alloc,show(#[Value.string key]:Array Value)[0]?=some (.string key) from rfl] at hk1;have HF:=kf (v15 (pEq key) 85 #[.pointer (some ⟨w.heap.size+1,0,none⟩)] (fun args w=>rfl) l A len cap w _ hl hl9 hr HC0.out (fun s=>v43 key s _ _ hk1));have HP:=kf (y2t key l);have HL:=kf hl;obtain⟨q,hq⟩:∃ q,z4j (pEq key) l=q:=⟨_,rfl⟩
 rw [hq] at HF HP;clear hb hk1 hv hg hr hl hsz hq;by_cases h7:k=7
 ·subst h7;by_cases hlt:q<len
  ·have HE:Hid (∃ j,z0n key l=some j/\q=2*j/\q<l.length):=by
    show ∃ _,_;rcases HP.out with⟨j,h1,h2,h3⟩|⟨h1,h2⟩
    ·exact⟨j,h1,h2,by rw [HL.out];exact hlt⟩
    ·rw [HL.out] at h2;omega
   have d1:decide ((q:Int)<len)=true:=by simp;omega
   have d1':decide (q<len)=true:=by simp;omega
   clear hlt;go_enter Tryz.func61,Tryz.ntmps61;go_upto_region 4 with(go_at_call 84;refine HF.out.mono ?_;rintro e w3 ⟨rfl,rfl⟩);go_quiet (fail);go_wp2_with fail;go_ret2;exact⟨q,true,rfl,HC0.out.drewN _,.inr ⟨rfl,rfl,HE.out⟩⟩
  ·have HE:Hid (z0n key l=none):=by
    show _=_;rcases HP.out with⟨j,h1,h2,h3⟩|⟨h1,h2⟩
    ·rw [HL.out] at h3;omega
    ·exact h1
   have d1:decide ((q:Int)<len)=false:=by simp;omega
   have d1':decide (q<len)=false:=by simp;omega
   clear hlt;go_enter Tryz.func61,Tryz.ntmps61;go_upto_region 4 with(go_at_call 84;refine HF.out.mono ?_;rintro e w3 ⟨rfl,rfl⟩);go_quiet (fail);go_wp2_with fail;go_ret2;exact⟨q,false,rfl,HC0.out.drewN _,.inl ⟨rfl,.inr ⟨rfl,HE.out⟩⟩⟩
 ·have e7:(k==7)=false:=by simpa using h7
  have e7':(k != 7)=true:=by simpa using h7
  have HK:=kf h7;clear h7;go_enter Tryz.func61,Tryz.ntmps61;go_wp2_with fail;go_ret2;exact⟨0,false,rfl,HC0.out,.inl ⟨rfl,.inl HK.out⟩⟩
structure PcV (w0 W:World) (A:Option Addr) (m c:Nat) (es:List VC) (ts:List VT):Prop where
 src:Src W 4 A m c (z04 es)
 len:es.length=m
 tlen:ts.length=m
 is:∀ (j:Nat) (t:VT) (e:VC),ts[j]?=some t->es[j]?=some e->ValIs w0 t e
theorem PcV.ok {w0 W:World} {A:Option Addr} {m c:Nat} {es:List VC} {ts:List VT} (h:PcV w0 W A m c es ts) (hc:Chg NoS w0 W):SlV.Ok W W ⟨A,c,es,ts⟩:=by
 have h1:=h.len;subst h1;exact⟨h.src,h.tlen,fun j t e a b=>(h.is j t e a b).chg hc⟩
def v9p (w0 W:World) (N:Nat) (es:List VC) (ts:List VT) (e:Ending) (w':World):Prop :=
 ∃ A3 c3,e=.returned (.slice A3 N c3)/\GV w0 w' es ts N A3 c3/\Chg NoS W w'/\∀ g,g<W.heap.size->(Value.slice A3 N c3).ownBlock≠some g
theorem y98 {W:World} {G:Nat} {T:TypeId} {L:List Value} {n:Nat} (hb:Blk W G T L.toArray) (hn:L.length=n):Src W 1 (some ⟨G,0,none⟩) n n L:=by
 refine⟨by omega,fun e=>(by cases e),fun ad ha j u hj=>?_⟩;cases ha
 have hadd:(⟨G,0,none⟩:Addr).add j=⟨G,j,none⟩:=by unfold Addr.add;split<;>simp_all
 rw [hadd,hb.cell j];simpa using hj
theorem y6x {w0:World} {es es':List VC} {ts ts':List VT} {m:Nat} (h1:es.length=m) (h2:ts.length=m) (hi:∀ (j:Nat) (t:VT) (e:VC),ts[j]?=some t->es[j]?=some e->ValIs w0 t e) (hi':∀ (j:Nat) (t:VT) (e:VC),ts'[j]?=some t->es'[j]?=some e->ValIs w0 t e) :
  ∀ (j:Nat) (t:VT) (e:VC),(ts++ts')[j]?=some t->(es++es')[j]?=some e->ValIs w0 t e:=by
 intro j t e ht he;by_cases hj:j<m
 ·rw [List.getElem?_append_left (by omega)] at ht;rw [List.getElem?_append_left (by omega)] at he;exact hi j t e ht he
 ·rw [List.getElem?_append_right (by omega),h2] at ht;rw [List.getElem?_append_right (by omega),h1] at he;exact hi' _ t e ht he
theorem v25 {w0 W:World} {A B:Option Addr} {m1 c1 m2 c2 N G:Nat} {es1 es2:List VC} {ts1 ts2:List VT} (hc:Chg NoS w0 W) (h1:PcV w0 W A m1 c1 es1 ts1) (h2:PcV w0 W B m2 c2 es2 ts2) (hN:m1+m2=N) (hn:N<=1000000000) (hb:Blk W G 22 #[.slice A m1 c1,.slice B m2 c2]) :
  Calls Tryz.prog 94 #[.slice (some ⟨G,0,none⟩) 2 2] W (v9p w0 W N (es1++es2) (ts1++ts2)):=by
 have e1:=h1.len;have e2:=h2.len;have hl:(z50 [⟨A,c1,es1,ts1⟩,⟨B,c2,es2,ts2⟩]).length=N:=by simp [z50,e1,e2];omega
 have h:=v22 [⟨A,c1,es1,ts1⟩,⟨B,c2,es2,ts2⟩] (some ⟨G,0,none⟩) 2 W (by simp) (by simp) (by rw [hl];exact hn) (y98 (T:=22) (by simpa [SlV.val,e1,e2] using hb) rfl) (by
  intro x hx;simp only [List.mem_cons,List.not_mem_nil,or_false] at hx;rcases hx with rfl|rfl
  ·exact h1.ok hc
  ·exact h2.ok hc)
 rw [hl] at h;refine h.mono ?_;rintro e w' ⟨A3,c3,rfl,hg⟩;simp only [z50,v2t,List.flatMap_cons,List.flatMap_nil,List.append_nil] at hg;refine⟨A3,c3,rfl,hg.base hc (y6x e1 h1.tlen h1.is h2.is),hg.chg,fun g hlt he=>?_⟩;rcases A3 with _|a
 ·cases he
 ·have:=hg.new a rfl;have h5:a.block=g:=Option.some.inj he;omega
theorem v73 {w0 W:World} {A:Option Addr} {c:Nat} (h:A=none->c=0):PcV w0 W A 0 c [] [] :=
 ⟨⟨rfl,fun e=>⟨rfl,h e⟩,fun ad ha j u hj=>(by simp [z04] at hj)⟩,rfl,rfl,fun j t e h=>(by simp at h)⟩
structure Bx (w W:World) (g go:Nat) (cv cz:Array Value) (es:List VC) (ts:List VT) (m:Nat) (A:Option Addr) (c:Nat):Prop where
 b:PB w W g cv
 o:PB w W go cz
 row:GV w W es ts m A c
 nb:(Value.slice A m c).ownBlock≠some g
 no:(Value.slice A m c).ownBlock≠some go
 ne:g≠go
theorem Bx.put {w W:World} {g go:Nat} {k n:Int} {s:ByteArray} {v:Value} {cz:Array Value} {es:List VC} {ts:List VT} {m c:Nat} {A:Option Addr} (h:Bx w W g go #[.int .i64 k,.int .i64 n,.string s,v] cz es ts m A c) :
  Bx w (W.setCell ⟨g,3,none⟩ (.slice A m c)) g go #[.int .i64 k,.int .i64 n,.string s,.slice A m c] cz es ts m A c :=
 ⟨h.b.set 3 _,h.o.far (Ne.symm h.ne) 3 _,h.row.far h.nb h.b.new 3 _,h.nb,h.no,h.ne⟩
theorem Bx.fin {w W:World} {g go:Nat} {k n:Int} {s:ByteArray} {cv cz:Array Value} {es:List VC} {ts:List VT} {m c:Nat} {A:Option Addr} (h:Bx w W g go cv cz es ts m A c) (hz:cz.size=4) (hm:m<=maxLen)
  (hk:-9223372036854775808<=k/\k<=9223372036854775807) (hn:-9223372036854775808<=n/\n<=9223372036854775807) (hs:s.size<=maxLen) (W':World) (hW:W'=(((W.setCell ⟨go,0,none⟩ (.int .i64 k)).setCell ⟨go,1,none⟩ (.int .i64 n)).setCell ⟨go,2,none⟩ (.string s)).setCell ⟨go,3,none⟩ (.slice A m c)) :
  PB w W' go #[.int .i64 k,.int .i64 n,.string s,.slice A m c]/\ValIs W' (.mk k n s ts) ⟨k,n,s,A,m,c⟩/\Chg NoS w W':=by
 subst hW;obtain⟨h1,h2⟩:=h.o.set4 (a:=.int .i64 k) (b:=.int .i64 n) (c:=.string s) (d:=.slice A m c) h.row.chg hz;exact⟨h1,((((h.row.far h.no h.o.new 0 _).far h.no h.o.new 1 _).far h.no h.o.new 2 _).far h.no h.o.new 3 _).val hm k n s hk hn hs,h2⟩
open Go.RowKit Go.Shelf
attribute [local go_sem] Oper.semAt_some
theorem z6m {P:Program} {n:Nat} {g:Operand} {ps:Array Tmp} {assign body:Code} {Q:Exit->Act->World->Prop} {a:Act} {w:World} (h1:1<=n) {gf:Nat} {lb:Array Value}
  (hg:a.eval g=.func (.func gf) #[] lb) (eg:∀ args w,(callFunc gf args).run P w=.ok (.enter gf args) w) (N:Nat) (encs:Nat->Array Value) (hps:∀ t,(encs t).size=ps.size)
  (I:Nat->World->Prop) (hput:∀ t W s o,I t W->W.heap[w.heap.size+1]?=some (.loop s)->I t (W.putObj (w.heap.size+1) o)) (hal:∀ t W o,I t W->I t (W.alloc o)) (hdr:∀ t W k,I t W->I t (W.drewN k)) (h0:I 0 w)
  (hseq:∀ (l:Nat) (J:Nat->World->Prop) (W:World),(∀ t W1,J t W1->I t W1)->(∀ t W1 k,J t W1->J t (W1.drewN k))->(∀ t W1,t<N->J t W1->YieldAt Fence.wide (n-1-1) P l (encs t) W1 fun e W'=>e=.returned (.bool true)/\J (t+1) W')->J 0 W ->
   CallsIn Fence.wide (n-1) P gf (#[.func (.yield l) #[] #[]]++lb) W fun e W'=>(∃ v,e=.returned v)/\J N W')
  (a₁:Nat->Act)
  (hassign:∀ (l t:Nat) (W:World) (K:Act->World->Prop),K (a₁ t) W ->
   assign.wpIn (Fence.wide.inRound l) (n-1-1) P (Exit.then K (fun _ _ _=>False)) { tmps:=(ps.zip (encs t)).foldl (fun t (p,v)=>t.setIfInBounds p v) a.tmps,defers:=[] } W)
  (hbody:∀ (l t:Nat) (W:World),t<N->I t W->body.wpIn (Fence.wide.inRound l) (n-1-1) P (fun e _ W'=>e=.normal/\KeepsFrom w.heap.size W W'/\I (t+1) W') (a₁ t) W)
  (hdone:∀ (D:Nat) (W:World),w.heap.size<=D->I N W->W.heap[D]?=some (.deferred (some []))->Q .normal { a with defers:={ target:=.collected D,args:=#[] }::a.defers } W) :
  (Code.rangeFunc g ps assign body).wpIn Fence.wide n P Q a w:=by
 refine wpIn_rangeFunc ?_;intro fn hfn;obtain⟨R,hR⟩:∃ R:LoopState->Loop,R=fun s=>{ state:=s,pending:=none,fn,tmps:=a.tmps,params:=ps,assign,body,defers:=w.heap.size }:=⟨_,rfl⟩
 obtain⟨V,hV⟩:∃ V,V=(w.alloc (.deferred (some []))).alloc (.loop (R .ready)):=⟨_,rfl⟩
 have hrec:V.heap[w.heap.size+1]?=some (.loop (R .ready)):=by
  have h2:=World.alloc_heap_new (w.alloc (.deferred (some []))) (.loop (R .ready));rw [World.size_alloc] at h2;rw [hV];exact h2
 have hdef:V.heap[w.heap.size]?=some (.deferred (some [])):=by
  rw [hV];exact(Below.heap_alloc _ _ _ (by simp)).trans (World.alloc_heap_new w _)
 have hIV:I 0 V:=by rw [hV];exact hal _ _ _ (hal _ _ _ h0)
 refine⟨w.heap.size+1,[{ target:=.collected w.heap.size,args:=#[] }],V,{ target:=.fn (.func gf) lb,args:=#[.func (.yield (w.heap.size+1)) #[] #[]] },V,gf,#[.func (.yield (w.heap.size+1)) #[] #[]]++lb,V,?_,?_,fun _ _=>trivial,?_,fun _=>h1,?_⟩
 ·rw [hV,hR];exact run_enterLoop_outer _ _ _ _ _
 ·simp only [resolve,hg];simp [go_sem]
 ·simp [invoke,go_sem,eg]
 ·refine(hseq (w.heap.size+1) (fun t W=>I t W/\W.heap[w.heap.size+1]?=some (.loop (R .ready))/\W.heap[w.heap.size]?=some (.deferred (some []))) V (fun _ _ h=>h.1) (fun t W1 k h=>⟨hdr _ _ _ h.1,h.2.1,h.2.2⟩) ?_ ⟨hIV,hrec,hdef⟩).mono ?_
  ·rintro t W ht ⟨hi,hl,hk⟩;have hlt:w.heap.size+1<W.heap.size:=(Array.getElem?_eq_some_iff.1 hl).1;have hy:=run_yield (P:=P) (args:=encs t) hl (by rw [hR];exact hps t);rw [hR] at hy;refine⟨fn,_,assign,body,hy,roundIn_of_wpIn hfn (hassign _ t W _ ⟨_,run_beginRound hl (by rw [hR]),?_⟩)⟩;have hl2:(W.putObj (w.heap.size+1) (.loop { R .ready with state:=.busy })).heap[w.heap.size+1]?=some (.loop { R .ready with state:=.busy }):=World.putObj_heap_same hlt;have hk2:(W.putObj (w.heap.size+1) (.loop { R .ready with state:=.busy })).heap[w.heap.size]?=some (.deferred (some [])):=(World.putObj_heap_other (by omega)).trans hk;refine wpIn_mono (hbody _ t _ ht (hput _ _ _ _ hi hl)) ?_;rintro e a3 W3 ⟨rfl,hkeep,hi3⟩;have hl3:=hkeep.same _ _ (by omega) hl2 rfl;have hk3:=hkeep.same _ _ (Nat.le_refl _) hk2 rfl;have hend:=run_endRound (P:=P) none hl3;refine⟨_,_,hend,rfl,hput _ _ _ _ hi3 hl3,?_,(World.putObj_heap_other (by omega)).trans hk3⟩;rw [World.putObj_heap_same (Array.getElem?_eq_some_iff.1 hl3).1,hR];rfl
  ·rintro e W2 ⟨⟨v,rfl⟩,hi,hl,hk⟩;have hend:=run_endLoop (P:=P) hl (by rw [hR];simp);rw [hR] at hend;exact⟨none,_,hend,hdone _ _ (Nat.le_refl _) (hput _ _ _ _ hi hl) ((World.putObj_heap_other (by omega)).trans hk)⟩
def z3u (b off i:Nat):Value:=.slice (some ⟨b,off+2*i*4,none⟩) 2 2
theorem z5q (w:World) (A:Option Addr) (len cap:Nat) :
  Calls Tryz.prog 30 #[.slice A len cap,.int .i64 2] w fun e w'=>e=.returned (.func (.func 54) #[] #[.pointer (some ⟨w.heap.size,0,none⟩),.pointer (some ⟨w.heap.size+1,0,none⟩)])/\w'=(w.alloc (.cells #[.slice A len cap] 22)).alloc (.cells #[.int .i64 2] 3):=by
 go_enter Tryz.func30,Tryz.ntmps30;go_wp2_with fail;go_ret;exact⟨rfl,rfl⟩
theorem y23 (l m Bs Bn b off cap:Nat) (A:Option Addr) (hm:m<=500000) (hA:0<m->A=some ⟨b,off,none⟩) (hcap:2*m<=cap) (J:Nat->World->Prop) (hJd:∀ t W k,J t W->J t (W.drewN k))
  (hbox:∀ t W1,J t W1->W1.cell? ⟨Bs,0,none⟩=some (.slice A (2*m) cap)/\W1.cell? ⟨Bn,0,none⟩=some (.int .i64 2))
  (hY:∀ t W1,t<m->J t W1->YieldAt Fence.wide 7 Tryz.prog l #[z3u b off t] W1 fun e W'=>e=.returned (.bool true)/\J (t+1) W')
  (W:World) (h0:J 0 W) :
  CallsIn Fence.wide 8 Tryz.prog 54 #[.func (.yield l) #[] #[],.pointer (some ⟨Bs,0,none⟩),.pointer (some ⟨Bn,0,none⟩)] W fun e W'=>(∃ v,e=.returned v)/\J m W':=by
 obtain⟨L,hL⟩:∃ L,L=2*m:=⟨_,rfl⟩
 rw [<- hL] at hbox hcap;have HLL:=kf hL;clear hL;refine callsIn_of_wp Tryz.func54 rfl trivial ?_ rfl;simp only [Tryz.ntmps54,List.size_toArray,List.length_cons,List.length_nil,Nat.reduceAdd,Nat.reduceSub,Array.replicate_succ,Array.replicate_zero,List.push_toArray,List.append_toArray,List.nil_append,List.cons_append];gi_wp2
 gi_loopw [4] (fun i wr=>∃ t p:Nat,t<=m/\Hid (p=2*t)/\i=.int .i64 (p:Nat)/\J t wr) (fun i _=>L-(intOf i).toNat)
 case atStart=>exact⟨0,0,Nat.zero_le _,rfl,by go_num,h0⟩
 case round =>
  obtain⟨t,p,ht,HP,rfl,hJ⟩:=hrel;obtain⟨hs,hn⟩:=hbox t wr hJ;have hp:=HP.out;have hL:=HLL.out;by_cases hlt:t<m
  ·have hmx:Tryz.prog.follows .mixedOrders=true:=by kernel_rfl
   obtain rfl:=hA (by omega);have i1:(p:Int)<L:=by omega
   have i2:(p:Int)<=L:=by omega
   have i3:(p:Int)<=cap:=by omega
   have i4:p<=cap:=by omega
   obtain⟨u,hu⟩:∃ u,u=p+2:=⟨_,rfl⟩
   have e1:(p:Int)+2=(u:Int):=by omega
   have k1:IntKind.i64.wrap (u:Int)=(u:Int):=by rw [IntKind.wrap_i64];omega
   have hmin:(if 2<((L-p:Nat):Int) then 2 else((L-p:Nat):Int))=2:=by split<;>omega
   have hmin2:(if ((L-p:Nat):Int)<2 then((L-p:Nat):Int) else 2)=2:=by split<;>omega
   have hmin3:min 2 ((L-p:Nat):Int)=2:=by omega
   have e2:u-p=2:=by omega
   have j1:(p:Int)<=u:=by omega
   have j2:(u:Int)<=cap:=by omega
   have j3:p<=u:=by omega
   have j4:u<=cap:=by omega
   have hL1000:L<=1000000:=by omega
   have HU:=kf hu;clear hp hL hu;gi_wp2
   gi_quiet (fail)
   have hy0:=hY t (wr.drewN nq) hlt (hJd _ _ _ hJ);unfold z3u at hy0;rw [<- HP.out] at hy0;obtain⟨fn,tmps,assign,body,hy,hR⟩:=hy0;obtain⟨hs2,hn2⟩:=hbox t (wr.drewN nq) (hJd _ _ _ hJ);clear hs hn;gi_wp2
   refine hR.mono ?_;rintro e W3 ⟨rfl,hJ3⟩;obtain⟨hs3,hn3⟩:=hbox (t+1) W3 hJ3;gi_wp2
   go_roundw
   case rel=>exact⟨t+1,u,by omega,(by have h1:=HP.out;have h2:=HU.out;show u=_;omega),by go_num,hJ3⟩
   case measure=>have h2:=HU.out;simp [intOf];omega
  ·have hx:¬((p:Int)<L):=by omega
   obtain rfl:t=m:=by omega
   clear hp hL;gi_wp2
   go_end0;exact⟨⟨_,rfl⟩,hJ⟩
attribute [local go_sem] Oper.semAt_some
def z4m (b off t:Nat):List Value:=(List.range t).map (z3u b off)
theorem y1g (b off t:Nat):z4m b off (t+1)=z4m b off t++[z3u b off t]:=by simp [z4m,List.range_succ]
theorem v7i:(Tryz.prog.info? 22).map (fun i=>(i.zero,i.size,i.bytes))=some (some (.slice none 0 0),1,24):=by kernel_rfl
def ColI (w:World) (b off:Nat) (t:Nat) (W:World):Prop :=
 ∃ v,Boxed W w.heap.size 64 v/\W.ownsRow w.heap.size 22 1 v t (z4m b off t)/\Below w.heap.size w W
theorem y08 {w W:World} (h:Below w.heap.size w W) (l:Nat) (o:Obj) (hl:w.heap.size<=l):Below w.heap.size w (W.putObj l o) :=
 h.trans ⟨rfl,rfl,rfl,by rw [World.putObj_size];exact Nat.le_refl _,fun k hk=>World.putObj_heap_other (by omega)⟩
theorem ColI.put {w W:World} {b off t l:Nat} {o:Obj} (o':Obj) (h:ColI w b off t W) (hl:w.heap.size<l) (ho:W.heap[l]?=some o) (hc:o.isCells=false):ColI w b off t (W.putObj l o'):=by
 obtain⟨v,h1,h2,h3⟩:=h;exact⟨v,(World.putObj_heap_other (by omega)).trans h1,ownsRow_putObj h2 o' ho hc,y08 h3 l o' (by omega)⟩
theorem ColI.alloc {w W:World} {b off t:Nat} (o:Obj) (h:ColI w b off t W):ColI w b off t (W.alloc o):=by
 obtain⟨v,h1,h2,h3⟩:=h;exact⟨v,h1.alloc o,h2.alloc o,h3.alloc h3.size o⟩
theorem ColI.drewN {w W:World} {b off t:Nat} (k:Nat) (h:ColI w b off t W):ColI w b off t (W.drewN k):=by
 obtain⟨v,h1,h2,h3⟩:=h;exact⟨v,h1,h2,⟨h3.os,h3.tape,h3.output,h3.size,h3.block⟩⟩
theorem y8i (m Bs Bn b off cap:Nat) (A:Option Addr) (w:World) (hm:m<=500000) (hA:0<m->A=some ⟨b,off,none⟩) (hcap:2*m<=cap)
  (hbs:w.cell? ⟨Bs,0,none⟩=some (.slice A (2*m) cap)) (hbn:w.cell? ⟨Bn,0,none⟩=some (.int .i64 2)) :
  CallsIn Fence.wide 9 Tryz.prog 53 #[.slice none 0 0,.func (.func 54) #[] #[.pointer (some ⟨Bs,0,none⟩),.pointer (some ⟨Bn,0,none⟩)]] w fun e w' =>
   ∃ v,e=.returned v/\w'.ownsRow w.heap.size 22 1 v m (z4m b off m)/\Below w.heap.size w w':=by
 obtain⟨i0,hi,hz0,hz1,hz2⟩:=info_parts v7i;have l1:Bs<w.heap.size:=z05 hbs;have l2:Bn<w.heap.size:=z05 hbn;refine callsIn_of_wp_marks Tryz.func53 rfl trivial ?_ rfl;simp only [Tryz.ntmps53,List.size_toArray,List.length_cons,List.length_nil,Nat.reduceAdd,Nat.reduceSub,Array.replicate_succ,Array.replicate_zero,List.push_toArray,List.append_toArray,List.nil_append,List.cons_append];gi_wp2
 have hI0:ColI w b off 0 (w.alloc (.cells #[.slice none 0 0] 64)):=⟨.slice none 0 0,Boxed.new w _ _,z43 _ _ _ _,(Below.refl _ w).alloc (Nat.le_refl _) _⟩
 have hsz:(w.alloc (.cells #[.slice none 0 0] 64)).heap.size=w.heap.size+1:=by simp
 refine z6m (gf:=54) (lb:=#[.pointer (some ⟨Bs,0,none⟩),.pointer (some ⟨Bn,0,none⟩)]) (by omega) rfl (enters_of Tryz.func54 (by kernel_rfl) rfl) m
  (fun t=>#[z3u b off t]) (fun _=>rfl) (ColI w b off) (fun t W s o h hl=>h.put o (by rw [hsz];omega) hl rfl) (fun t W o h=>h.alloc o) (fun t W k h=>h.drewN k) hI0 ?seq
  (fun t=>{ tmps:=#[.slice none 0 0,.func (.func 54) #[] #[.pointer (some ⟨Bs,0,none⟩),.pointer (some ⟨Bn,0,none⟩)],.pointer (some ⟨w.heap.size,0,none⟩),undef,.slice none 0 0,z3u b off t,.func (.func 54) #[] #[.pointer (some ⟨Bs,0,none⟩),.pointer (some ⟨Bn,0,none⟩)],z3u b off t,undef,undef,undef,undef,undef],defers:=[] }) ?assign ?body ?done
 case seq =>
  intro l J W hJ hJd hY h0;refine y23 l m Bs Bn b off cap A hm hA hcap J hJd (fun t W1 h=>?_) hY W h0;obtain⟨v,_,_,h3⟩:=hJ t W1 h;exact⟨(World.cell?_of_block (h3.block Bs l1)).trans hbs,(World.cell?_of_block (h3.block Bn l2)).trans hbn⟩
 case assign =>
  intro l t W K hK;gi_wp2
  exact hK
 case done =>
  intro D W hD hI hdf;have hI2:=hI.put (.deferred none) (by rw [hsz] at hD;omega) hdf rfl;obtain⟨v,hv,hr,_⟩:=hI;obtain⟨A1,c1,rfl,_⟩:=z0t hr;have c0:=hv.cell;obtain⟨v2,hv2,hr2,hb2⟩:=hI2
  have hvv:v2=.slice A1 m c1:=by
   have h1:=(World.putObj_heap_other (by rw [hsz] at hD;omega):(W.putObj D (.deferred none)).heap[w.heap.size]?=W.heap[w.heap.size]?)
   have h2:some _=some _:=hv2.symm.trans (h1.trans hv);simp at h2;exact h2
  subst hvv;gi_wp2
  refine⟨by simp,.inl ⟨_,_,rfl,run_takeDeferred hdf,?_⟩⟩;exact⟨.slice A1 m c1,by simp [results,Tryz.results53,go_sem],_,rfl,hr2,hb2⟩
 case body =>
  intro l t W ht hI;unfold z3u;obtain⟨v,hv,hrow,hbl⟩:=hI;obtain⟨A1,c1,rfl,_⟩:=z0t hrow;have c0:=hv.cell;have f0:=hv.frozen;have hbs:=hbl.size;gi_wp2_with (gi_at_builtin;refine wpListIn_append_own _ rfl (.tmp 8) (.tmp 10) 64 rfl w.heap.size 22 i0 (.slice none 0 0) 1 24 Tryz.underlying64 hi hz0 hz1 hz2 rfl (by decide) (.slice A1 t c1) t (z4m b off t) rfl (hrow.alloc _) ⟨W.heap.size,0,none⟩ 1 1 [.slice (some ⟨b,off+2*t*4,none⟩) 2 2] rfl rfl (cell_one_new _ _ _) (by simp [Value.oneCell']) (by unfold maxLen;omega) (by omega) (by simp;omega) ?_;intro v' w3 hown' hg3 hnil3;obtain⟨a1,a2,a3,a4,a5⟩:=hv.appended (by decide) hrow hbs (Nat.le_refl _) hown' hg3;obtain⟨g',cap',rfl⟩:=ownsRow_succ hown';have c3:=a1.cell;have f3:=a1.frozen)
  exact⟨a4.from _,_,a2,by rw [y1g];exact a3,hbl.trans a5⟩
theorem z4b (m Bs Bn b off cap:Nat) (A:Option Addr) (w:World) (hm:m<=500000) (hA:0<m->A=some ⟨b,off,none⟩) (hcap:2*m<=cap)
  (hbs:w.cell? ⟨Bs,0,none⟩=some (.slice A (2*m) cap)) (hbn:w.cell? ⟨Bn,0,none⟩=some (.int .i64 2)) :
  Calls Tryz.prog 29 #[.func (.func 54) #[] #[.pointer (some ⟨Bs,0,none⟩),.pointer (some ⟨Bn,0,none⟩)]] w fun e w' =>
   ∃ v,e=.returned v/\w'.ownsRow w.heap.size 22 1 v m (z4m b off m)/\Below w.heap.size w w':=by
 have HX:=kf (callsIn_wide.1 (y8i m Bs Bn b off cap A w hm hA hcap hbs hbn));go_enter Tryz.func29,Tryz.ntmps29;go_wp2_with (go_at_call 53;refine HX.out.mono ?_;rintro e w2 ⟨v,rfl,hr,hb⟩;obtain⟨A1,c1,rfl,_⟩:=z0t hr;have HR:=kf hr;have HB:=kf hb;clear hr hb);go_ret;exact⟨_,rfl,HR.out,HB.out⟩
theorem z77 (a b:ByteArray):Lib.compareBytes a.data.toList b.data.toList=z5v a b:=by
 have h:∀ x y:List UInt8,Lib.compareBytes x y=if Op.bytesLess x y then -1 else if x≠y then 1 else 0:=by
  intro x;induction x with
  |nil =>
   intro y;cases y with
   |nil=>simp [Lib.compareBytes,Op.bytesLess]
   |cons b y=>simp [Lib.compareBytes,Op.bytesLess]
  |cons a x ih =>
   intro y;cases y with
   |nil=>simp [Lib.compareBytes,Op.bytesLess]
   |cons b y =>
    rw [Lib.compareBytes,Go.Proofs.bytesLess_eq];by_cases h1:a<b
    ·have h2:a::x<b::y:=List.cons_lt_cons_iff.2 (.inl h1);simp [h1,h2]
    ·by_cases h2:b<a
     ·have h3:¬a::x<b::y:=fun h=>by
       rcases List.cons_lt_cons_iff.1 h with h|h
       ·exact h1 h
       ·rw [h.1] at h2;exact absurd h2 (UInt8.lt_irrefl _)
      have h4:a≠b:=fun h=>by rw [h] at h2;exact absurd h2 (UInt8.lt_irrefl _)
      simp [h1,h2,h3,h4]
     ·have h3:a=b:=UInt8.le_antisymm (UInt8.not_lt.1 h2) (UInt8.not_lt.1 h1);subst h3;rw [if_neg h1,if_neg h1,ih,Go.Proofs.bytesLess_eq]
      have h5:(a::x<a::y)↔x<y:=by
       rw [List.cons_lt_cons_iff];constructor
       ·rintro(h|h)
        ·exact absurd h h1
        ·exact h.2
       ·exact fun h=>.inr ⟨rfl,h⟩
      simp [h5]
 rw [h,z5v,ByteArray.toList_eq,ByteArray.toList_eq]
 have h6:(a.data.toList≠b.data.toList)↔a≠b:=by
  constructor
  ·exact fun h e=>h (by rw [e])
  ·exact fun h e=>h (z2o (by rw [ByteArray.toList_eq,ByteArray.toList_eq];exact e))
 simp only [h6]
theorem y89 (x y:Int):Lib.compareInt x y=z9c x y:=by
 unfold Lib.compareInt z9c;repeat' split
 all_goals first|rfl|omega
def or3 (x y z:Int):Int:=if x≠0 then x else if y≠0 then y else z
theorem v5s (k n:Int) (s:ByteArray) (k' n':Int) (s':ByteArray):or3 (z9c k k') (z9c n n') (z5v s s')=z5w k n s k' n' s':=by rw [y8b];rfl
theorem v45 (g:Nat) (x y z:Int) (w:World) (hb:Blk w g 3 #[.int .i64 x,.int .i64 y,.int .i64 z]) :
  Calls Tryz.prog 64 #[.slice (some ⟨g,0,none⟩) 3 3] w fun e w'=>e=.returned (.int .i64 (or3 x y z))/\w'=w:=by
 have c0:=hb.cell 0;have c1:=hb.cell 1;have c2:=hb.cell 2;simp at c0 c1 c2;clear hb;have HE:Hid (∀ v,v=or3 x y z->Ending.returned (.int .i64 v)=.returned (.int .i64 (or3 x y z))):=fun v h=>by rw [h]
 go_enter Tryz.func64,Tryz.ntmps64;go_wp2_with fail;go_loop [8] (fun v=>(v=.int .i64 0)\/(v=.int .i64 1/\x=0)\/(v=.int .i64 2/\x=0/\y=0)\/(v=.int .i64 3/\x=0/\y=0/\z=0)) (fun v=>3-(intOf v).toNat)
 case atStart=>exact .inl rfl
 case round =>
  rcases hrel with rfl|⟨rfl,rfl⟩|⟨rfl,rfl,rfl⟩|⟨rfl,rfl,rfl,rfl⟩
  ·by_cases h:x=0
   ·subst h;go_wp2_with fail;go_round
    case rel=>exact .inr (.inl ⟨by go_num,by first|rfl|trivial⟩)
    case measure=>simp [intOf]
   ·have e1:(x==0)=false:=by simpa using h
    have e2:(x != 0)=true:=by simpa using h
    have HX:=kf h;clear h;go_wp2_with fail;go_ret;exact⟨HE.out _ (by rw [or3,if_pos HX.out]),rfl⟩
  ·by_cases h:y=0
   ·subst h;go_wp2_with fail;go_round
    case rel=>exact .inr (.inr (.inl ⟨by go_num,by first|rfl|trivial,by first|rfl|trivial⟩))
    case measure=>simp [intOf]
   ·have e1:(y==0)=false:=by simpa using h
    have e2:(y != 0)=true:=by simpa using h
    have HX:=kf h;clear h;go_wp2_with fail;go_ret;exact⟨HE.out _ (by rw [or3,if_neg (by simp),if_pos HX.out]),rfl⟩
  ·by_cases h:z=0
   ·subst h;go_wp2_with fail;go_round
    case rel=>exact .inr (.inr (.inr ⟨by go_num,by first|rfl|trivial,by first|rfl|trivial,by first|rfl|trivial⟩))
    case measure=>simp [intOf]
   ·have e1:(z==0)=false:=by simpa using h
    have e2:(z != 0)=true:=by simpa using h
    clear h;go_wp2_with fail;go_ret;exact⟨HE.out _ (by rw [or3,if_neg (by simp),if_neg (by simp)]),rfl⟩
  ·go_wp2_with fail;go_ret;exact⟨HE.out _ (by rw [or3,if_neg (by simp),if_neg (by simp)]),rfl⟩
theorem v1x (l l':List VT) (A A':Option Addr) (len cap len' cap':Nat) (w0 w:World) (hl:l.length=len) (hl':l'.length=len') (hm:len<=maxLen) (hm':len'<=maxLen) (hr:RowIs w0 A 0 l) (hr':RowIs w0 A' 0 l') (hc:Chg NoS w0 w)
  (hcmp:∀ t:VT,z1h t<=z1n l->∀ (t':VT) (c c':VC) (W:World),ValIs W t c->ValIs W t' c'->Calls Tryz.prog 42 #[c.val,c'.val] W fun e w'=>e=.returned (.int .i64 (z36 t t'))/\Chg NoS W w') :
  Calls Tryz.prog 66 #[.slice A len cap,.slice A' len' cap',.func (.func 42) #[] #[]] w fun e w'=>e=.returned (.int .i64 (z2m l l'))/\Chg NoS w w':=by
 unfold maxLen at hm hm';have HL:=kf hl;have HL':=kf hl';have HR:=kf hr;have HR':=kf hr';have HC:=kf hc;have HIH:=kf hcmp;clear hl hl' hr hr' hc hcmp;have eg:∀ args w,(callFunc 42 args).run Tryz.prog w=.ok (.enter 42 args) w:=fun args w=>rfl;go_enter Tryz.func66,Tryz.ntmps66;go_upto_region 2 with fail;go_loopw [13] (fun vj wr=>∃ j:Nat,j<=len/\j<=len'/\vj=.int .i64 (j:Nat)/\Hid (Chg NoS w wr)/\Hid (RowIs w0 A j (l.drop j))/\Hid (RowIs w0 A' j (l'.drop j))/\Hid (z2m l l'=z2m (l.drop j) (l'.drop j))) (fun vj _=>len-(intOf vj).toNat)
 case atStart=>exact⟨0,by omega,by omega,rfl,Chg.refl _ _,by rw [List.drop_zero];exact HR.out,by rw [List.drop_zero];exact HR'.out,kf (by rw [List.drop_zero,List.drop_zero])⟩
 case round =>
  obtain⟨j,hj,hj',rfl,HCW,HRW,HRW',HFW⟩:=hrel;have HCR:=kf (HC.out.trans HCW.out (fun _ _ e=>e));by_cases h1:j<len
  ·obtain⟨u,hu,hd⟩:=z0s (l:=l) (k:=j) (by rw [HL.out];exact h1)
   obtain⟨b,off,rfl⟩:∃ b off,A=some ⟨b,off,none⟩:=by
    have h:=HR.out;cases hll:l with
    |nil=>rw [hll] at hu;simp at hu
    |cons t0 l0=>rw [hll] at h;exact h.start
   have hrw:=HRW.out;rw [hd] at hrw;obtain⟨ek,en,es,eA,el,ec,c0,c1,c2,c3,hve,hre⟩:=hrw.at_ HCR.out;have i1:(j:Int)<len:=by omega
   by_cases h2:j<len'
   ·obtain⟨u',hu',hd'⟩:=z0s (l:=l') (k:=j) (by rw [HL'.out];exact h2)
    obtain⟨b',off',rfl⟩:∃ b off,A'=some ⟨b,off,none⟩:=by
     have h:=HR'.out;cases hll:l' with
     |nil=>rw [hll] at hu';simp at hu'
     |cons t0 l0=>rw [hll] at h;exact h.start
    have hrw':=HRW'.out;rw [hd'] at hrw';obtain⟨fk,fn,fs,fA,fl,fc,x0,x1,x2,x3,hvf,hrf⟩:=hrw'.at_ (HCR.out.alloc (.cells #[.int .i64 ek,.int .i64 en,.string es,.slice eA el ec] 24));have HX:=kf (fun(W:World) (h:Chg NoS (wr.alloc (.cells #[.int .i64 ek,.int .i64 en,.string es,.slice eA el ec] 24)) W)=>HIH.out u (z2u hu) u' ⟨ek,en,es,eA,el,ec⟩ ⟨fk,fn,fs,fA,fl,fc⟩ W (hve.chg (((Chg.refl NoS wr).alloc (.cells #[.int .i64 ek,.int .i64 en,.string es,.slice eA el ec] 24)).trans h (fun _ _ e=>e))) (hvf.chg h));unfold VC.val at HX;simp only [] at HX;have HRN:=kf hre;have HRN':=kf hrf;have HFN:=kf (show z2m l l'=if z36 u u'≠0 then z36 u u' else z2m (l.drop (j+1)) (l'.drop (j+1)) from by rw [HFW.out,hd,hd',z4y]);obtain⟨r,hr9⟩:∃ r,r=z36 u u':=⟨_,rfl⟩
    rw [<- hr9] at HX HFN;have i2:(j:Int)<len':=by omega
    have d1:decide ((len':Int)<=(j:Int))=false:=by simp;omega
    have d1':decide (len'<=j)=false:=by simp;omega
    clear hrw hrw' hve hvf hre hrf hd hd' hu hu' hr9;by_cases hr0:r=0
    ·subst hr0;have HFM:=kf (show z2m l l'=z2m (l.drop (j+1)) (l'.drop (j+1)) from by rw [HFN.out,if_neg (by simp)]);go_wp2_with (go_at_fn 42;refine(HX.out _ ((Chg.refl NoS _).alloc _)).mono ?_;rintro e w3 ⟨rfl,hc3⟩;have HC3:=kf (((HCW.out.alloc _).alloc _).trans hc3 (fun _ _ e=>e));clear hc3);go_roundw
     case rel=>exact⟨j+1,by omega,by omega,by go_num,HC3,HRN,HRN',HFM⟩
     case measure=>simp [intOf];omega
    ·have HFM:=kf (show z2m l l'=r from by rw [HFN.out,if_pos hr0]);have v2:(r != 0)=true:=by simpa using hr0
     have v3:(r==0)=false:=by simpa using hr0
     clear hr0;go_wp2_with (go_at_fn 42;refine(HX.out _ ((Chg.refl NoS _).alloc _)).mono ?_;rintro e w3 ⟨rfl,hc3⟩;have HC3:=kf (((HCW.out.alloc _).alloc _).trans hc3 (fun _ _ e=>e));clear hc3);go_ret;exact⟨z00 HFM.out.symm,HC3.out⟩
   ·have hz1:l'.drop j=[]:=List.drop_of_length_le (by rw [HL'.out];omega);have HE:=kf (show z2m l l'=1 from by rw [HFW.out,hd,hz1,z2m]);clear hz1;obtain rfl:j=len':=by omega
    clear hrw hd hu h2;go_wp2_with fail;go_ret;exact⟨z00 HE.out.symm,HCW.out.alloc _⟩
  ·obtain rfl:j=len:=by omega
   by_cases h2:j<len'
   ·obtain⟨u',hu',hd'⟩:=z0s (l:=l') (k:=j) (by rw [HL'.out];exact h2);have hz1:l.drop j=[]:=List.drop_of_length_le (Nat.le_of_eq HL.out);have HE:=kf (show z2m l l'=-1 from by rw [HFW.out,hd',hz1,z2m]);clear hz1;have d5:decide ((j:Int)<(len':Int))=true:=by simp;omega
    have d6:decide (j<len')=true:=by simp;omega
    clear hd' hu';go_wp2_with fail;go_ret;exact⟨z00 HE.out.symm,HCW.out⟩
   ·obtain rfl:j=len':=by omega
    have hz1:l.drop j=[]:=List.drop_of_length_le (Nat.le_of_eq HL.out);have hz2:l'.drop j=[]:=List.drop_of_length_le (Nat.le_of_eq HL'.out);have HE:=kf (show z2m l l'=0 from by rw [HFW.out,hz1,hz2,z2m]);clear hz1 hz2;go_wp2_with fail;go_ret;exact⟨z00 HE.out.symm,HCW.out⟩
def PRow (w:World) (g cap b off:Nat) (d:List Nat):Prop:=w.ownsRow 0 22 1 (.slice (some ⟨g,0,none⟩) d.length cap) d.length (d.map (z3u b off))
theorem PRow.chg {w w':World} {g cap b off:Nat} {d:List Nat} {K:Nat->Prop} (h:PRow w g cap b off d) (hc:Chg K w w') (hk:¬K g):PRow w' g cap b off d:=z0p h hc (fun i hi=>by
 simp [Value.ownBlock] at hi;subst hi;exact hk)
theorem PRow.cell {w:World} {g cap b off:Nat} {d:List Nat} (h:PRow w g cap b off d) {i x:Nat} (hx:d[i]?=some x):w.cell? ⟨g,i,none⟩=some (z3u b off x):=by
 have hi:i<d.length:=(List.getElem?_eq_some_iff.1 hx).1;have h1:=World.ownsRow.cellAt h i (by omega);rw [h1];simp [hx]
theorem PRow.lt {w:World} {g cap b off:Nat} {d:List Nat} (h:PRow w g cap b off d):g<w.heap.size:=v74 h rfl
def v9o (g:Nat) (b off:Nat) (S:Nat->ByteArray) (M:Nat) (blk:Nat) (w0:World):Prop :=
 ∀ (x y:Nat) (W:World),x<M->y<M->Chg (fun i=>i=blk) w0 W->Calls Tryz.prog g #[z3u b off x,z3u b off y] W fun e w'=>e=.returned (.int .i64 (z5v (S x) (S y)))/\∃ m,w'=W.drewN m
def z6w (S:Nat->ByteArray) (x:Nat):List Nat->List Nat
 |[]=>[x]
 |p::R=>if Op.bytesLess (S x).toList (S p).toList then p::z6w S x R else x::p::R
def z3t (S:Nat->ByteArray) (d:List Nat):List Nat:=d.foldl (fun R x=>z6w S x R) []
theorem y3a (S:Nat->ByteArray) (x:Nat):∀ R:List Nat,(z6w S x R).length=R.length+1
 |[]=>rfl
 |p::R=>by
  rw [z6w];split
  ·rw [List.length_cons,y3a S x R,List.length_cons]
  ·rfl
theorem z7s (S:Nat->ByteArray) (d:List Nat) (x:Nat):z3t S (d++[x])=z6w S x (z3t S d):=by simp [z3t]
theorem y5i (S:Nat->ByteArray) (d:List Nat):(z3t S d).length=d.length:=by
 have h:∀ (d R:List Nat),(d.foldl (fun R x=>z6w S x R) R).length=R.length+d.length:=by
  intro d;induction d with
  |nil=>intro R;rfl
  |cons x d ih=>intro R;rw [List.foldl_cons,ih,y3a,List.length_cons];omega
 have:=h d [];simpa [z3t] using this
theorem z8w {S:Nat->ByteArray} {x y:Nat}:∀ {R:List Nat},y∈z6w S x R->y=x\/y∈R
 |[],h=>by simp [z6w] at h;exact .inl h
 |p::R,h=>by
  rw [z6w] at h;split at h
  ·rcases List.mem_cons.1 h with h|h
   ·exact .inr (List.mem_cons.2 (.inl h))
   ·rcases z8w h with h|h
    ·exact .inl h
    ·exact .inr (List.mem_cons.2 (.inr h))
  ·rcases List.mem_cons.1 h with h|h
   ·exact .inl h
   ·exact .inr h
theorem z9v {S:Nat->ByteArray} {y:Nat} {d:List Nat} (h:y∈z3t S d):y∈d:=by
 have k:∀ (d R:List Nat),y∈d.foldl (fun R x=>z6w S x R) R->y∈R\/y∈d:=by
  intro d;induction d with
  |nil=>intro R h;exact .inl h
  |cons x d ih =>
   intro R h;rw [List.foldl_cons] at h;rcases ih _ h with h|h
   ·rcases z8w h with h|h
    ·exact .inr (List.mem_cons.2 (.inl h))
    ·exact .inl h
   ·exact .inr (List.mem_cons.2 (.inr h))
 rcases k d [] h with h|h
 ·cases h
 ·exact h
theorem v1s (b off g M:Nat) (S:Nat->ByteArray) (w0:World) (hS:∀ x,x<M->w0.cell? ⟨b,off+2*x*4+2,none⟩=some (.string (S x))) (hne:b≠g):v9o 32 b off S M g w0:=by
 intro x y W hx hy hc;have c0:=hS x hx;have c1:=hS y hy;have d0:=(hc.cell (p:=⟨b,off+2*x*4+2,none⟩) (by exact z05 c0) hne).trans c0;have d1:=(hc.cell (p:=⟨b,off+2*y*4+2,none⟩) (by exact z05 c1) hne).trans c1;have HS:=kf (fun(W:World)=>(Go.Proofs.Tryz.strings_Compare (S x) (S y) W).mono (fun e w' h=>(⟨h.1.trans (z00 (z77 _ _)),h.2⟩:e=.returned (.int .i64 (z5v (S x) (S y)))/\w'=W)));obtain⟨z,hz⟩:∃ z,z=z5v (S x) (S y):=⟨_,rfl⟩
 rw [<- hz] at HS ⊢;clear hz c0 c1 hS hc;unfold z3u;go_enter Tryz.func32,Tryz.ntmps32;go_upto_region 1 with fail;go_quiet ((go_at_call 33;refine(HS.out _).mono ?_;rintro e w2 ⟨rfl,rfl⟩;exact⟨rfl,_,rfl⟩));go_wp2_with fail;go_ret;exact⟨rfl,nq,rfl⟩
end Go.Proofs.YtmibnkddappgiaaGreatDoor
namespace Go.Proofs.YtmibnkddappgiaaGreatDoor.PS
def z4d (d:List Int) (i j:Nat):List Int:=(d.set i (d.getD j 0)).set j (d.getD i 0)
theorem z39 (d:List Int) (i j:Nat):(z4d d i j).length=d.length:=by simp [z4d]
theorem z12 (d:List Int) (i j k:Nat) (hi:i<d.length) (hj:j<d.length):(z4d d i j).getD k 0=if k=j then d.getD i 0 else if k=i then d.getD j 0 else d.getD k 0:=by
 unfold z4d;simp only [List.getD_eq_getElem?_getD,List.getElem?_set,List.length_set];by_cases h1:k=j
 ·subst h1;simp [hj]
 ·rw [if_neg (fun e=>h1 e.symm),if_neg h1];by_cases h2:k=i
  ·subst h2;simp [hi]
  ·rw [if_neg (fun e=>h2 e.symm),if_neg h2]
theorem y3y (d:List Int) (i j:Nat) (hi:i<d.length) (hj:j<d.length):(z4d d i j).Perm d:=by
 have e1:d.getD i 0=d[i]:=by simp [List.getD_eq_getElem?_getD,hi]
 have e2:d.getD j 0=d[j]:=by simp [List.getD_eq_getElem?_getD,hj]
 have e3:z4d d i j=(d.set i d[j]).set j d[i]:=by unfold z4d;rw [e1,e2]
 rw [e3,List.perm_iff_count];intro a;rw [List.count_set (by simpa using hj),List.count_set hi];have h1:0<d.count d[i]:=List.count_pos_iff.2 (List.getElem_mem hi);have h2:0<d.count d[j]:=List.count_pos_iff.2 (List.getElem_mem hj);by_cases hij:i=j
 ·subst hij;simp only [List.getElem_set_self];by_cases ha:d[i]=a
  ·subst ha;simp
  ·simp [ha]
 ·rw [List.getElem_set_ne hij];by_cases ha:d[i]=a
  ·by_cases hb:d[j]=a
   ·subst ha;simp [hb]
   ·subst ha;simp [hb]
  ·by_cases hb:d[j]=a
   ·subst hb;simp [ha]
   ·simp [ha,hb]
structure Same (d d':List Int) (a b:Nat):Prop where
 len:d'.length=d.length
 perm:d'.Perm d
 out:∀ i,¬(a<=i/\i<b)->d'.getD i 0=d.getD i 0
 src:∀ i,a<=i->i<b->∃ j,a<=j/\j<b/\d'.getD i 0=d.getD j 0
theorem Same.refl (d:List Int) (a b:Nat):Same d d a b:=⟨rfl,List.Perm.refl _,fun _ _=>rfl,fun i h1 h2=>⟨i,h1,h2,rfl⟩⟩
theorem Same.trans {d e f:List Int} {a b:Nat} (h:Same d e a b) (k:Same e f a b):Same d f a b:=⟨k.len.trans h.len,k.perm.trans h.perm,fun i hi=>(k.out i hi).trans (h.out i hi),fun i h1 h2=>by
 obtain⟨j,j1,j2,j3⟩:=k.src i h1 h2;obtain⟨q,q1,q2,q3⟩:=h.src j j1 j2;exact⟨q,q1,q2,j3.trans q3⟩⟩
theorem Same.wide {d e:List Int} {a b a' b':Nat} (h:Same d e a b) (h1:a'<=a) (h2:b<=b'):Same d e a' b':=⟨h.len,h.perm,fun i hi=>h.out i (by omega),fun i h3 h4=>by
 by_cases hi:a<=i/\i<b
 ·obtain⟨j,j1,j2,j3⟩:=h.src i hi.1 hi.2;exact⟨j,by omega,by omega,j3⟩
 ·exact⟨i,h3,h4,h.out i hi⟩⟩
theorem Same.swap (d:List Int) (a b i j:Nat) (hb:b<=d.length) (hi:a<=i/\i<b) (hj:a<=j/\j<b):Same d (z4d d i j) a b :=
 ⟨z39 d i j,y3y d i j (by omega) (by omega),fun k hk=>by
  rw [z12 d i j k (by omega) (by omega),if_neg (by omega),if_neg (by omega)],fun k h1 h2=>by
  rw [z12 d i j k (by omega) (by omega)];by_cases h3:k=j
  ·exact⟨i,hi.1,hi.2,by rw [if_pos h3]⟩
  ·by_cases h4:k=i
   ·exact⟨j,hj.1,hj.2,by rw [if_neg h3,if_pos h4]⟩
   ·exact⟨k,h1,h2,by rw [if_neg h3,if_neg h4]⟩⟩
def Sorted (key:Int->Int) (d:List Int) (a b:Nat):Prop:=∀ i j,a<=i->i<j->j<b->key (d.getD i 0)<=key (d.getD j 0)
theorem Sorted.part {key:Int->Int} {d:List Int} {a b a' b':Nat} (h:Sorted key d a b) (h1:a<=a') (h2:b'<=b):Sorted key d a' b':=fun i j hi hij hj=>h i j (by omega) hij (by omega)
theorem Sorted.le {key:Int->Int} {d:List Int} {a b i j:Nat} (h:Sorted key d a b) (hi:a<=i) (hij:i<=j) (hj:j<b):key (d.getD i 0)<=key (d.getD j 0):=by
 rcases Nat.eq_or_lt_of_le hij with e|e
 ·subst e;exact Int.le_refl _
 ·exact h i j hi e hj
theorem Sorted.congr {key:Int->Int} {d e:List Int} {a b:Nat} (h:Sorted key d a b) (he:∀ i,a<=i->i<b->e.getD i 0=d.getD i 0):Sorted key e a b:=fun i j hi hij hj=>by
 rw [he i hi (by omega),he j (by omega) hj];exact h i j hi hij hj
theorem v0j {key:Int->Int} {d d':List Int} {a b i:Nat} (h1:a+1<=i) (h2:i<=b) (f1:∀ q,a<=q->q+1<i->d'.getD q 0=d.getD (q+1) 0) (f2:d'.getD (i-1) 0=d.getD a 0) (f3:∀ q,i<=q->q<b->d'.getD q 0=d.getD q 0)
  (k1:∀ k,a<k->k<i->key (d.getD k 0)<=key (d.getD a 0)) (k2:∀ k,i<=k->k<b->key (d.getD a 0)<=key (d.getD k 0)) (hs:Sorted key d (a+1) b):Sorted key d' a b:=by
 intro p q hp hpq hq;by_cases c1:p+1<i
 ·rw [f1 p hp c1];by_cases c2:q+1<i
  ·rw [f1 q (by omega) c2];exact hs.le (by omega) (by omega) (by omega)
  ·by_cases c3:q+1=i
   ·rw [show q=i-1 from by omega,f2];exact k1 _ (by omega) (by omega)
   ·rw [f3 q (by omega) hq];exact Int.le_trans (k1 (p+1) (by omega) (by omega)) (k2 q (by omega) hq)
 ·by_cases c3:p+1=i
  ·rw [show p=i-1 from by omega,f2,f3 q (by omega) hq];exact k2 q (by omega) hq
  ·rw [f3 p (by omega) (by omega),f3 q (by omega) hq];exact hs.le (by omega) (by omega) hq
theorem y70 {key:Int->Int} {d d':List Int} {a m i:Nat} (h1:a<=i) (h2:i<=m) (f1:∀ q,i<q->q<=m->d'.getD q 0=d.getD (q-1) 0) (f2:d'.getD i 0=d.getD m 0) (f3:∀ q,a<=q->q<i->d'.getD q 0=d.getD q 0)
  (k1:∀ k,a<=k->k<i->key (d.getD k 0)<=key (d.getD m 0)) (k2:∀ k,i<=k->k<m->key (d.getD m 0)<=key (d.getD k 0)) (hs:Sorted key d a m):Sorted key d' a (m+1):=by
 intro p q hp hpq hq;by_cases c1:p<i
 ·rw [f3 p hp c1];by_cases c2:q<i
  ·rw [f3 q (by omega) c2];exact hs.le hp (by omega) (by omega)
  ·by_cases c3:q=i
   ·rw [c3,f2];exact k1 p hp c1
   ·rw [f1 q (by omega) (by omega)];exact hs.le hp (by omega) (by omega)
 ·by_cases c3:p=i
  ·rw [c3,f2,f1 q (by omega) (by omega)];exact k2 _ (by omega) (by omega)
  ·rw [f1 p (by omega) (by omega),f1 q (by omega) (by omega)];exact hs.le (by omega) (by omega) (by omega)
theorem z3m {key:Int->Int} {d d1:List Int} {a m b s e mid:Nat} (h1:a<=s) (h2:s<=m) (h3:m<=e) (h4:e<=b) (hmid:mid+m=s+e) (s1:Sorted key d a m) (s2:Sorted key d m b)
  (x1:∀ x y,a<=x->x<s->e<=y->y<b->key (d.getD x 0)<=key (d.getD y 0)) (x2:∀ x y,s<=x->x<m->m<=y->y<e->key (d.getD y 0)<=key (d.getD x 0))
  (f:∀ k,s<=k->k<e->d1.getD k 0=if k<mid then d.getD (m+(k-s)) 0 else d.getD (k-(e-m)) 0) (fo:∀ k,¬(s<=k/\k<e)->d1.getD k 0=d.getD k 0) :
  Sorted key d1 a s/\Sorted key d1 s mid/\Sorted key d1 mid e/\Sorted key d1 e b/\∀ x y,a<=x->x<mid->mid<=y->y<b->key (d1.getD x 0)<=key (d1.getD y 0):=by
 refine⟨(s1.part (Nat.le_refl _) h2).congr (fun i _ hi=>fo i (by omega)),?_,?_,(s2.part h3 (Nat.le_refl _)).congr (fun i hi _=>fo i (by omega)),?_⟩
 ·intro i j hi hij hj;rw [f i hi (by omega),f j (by omega) (by omega),if_pos (by omega),if_pos hj];exact s2.le (by omega) (by omega) (by omega)
 ·intro i j hi hij hj;rw [f i (by omega) (by omega),f j (by omega) hj,if_neg (by omega),if_neg (by omega)];exact s1.le (by omega) (by omega) (by omega)
 ·intro x y hx hxm hy hyb;by_cases c1:x<s
  ·rw [fo x (by omega)];by_cases c2:y<e
   ·rw [f y (by omega) c2,if_neg (by omega)];exact s1.le hx (by omega) (by omega)
   ·rw [fo y (by omega)];exact x1 x y hx c1 (by omega) hyb
  ·rw [f x (by omega) (by omega),if_pos hxm];by_cases c2:y<e
   ·rw [f y (by omega) c2,if_neg (by omega)];exact x2 _ _ (by omega) (by omega) (by omega) (by omega)
   ·rw [fo y (by omega)];exact s2.le (by omega) (by omega) hyb
theorem z03 {key:Int->Int} {d1 d2 d3:List Int} {a mid b:Nat} (h:Same d1 d2 a mid) (k:Same d2 d3 mid b) (hs:Sorted key d2 a mid) (ks:Sorted key d3 mid b)
  (hx:∀ x y,a<=x->x<mid->mid<=y->y<b->key (d1.getD x 0)<=key (d1.getD y 0)):Sorted key d3 a b:=by
 intro p q hp hpq hq;by_cases c1:q<mid
 ·rw [k.out p (by omega),k.out q (by omega)];exact hs p q hp hpq c1
 ·by_cases c2:p<mid
  ·obtain⟨x,x1,x2,x3⟩:=h.src p hp c2;obtain⟨y,y1,y2,y3⟩:=k.src q (by omega) hq;rw [k.out p (by omega),x3,y3,h.out y (by omega)];exact hx x y x1 x2 y1 y2
  ·exact ks p q (by omega) hpq hq
def kk (key:Int->Int) (N:Int) (x:Int):Int:=key x*N+x
theorem v7h {key:Int->Int} {N x y:Int} (hx:0<=x/\x<N) (hy:0<=y/\y<N):kk key N x<kk key N y↔key x<key y\/(key x=key y/\x<y):=by
 have h1:∀ {a b:Int},a<b->a*N+N<=b*N:=fun {a b} h=>by
  have:=Int.mul_le_mul_of_nonneg_right (show a+1<=b from h) (show 0<=N by omega);rw [Int.add_mul,Int.one_mul] at this;exact this
 unfold kk;constructor
 ·intro h;rcases Int.lt_trichotomy (key x) (key y) with h2|h2|h2
  ·exact .inl h2
  ·rw [h2] at h;exact .inr ⟨h2,by omega⟩
  ·have:=h1 h2;omega
 ·rintro(h|⟨h,h2⟩)
  ·have:=h1 h;omega
  ·rw [h];omega
theorem kk_le {key:Int->Int} {N x y:Int} (hx:0<=x/\x<N) (hy:0<=y/\y<N) (h:kk key N x<=kk key N y):key x<=key y/\(key x=key y->x<=y):=by
 have h1:=mt (v7h (key:=key) hy hx).2 (by omega);exact⟨by omega,fun e=>by omega⟩
def InTurn (key:Int->Int) (d:List Int):Prop:=∀ p q,p<q->q<d.length->key (d.getD p 0)=key (d.getD q 0)->d.getD p 0<=d.getD q 0
theorem InTurn.part {key:Int->Int} {d d':List Int} {a b:Nat} (h:InTurn key d) (hs:Same d d' a b) (hb:b<=d.length) (hq:∀ p q,a<=p->p<q->q<b->key (d'.getD p 0)=key (d'.getD q 0)->d'.getD p 0<=d'.getD q 0):InTurn key d':=by
 intro p q hpq hq2 he;have hlen:=hs.len;by_cases hp:a<=p/\p<b
 ·by_cases hq3:q<b
  ·exact hq p q hp.1 hpq hq3 he
  ·obtain⟨p',h1,h2,h3⟩:=hs.src p hp.1 hp.2;rw [h3,hs.out q (by omega)] at he ⊢;exact h p' q (by omega) (by omega) he
 ·by_cases hq3:a<=q/\q<b
  ·obtain⟨q',h1,h2,h3⟩:=hs.src q hq3.1 hq3.2;rw [hs.out p hp,h3] at he ⊢;exact h p q' (by omega) (by omega) he
  ·rw [hs.out p hp,hs.out q hq3] at he ⊢;exact h p q hpq (by omega) he
theorem InTurn.same {key0 key:Int->Int} {N:Int} {d d':List Int} {a b:Nat} (hk:key=kk key0 N) (h:InTurn key0 d) (hs:Same d d' a b) (hb:b<=d.length) (hg:∀ i,i<d'.length->0<=d'.getD i 0/\d'.getD i 0<N) (hq:Sorted key d' a b):InTurn key0 d':=by
 subst hk;have hlen:=hs.len;exact h.part hs hb fun p q h1 h2 h3 he=>(kk_le (hg p (by omega)) (hg q (by omega)) (hq p q h1 h2 h3)).2 he
theorem z7q {key0 key:Int->Int} {N:Int} {d d1:List Int} {a m b s e mid:Nat} (hk:key=kk key0 N) (h1:a<=s) (h2:s<=m) (h3:m<=e) (h4:e<=b) (hmid:mid+m=s+e) (hb:b<=d.length) (hst:InTurn key0 d) (hs:Same d d1 a b) (hg:∀ i,i<d1.length->0<=d1.getD i 0/\d1.getD i 0<N)
  (hm:Sorted key d1 a s/\Sorted key d1 s mid/\Sorted key d1 mid e/\Sorted key d1 e b/\∀ x y,a<=x->x<mid->mid<=y->y<b->key (d1.getD x 0)<=key (d1.getD y 0))
  (f:∀ k,s<=k->k<e->d1.getD k 0=if k<mid then d.getD (m+(k-s)) 0 else d.getD (k-(e-m)) 0) (fo:∀ k,¬(s<=k/\k<e)->d1.getD k 0=d.getD k 0):InTurn key0 d1:=by
 subst hk;obtain⟨m1,m2,m3,m4,m5⟩:=hm;have hlen:=hs.len;refine hst.part hs hb fun p q hp hpq hq he=>?_;have hle:kk key0 N (d1.getD p 0)<=kk key0 N (d1.getD q 0)->d1.getD p 0<=d1.getD q 0:=fun h=>(kk_le (hg p (by omega)) (hg q (by omega)) h).2 he;by_cases c1:p<mid
 ·by_cases c2:mid<=q
  ·exact hle (m5 p q hp c1 c2 hq)
  ·by_cases c3:q<s
   ·exact hle (m1 p q hp hpq c3)
   ·by_cases c4:s<=p
    ·exact hle (m2 p q c4 hpq (by omega))
    ·rw [fo p (by omega),f q (by omega) (by omega),if_pos (by omega)] at he ⊢;exact hst _ _ (by omega) (by omega) he
 ·by_cases c3:q<e
  ·exact hle (m3 p q (by omega) hpq c3)
  ·by_cases c4:e<=p
   ·exact hle (m4 p q c4 hpq hq)
   ·rw [f p (by omega) (by omega),if_neg c1,fo q (by omega)] at he ⊢;exact hst _ _ (by omega) (by omega) he
open Go.RowKit
class PAd where
 ad:Int->Addr
def icells [PAd] (d:List Int):List Value:=d.map fun x=>.slice (some (PAd.ad x)) 2 2
def Row [PAd] (w:World) (g cap:Nat) (d:List Int):Prop:=w.ownsRow 0 22 1 (.slice (some ⟨g,0,none⟩) d.length cap) d.length (icells d)
theorem Row.drewN [PAd] {w:World} {g cap:Nat} {d:List Int} (h:Row w g cap d) (n:Nat):Row (w.drewN n) g cap d:=y6f h n
theorem Row.drew [PAd] {w:World} {g cap:Nat} {d:List Int} (h:Row w g cap d):Row w.drew g cap d:=v01 h
theorem Row.cell [PAd] {w:World} {g cap:Nat} {d:List Int} (h:Row w g cap d) (i:Nat) (hi:i<d.length):w.cell? ⟨g,i,none⟩=some (.slice (some (PAd.ad (d.getD i 0))) 2 2):=by
 have h1:=World.ownsRow.cellAt h i (by omega);rw [h1];simp [icells,List.getD_eq_getElem?_getD,hi]
theorem Row.set [PAd] {w:World} {g cap:Nat} {d:List Int} (h:Row w g cap d) (i:Nat) (x:Int):Row (w.setCell ⟨g,i,none⟩ (.slice (some (PAd.ad x)) 2 2)) g cap (d.set i x):=by
 have h1:=(World.ownsRow.stored h i (.slice (some (PAd.ad x)) 2 2)).1;have e:(icells d).set i (.slice (some (PAd.ad x)) 2 2)=icells (d.set i x):=by simp [icells,List.map_set]
 rw [e] at h1;unfold Row;rw [List.length_set];exact h1
theorem Row.frozen [PAd] {w:World} {g cap:Nat} {d:List Int} (h:Row w g cap d) (i:Nat):w.frozen? ⟨g,i,none⟩=false:=World.ownsRow.frozenAt h i
theorem Row.swap [PAd] {w:World} {g cap:Nat} {d:List Int} (h:Row w g cap d) (i j:Nat):Row ((w.setCell ⟨g,i,none⟩ (.slice (some (PAd.ad (d.getD j 0))) 2 2)).setCell ⟨g,j,none⟩ (.slice (some (PAd.ad (d.getD i 0))) 2 2)) g cap (z4d d i j):=(h.set i _).set j _
def z4z [PAd] (w:World) (g cap:Nat) (d:List Int) (a b:Nat) (R:List Int->Prop) (e:Ending) (w':World):Prop :=
 e=.returned (.tuple #[])/\∃ d',Row w' g cap d'/\Same d d' a b/\R d'/\Chg (fun i=>i=g) w w'
theorem z8g [PAd] (g cap a b n:Nat) (f:Value) (d:List Int) (w:World) (hR:Row w g cap d) (hab:a+n<=b) (hb:b+n<=d.length) (hL:d.length<=1000000) :
  Calls Tryz.prog 143 #[.slice (some ⟨g,0,none⟩) d.length cap,.int .i64 a,.int .i64 b,.int .i64 n,f] w
   (z4z w g cap d a (b+n) (fun d'=>∀ k,d'.getD k 0=if a<=k/\k<a+n then d.getD (b+(k-a)) 0 else if b<=k/\k<b+n then d.getD (a+(k-b)) 0 else d.getD k 0)):=by
 have HR:=kf hR;clear hR;obtain⟨N,hN⟩:∃ N,N=d.length:=⟨_,rfl⟩
 have HN:=kf hN;rw [<- hN] at hb hL ⊢;clear hN;go_enter Tryz.func143,Tryz.ntmps143;go_wp2_with fail;go_loopw [10] (fun i wr=>∃ k:Nat,∃ d1:List Int,k<=n/\i=.int .i64 k/\d1.length=N/\Row wr g cap d1/\Hid (Same d d1 a (b+n))/\Hid (∀ q,d1.getD q 0=if a<=q/\q<a+k then d.getD (b+(q-a)) 0 else if b<=q/\q<b+k then d.getD (a+(q-b)) 0 else d.getD q 0)/\Chg (fun i=>i=g) w wr) (fun i _=>n-(intOf i).toNat)
 case atStart=>exact⟨0,d,Nat.zero_le _,rfl,HN.out.symm,HR.out,Same.refl _ _ _,fun q=>by rw [if_neg (by omega),if_neg (by omega)],Chg.refl _ _⟩
 case round =>
  obtain⟨k,d1,hk,rfl,hl1,hRw,hSm,hQ,hch⟩:=hrel;have HRw:=kf hRw;have HCh:=kf hch;clear hRw hch HR;by_cases hlt:k<n
  ·have c1:=HRw.out.cell (a+k) (by omega);have c2:=HRw.out.cell (b+k) (by omega);have f1:=HRw.out.frozen (a+k);have f2:=HRw.out.frozen (b+k);obtain⟨x,hx⟩:∃ x,x=d1.getD (a+k) 0:=⟨_,rfl⟩
   obtain⟨y,hy⟩:∃ y,y=d1.getD (b+k) 0:=⟨_,rfl⟩
   rw [<- hx] at c1;rw [<- hy] at c2;have HX:=kf hx;have HY:=kf hy;clear hx hy;have e1:IntKind.i64.wrap ((a:Int)+k)=(a:Int)+k:=by rw [IntKind.wrap_i64];omega
   have e2:IntKind.i64.wrap ((b:Int)+k)=(b:Int)+k:=by rw [IntKind.wrap_i64];omega
   have b1:(a:Int)+k<N:=by omega
   have b2:(b:Int)+k<N:=by omega
   have b3:0<=(a:Int)+k:=by omega
   have b4:0<=(b:Int)+k:=by omega
   have t1:((a:Int)+k).toNat=a+k:=by omega
   have t2:((b:Int)+k).toNat=b+k:=by omega
   go_upto_region 3 with fail;go_region
   go_wp2_with fail;go_roundw
   case rel =>
    have hsw:=HRw.out.swap (a+k) (b+k);rw [<- HX.out,<- HY.out] at hsw;refine⟨k+1,z4d d1 (a+k) (b+k),by omega,by go_num,by rw [z39];exact hl1,hsw.drew,hSm.out.trans (Same.swap d1 a (b+n) (a+k) (b+k) (by omega) (by omega) (by omega)),?_,((HCh.out.setCell (p:=⟨g,a+k,none⟩) (fun _=>rfl) _).setCell (p:=⟨g,b+k,none⟩) (fun _=>rfl) _).drew⟩;intro q;rw [z12 d1 _ _ q (by omega) (by omega)];have hq0:=hQ.out;by_cases h1:q=b+k
    ·subst h1;rw [if_pos rfl,if_neg (show ¬(a<=b+k/\b+k<a+(k+1)) by omega),if_pos (show b<=b+k/\b+k<b+(k+1) by omega),hq0,if_neg (show ¬(a<=a+k/\a+k<a+k) by omega),if_neg (show ¬(b<=a+k/\a+k<b+k) by omega)];congr 1;omega
    ·rw [if_neg h1];by_cases h2:q=a+k
     ·subst h2;rw [if_pos rfl,if_pos (show a<=a+k/\a+k<a+(k+1) by omega),hq0,if_neg (show ¬(a<=b+k/\b+k<a+k) by omega),if_neg (show ¬(b<=b+k/\b+k<b+k) by omega)];congr 1;omega
     ·rw [if_neg h2,hq0];by_cases h3:a<=q/\q<a+k
      ·rw [if_pos h3,if_pos (show a<=q/\q<a+(k+1) by omega)]
      ·rw [if_neg h3,if_neg (show ¬(a<=q/\q<a+(k+1)) by omega)];by_cases h4:b<=q/\q<b+k
       ·rw [if_pos h4,if_pos (show b<=q/\q<b+(k+1) by omega)]
       ·rw [if_neg h4,if_neg (show ¬(b<=q/\q<b+(k+1)) by omega)]
   case measure=>simp [intOf];omega
  ·obtain rfl:n=k:=by omega
   go_wp2_with fail;go_end0;exact⟨rfl,d1,HRw.out,hSm.out,hQ.out,HCh.out⟩
theorem z7u [PAd] (g cap a m b:Nat) (f:Value) (d:List Int) (w:World) (hR:Row w g cap d) (ham:a<m) (hmb:m<b) (hb:b<=d.length) (hL:d.length<=1000000) :
  Calls Tryz.prog 108 #[.slice (some ⟨g,0,none⟩) d.length cap,.int .i64 a,.int .i64 m,.int .i64 b,f] w
   (z4z w g cap d a b (fun d'=>∀ k,a<=k->k<b->d'.getD k 0=if k<a+(b-m) then d.getD (m+(k-a)) 0 else d.getD (k-(b-m)) 0)):=by
 have HR:=kf hR;clear hR;obtain⟨N,hN⟩:∃ N,N=d.length:=⟨_,rfl⟩
 have HN:=kf hN;rw [<- hN] at hb hL ⊢;clear hN
 have HSW:Hid (∀ (W:World) (d1:List Int) (a' b' n':Nat),d1.length=N->Row W g cap d1->a'+n'<=b'->b'+n'<=N ->
   Calls Tryz.prog 143 #[.slice (some ⟨g,0,none⟩) N cap,.int .i64 a',.int .i64 b',.int .i64 n',f] W
   (z4z W g cap d1 a' (b'+n') (fun d'=>∀ k,d'.getD k 0=if a'<=k/\k<a'+n' then d1.getD (b'+(k-a')) 0 else if b'<=k/\k<b'+n' then d1.getD (a'+(k-b')) 0 else d1.getD k 0))):=by
  intro W d1 a' b' n' h1 h2 h3 h4;subst h1;exact z8g g cap a' b' n' f d1 W h2 h3 h4 hL
 obtain⟨T,hT⟩:∃ T:Nat->Int,∀ k,T k=if k<a+(b-m) then d.getD (m+(k-a)) 0 else d.getD (k-(b-m)) 0:=⟨_,fun _=>rfl⟩
 have HT:=kf hT;clear hT;go_enter Tryz.func108,Tryz.ntmps108;go_wp2_with fail
 go_loopw [10,11] (fun vi vj wr=>∃ i j:Nat,∃ d1:List Int,0<i/\0<j/\i<=m-a/\j<=b-m/\vi=.int .i64 i/\vj=.int .i64 j/\d1.length=N/\Row wr g cap d1/\Hid (Same d d1 a b) /\
   Hid ((∀ k,a<=k->k<b->¬(m-i<=k/\k<m+j)->d1.getD k 0=T k)/\(∀ y,y<j->T (m-i+y)=d1.getD (m+y) 0)/\(∀ x,x<i->T (m-i+j+x)=d1.getD (m-i+x) 0))/\Chg (fun i=>i=g) w wr) (fun vi vj _=>(intOf vi).toNat+(intOf vj).toNat)
 case atStart =>
  refine⟨m-a,b-m,d,by omega,by omega,by omega,by omega,by go_num,by go_num,HN.out.symm,HR.out,Same.refl _ _ _,⟨fun k h1 h2 h3=>absurd ⟨by omega,by omega⟩ h3,fun y hy=>?_,fun x hx=>?_⟩,Chg.refl _ _⟩
  ·rw [HT.out,if_pos (by omega)];congr 1;omega
  ·rw [HT.out,if_neg (by omega)];congr 1;omega
 case round =>
  obtain⟨i,j,d1,hi0,hj0,hi,hj,rfl,rfl,hl1,hRw,hSm,hQ,hch⟩:=hrel;have HRw:=kf hRw;have HCh:=kf hch;clear hRw hch HR;have emi:((m:Int)-i)=((m-i:Nat):Int):=by omega
  have HMI:=kf emi;clear emi;by_cases hij:i=j
  ·subst hij;go_wp2_with (go_at_call 143;rw [HMI.out];refine(HSW.out _ d1 (m-i) m i hl1 HRw.out (by omega) (by omega)).mono ?_;rintro e w3 ⟨rfl,d3,hr3,hs3,hq3,hc3⟩;have HR3:=kf hr3;have HS3:=kf hs3;have HQ3:=kf hq3;have HC3:=kf hc3;clear hr3 hs3 hq3 hc3);go_end0;refine⟨rfl,d3,HR3.out,hSm.out.trans (HS3.out.wide (by omega) (by omega)),fun k h1 h2=>?_,HCh.out.trans HC3.out (fun _ _ h=>h)⟩;obtain⟨hA,hB,hC⟩:=hQ.out;rw [<- HT.out,HQ3.out];by_cases h3:m-i<=k/\k<m-i+i
   ·rw [if_pos h3,<- hB _ (by omega)];congr 1;omega
   ·rw [if_neg h3];by_cases h4:m<=k/\k<m+i
    ·rw [if_pos h4,<- hC _ (by omega)];congr 1;omega
    ·rw [if_neg h4];exact hA k h1 h2 (by omega)
  ·by_cases hlt:j<i
   ·have hlt':(j:Int)<i:=by omega
    have hne':¬((i:Int)=(j:Int)):=by omega
    go_wp2_with (go_at_call 143;rw [HMI.out];refine(HSW.out _ d1 (m-i) m j hl1 HRw.out (by omega) (by omega)).mono ?_;rintro e w3 ⟨rfl,d3,hr3,hs3,hq3,hc3⟩;have HR3:=kf hr3;have HS3:=kf hs3;have HQ3:=kf hq3;have HC3:=kf hc3;clear hr3 hs3 hq3 hc3);go_roundw
    case rel =>
     refine⟨i-j,j,d3,by omega,by omega,by omega,by omega,by go_num,rfl,by rw [HS3.out.len];exact hl1,HR3.out,hSm.out.trans (HS3.out.wide (by omega) (by omega)),?_,HCh.out.trans HC3.out (fun _ _ h=>h)⟩;obtain⟨hA,hB,hC⟩:=hQ.out;refine⟨fun k h1 h2 h3=>?_,fun y hy=>?_,fun x hx=>?_⟩
     ·rw [HQ3.out];by_cases h4:m-i<=k/\k<m-i+j
      ·rw [if_pos h4,<- hB _ (by omega)];congr 1;omega
      ·rw [if_neg h4,if_neg (show ¬(m<=k/\k<m+j) by omega)];exact hA k h1 h2 (by omega)
     ·rw [HQ3.out,if_neg (show ¬(m-i<=m+y/\m+y<m-i+j) by omega),if_pos (show m<=m+y/\m+y<m+j by omega),show m-i+(m+y-m)=m-i+y from by omega,<- hC y (by omega)];congr 1;omega
     ·rw [HQ3.out,if_neg (show ¬(m-i<=m-(i-j)+x/\m-(i-j)+x<m-i+j) by omega),if_neg (show ¬(m<=m-(i-j)+x/\m-(i-j)+x<m+j) by omega),show m-(i-j)+x=m-i+(j+x) from by omega,<- hC (j+x) (by omega)];congr 1;omega
    case measure=>simp [intOf];omega
   ·have hlt':decide ((j:Int)<i)=false:=by simp;omega
    have hne':¬((i:Int)=(j:Int)):=by omega
    have emj:((m:Int)+j-i)=((m+j-i:Nat):Int):=by omega
    have HMJ:=kf emj;clear emj;go_wp2_with (go_at_call 143;rw [HMI.out,HMJ.out];refine(HSW.out _ d1 (m-i) (m+j-i) i hl1 HRw.out (by omega) (by omega)).mono ?_;rintro e w3 ⟨rfl,d3,hr3,hs3,hq3,hc3⟩;have HR3:=kf hr3;have HS3:=kf hs3;have HQ3:=kf hq3;have HC3:=kf hc3;clear hr3 hs3 hq3 hc3);go_roundw
    case rel =>
     refine⟨i,j-i,d3,by omega,by omega,by omega,by omega,rfl,by go_num,by rw [HS3.out.len];exact hl1,HR3.out,hSm.out.trans (HS3.out.wide (by omega) (by omega)),?_,HCh.out.trans HC3.out (fun _ _ h=>h)⟩;obtain⟨hA,hB,hC⟩:=hQ.out;refine⟨fun k h1 h2 h3=>?_,fun y hy=>?_,fun x hx=>?_⟩
     ·rw [HQ3.out,if_neg (show ¬(m-i<=k/\k<m-i+i) by omega)];by_cases h4:m+j-i<=k/\k<m+j-i+i
      ·rw [if_pos h4,<- hC _ (by omega)];congr 1;omega
      ·rw [if_neg h4];exact hA k h1 h2 (by omega)
     ·rw [HQ3.out,if_neg (show ¬(m-i<=m+y/\m+y<m-i+i) by omega),if_neg (show ¬(m+j-i<=m+y/\m+y<m+j-i+i) by omega),<- hB y (by omega)]
     ·rw [HQ3.out,if_pos (show m-i<=m-i+x/\m-i+x<m-i+i by omega),show m+j-i+(m-i+x-(m-i))=m+(j-i+x) from by omega,<- hB (j-i+x) (by omega)];congr 1;omega
    case measure=>simp [intOf];omega
def cmpv (a b:Int):Int:=if a<b then -1 else if b<a then 1 else 0
theorem v5q (a b:Int):decide (cmpv a b<0)=decide (a<b):=by
 unfold cmpv;by_cases h:a<b
 ·simp [h]
 ·rw [if_neg h];by_cases h2:b<a
  ·simp [h2,h]
  ·simp [h2,h]
def CmpOf [PAd] (g:Nat) (lb:Array Value) (key:Int->Int) (N:Int) (blk:Nat) (w0:World):Prop :=
 ∀ (x y:Int) (W:World),0<=x->x<N->0<=y->y<N->Chg (fun i=>i=blk) w0 W->Calls Tryz.prog g (#[.slice (some (PAd.ad x)) 2 2,.slice (some (PAd.ad y)) 2 2]++lb) W fun e w'=>e=.returned (.int .i64 (cmpv (key x) (key y)))/\∃ m,w'=W.drewN m
def Good (N:Int) (d:List Int):Prop:=∀ x∈d,0<=x/\x<N
theorem Good.get {N:Int} {d:List Int} (h:Good N d) (i:Nat) (hi:i<d.length):0<=d.getD i 0/\d.getD i 0<N:=by
 have e:d.getD i 0=d[i]:=by simp [List.getD_eq_getElem?_getD,hi]
 rw [e];exact h _ (List.getElem_mem hi)
theorem Good.same {N:Int} {d d':List Int} {a b:Nat} (h:Good N d) (k:Same d d' a b):Good N d':=fun x hx=>h x (k.perm.mem_iff.1 hx)
theorem z11 (w:World) (m n:Nat):(w.drewN m).drewN n=w.drewN (m+n):=by simp [World.drewN,Nat.add_assoc]
theorem z7x {P:Program} {f:FuncId} {args:Array Value} {w:World} {n:Nat} {v:Value}
  (h:Calls P f args (w.drewN n) fun e w'=>e=.returned v/\∃ m,w'=(w.drewN n).drewN m):Calls P f args (w.drewN n) fun e w''=>e=.returned v/\∃ m,w''=w.drewN m :=
 h.mono fun _ _ ⟨he,m,hm⟩=>⟨he,n+m,by rw [hm,z11]⟩
theorem y0w {key0 key:Int->Int} {N:Int} {d:List Int} {i j:Nat} (hk:key=kk key0 N) (hst:InTurn key0 d) (hg:Good N d) (hji:j<i) (hi:i<d.length) :
  decide (cmpv (key0 (d.getD i 0)) (key0 (d.getD j 0))<0)=decide (key (d.getD i 0)<key (d.getD j 0)):=by
 subst hk;rw [v5q];have h1:=v7h (key:=key0) (hg.get i hi) (hg.get j (by omega));have h2:=hst j i hji hi;rw [decide_eq_decide,h1];omega
end Go.Proofs.YtmibnkddappgiaaGreatDoor.PS
