import Derived.Test.YtmibnkddappgiaaGreatDoorK25
import Derived.Test.YtmibnkddappgiaaGreatDoorK29
set_option linter.unusedVariables false
set_option maxHeartbeats 64000000
set_option maxRecDepth 100000
set_option linter.unusedSimpArgs false
namespace Go.Proofs.YtmibnkddappgiaaGreatDoor
open Go.RowKit
theorem v2g {a b:Bool} (h:a=b):Ending.returned (.bool a)=.returned (.bool b):=by rw [h]
theorem z6k (t t':VT) (c c':VC) (w:World) (hv:ValIs w t c) (hv':ValIs w t' c') :
  Calls Tryz.prog 23 #[c.val,c'.val] w fun e w'=>e=.returned (.bool (decide (z36 t t'=0)))/\Chg NoS w w':=by
 have HC:=kf (fun W (h:ValIs W t c) (h':ValIs W t' c')=>y9n t t' c c' W h h');have HV:=kf hv;have HV':=kf hv';obtain⟨z,hz⟩:∃ z,z36 t t'=z:=⟨_,rfl⟩
 rw [hz] at HC ⊢;obtain⟨k,n,s,A,len,cap⟩:=c;obtain⟨k',n',s',A',len',cap'⟩:=c';unfold VC.val at HC ⊢;simp only [] at HC ⊢;clear hv hv' hz;have HB:=kf ((Blk.new w 24 #[.int .i64 k,.int .i64 n,.string s,.slice A len cap]).alloc (.cells #[.int .i64 k',.int .i64 n',.string s',.slice A' len' cap'] 24));have HB':=kf (Blk.new (w.alloc (.cells #[.int .i64 k,.int .i64 n,.string s,.slice A len cap] 24)) 24 #[.int .i64 k',.int .i64 n',.string s',.slice A' len' cap']);have hs1:(w.alloc (.cells #[.int .i64 k,.int .i64 n,.string s,.slice A len cap] 24)).heap.size=w.heap.size+1:=by simp
 rw [hs1] at HB';have HC0:=kf (((Chg.refl NoS w).alloc (.cells #[.int .i64 k,.int .i64 n,.string s,.slice A len cap] 24)).alloc (.cells #[.int .i64 k',.int .i64 n',.string s',.slice A' len' cap'] 24));by_cases h0:z=0
 ·subst h0;go_enter Tryz.func23,Tryz.ntmps23;go_upto_region 1 with fail;obtain⟨W0,hW⟩:∃ W,W=((w.alloc (.cells #[.int .i64 k,.int .i64 n,.string s,.slice A len cap] 24)).alloc (.cells #[.int .i64 k',.int .i64 n',.string s',.slice A' len' cap'] 24)):=⟨_,rfl⟩
  rw [<- hW] at HB HB' HC0 ⊢;clear hW hs1;have p0:=HB.out.cell 0;have p1:=HB.out.cell 1;have p2:=HB.out.cell 2;have p3:=HB.out.cell 3;have q0:=HB'.out.cell 0;have q1:=HB'.out.cell 1;have q2:=HB'.out.cell 2;have q3:=HB'.out.cell 3;simp at p0 p1 p2 p3 q0 q1 q2 q3;go_wp2_with (go_at_call 43;refine(HC.out _ (HV.out.chg HC0.out) (HV'.out.chg HC0.out)).mono ?_;rintro e w2 ⟨rfl,hc2⟩;have HC2:=kf (HC0.out.trans hc2 (fun _ _ e=>e));clear hc2);go_ret;exact⟨rfl,HC2.out⟩
 ·have HD:=kf (show decide (z=0)=false from by simpa using h0);have e0:(z==0)=false:=by simpa using h0
  clear h0;go_enter Tryz.func23,Tryz.ntmps23;go_upto_region 1 with fail;obtain⟨W0,hW⟩:∃ W,W=((w.alloc (.cells #[.int .i64 k,.int .i64 n,.string s,.slice A len cap] 24)).alloc (.cells #[.int .i64 k',.int .i64 n',.string s',.slice A' len' cap'] 24)):=⟨_,rfl⟩
  rw [<- hW] at HB HB' HC0 ⊢;clear hW hs1;have p0:=HB.out.cell 0;have p1:=HB.out.cell 1;have p2:=HB.out.cell 2;have p3:=HB.out.cell 3;have q0:=HB'.out.cell 0;have q1:=HB'.out.cell 1;have q2:=HB'.out.cell 2;have q3:=HB'.out.cell 3;simp at p0 p1 p2 p3 q0 q1 q2 q3;go_wp2_with (go_at_call 43;refine(HC.out _ (HV.out.chg HC0.out) (HV'.out.chg HC0.out)).mono ?_;rintro e w2 ⟨rfl,hc2⟩;have HC2:=kf (HC0.out.trans hc2 (fun _ _ e=>e));clear hc2);go_ret;exact⟨v2g HD.out.symm,HC2.out⟩
theorem v8d:∀ (N:Nat) (t:VT),z1h t<=N->∀ (t':VT) (c c':VC) (w:World),ValIs w t c->ValIs w t' c' ->
  Calls Tryz.prog 42 #[c.val,c'.val] w fun e w'=>e=.returned (.int .i64 (z36 t t'))/\Chg NoS w w':=by
 intro N;induction N with
 |zero =>
  intro t ht;obtain⟨k,n,s,l⟩:=t;rw [z0f] at ht;omega
 |succ N ih =>
  intro t ht t' c c' w hv hv';obtain⟨tk,tn,ts,l⟩:=t;obtain⟨tk',tn',ts',l'⟩:=t';obtain⟨h1,h2,h3,hg,hl,hr⟩:=hv.inv;obtain⟨h1',h2',h3',hg',hl',hr'⟩:=hv'.inv;obtain⟨k,n,s,A,len,cap⟩:=c;obtain⟨k',n',s',A',len',cap'⟩:=c';simp only [] at h1 h2 h3 hl hr h1' h2' h3' hl' hr';subst h1 h2 h3 h1' h2' h3';rw [z0f] at ht;have hlm:=hg.len;have hlm':=hg'.len;simp only [] at hlm hlm';unfold VC.val;simp only [];have HF:=kf (fun(W:World) (h:Chg NoS w W)=>v1x l l' A A' len cap len' cap' w W hl hl' hlm hlm' hr hr' h (fun t ht'=>ih t (by omega)));have HI:=kf (fun(x y:Int) (W:World)=>(Go.Proofs.Tryz.cmp_Compare_int x y W).mono (fun e w' h=>(⟨h.1.trans (z00 (y89 x y)),h.2⟩:e=.returned (.int .i64 (z9c x y))/\w'=W)));have HS:=kf (fun(W:World)=>(Go.Proofs.Tryz.strings_Compare s s' W).mono (fun e w' h=>(⟨h.1.trans (z00 (z77 s s')),h.2⟩:e=.returned (.int .i64 (z5v s s'))/\w'=W)));have hb:=((Blk.new w 24 #[.int .i64 k,.int .i64 n,.string s,.slice A len cap]).alloc (.cells #[.int .i64 k',.int .i64 n',.string s',.slice A' len' cap'] 24))
  have hb2:=Blk.new (w.alloc (.cells #[.int .i64 k,.int .i64 n,.string s,.slice A len cap] 24)) 24 #[.int .i64 k',.int .i64 n',.string s',.slice A' len' cap'];rw [World.size_alloc] at hb2;have HC0:=kf (((Chg.refl NoS w).alloc (.cells #[.int .i64 k,.int .i64 n,.string s,.slice A len cap] 24)).alloc (.cells #[.int .i64 k',.int .i64 n',.string s',.slice A' len' cap'] 24));obtain⟨W0,hW⟩:∃ W0,W0=(w.alloc (.cells #[.int .i64 k,.int .i64 n,.string s,.slice A len cap] 24)).alloc (.cells #[.int .i64 k',.int .i64 n',.string s',.slice A' len' cap'] 24):=⟨_,rfl⟩
  obtain⟨g,hgg⟩:∃ g,g=w.heap.size:=⟨_,rfl⟩
  rw [<- hW] at hb hb2 HC0;rw [<- hgg] at hb hb2;have p0:=hb.cell 0;have p1:=hb.cell 1;have p2:=hb.cell 2;have q0:=hb2.cell 0;have q1:=hb2.cell 1;have q2:=hb2.cell 2;simp at p0 p1 p2 q0 q1 q2;obtain⟨x,hx⟩:∃ x,x=z9c k k':=⟨_,rfl⟩
  obtain⟨y,hy⟩:∃ y,y=z9c n n':=⟨_,rfl⟩
  obtain⟨z,hz⟩:∃ z,z=z5v s s':=⟨_,rfl⟩
  obtain⟨r,hr9⟩:∃ r,r=or3 x y z:=⟨_,rfl⟩
  have hh:z5w k n s k' n' s'=r:=by rw [hr9,hx,hy,hz,v5s]
  have HIx:=kf (fun W=>HI.out k k' W);have HIy:=kf (fun W=>HI.out n n' W);rw [<- hx] at HIx;rw [<- hy] at HIy;rw [<- hz] at HS;have HO:=kf (fun(gg:Nat) (W:World) (h:Blk W gg 3 #[.int .i64 x,.int .i64 y,.int .i64 z])=>v45 gg x y z W h);rw [<- hr9] at HO;have HBV:=kf hb;have HBV':=kf hb2;clear hv hv' hg hg' hl hl' hr hr' ih ht HI hx hy hz hr9 hb hb2;go_enter Tryz.func42,Tryz.ntmps42;go_upto_region 1 with fail;rw [<- hgg,<- hW];clear hgg hW;refine wp_region_still_tail 15 (by kernel_rfl) (by kernel_rfl) ?_;simp only [List.take_succ_cons,List.take_zero,List.drop_succ_cons,List.drop_zero];change wpStill _ _ W0.drew _ _ _;repeat still_step
  still_call (HIx.out _)
  repeat still_step
  still_call (HIy.out _)
  repeat still_step
  still_call (HS.out _)
  repeat still_step
  refine wpStill_nil ?_;change wpList _ _ _ _ _ W0.drew;by_cases hr0:r=0
  ·subst hr0;have HE:=kf (show z36 (.mk k n s l) (.mk k' n' s' l')=z2m l l' from by rw [z5p,hh,if_neg (by simp)]);have c3:=(HBV.out.alloc (.cells #[.int .i64 x,.int .i64 y,.int .i64 z] 3)).drew.cell 3;have d3:=(HBV'.out.alloc (.cells #[.int .i64 x,.int .i64 y,.int .i64 z] 3)).drew.cell 3;simp at c3 d3;clear hh
   go_wp2_with (first
    |(go_at_call 64;refine(HO.out _ _ (Blk.new W0.drew 3 #[.int .i64 x,.int .i64 y,.int .i64 z])).mono ?_;rintro e w3 ⟨rfl,rfl⟩)
    |(go_at_call 66;refine(HF.out _ (HC0.out.drew.alloc _)).mono ?_;rintro e w4 ⟨rfl,hc4⟩;have HC4:=kf ((HC0.out.drew.alloc _).trans hc4 (fun _ _ e=>e));clear hc4))
   go_ret;exact⟨z00 HE.out.symm,HC4.out⟩
  ·have HE:=kf (show z36 (.mk k n s l) (.mk k' n' s' l')=r from by rw [z5p,hh,if_pos hr0]);have e1:(r==0)=false:=by simpa using hr0
   have e2:(r != 0)=true:=by simpa using hr0
   clear hh hr0;go_wp2_with (go_at_call 64;refine(HO.out _ _ (Blk.new W0.drew 3 #[.int .i64 x,.int .i64 y,.int .i64 z])).mono ?_;rintro e w3 ⟨rfl,rfl⟩);go_ret;exact⟨z00 HE.out.symm,HC0.out.drew.alloc _⟩
theorem v5r (t t':VT) (c c':VC) (w:World) (hv:ValIs w t c) (hv':ValIs w t' c') :
  Calls Tryz.prog 42 #[c.val,c'.val] w fun e w'=>e=.returned (.int .i64 (z36 t t'))/\Chg NoS w w':=v8d _ t (Nat.le_refl _) t' c c' w hv hv'
theorem y2k (t t':VT) (c c':VC) (w:World) (hv:ValIs w t c) (hv':ValIs w t' c') :
  Calls Tryz.prog 22 #[c.val,c'.val] w fun e w'=>e=.returned (.bool (decide (z36 t t'=0)))/\Chg NoS w w':=by
 have HX:=kf (fun W (h:Chg NoS w W)=>v5r t t' c c' W (hv.chg h) (hv'.chg h));obtain⟨k,n,s,A,len,cap⟩:=c;obtain⟨k',n',s',A',len',cap'⟩:=c';unfold VC.val at HX ⊢;simp only [] at HX ⊢;have hb:=((Blk.new w 24 #[.int .i64 k,.int .i64 n,.string s,.slice A len cap]).alloc (.cells #[.int .i64 k',.int .i64 n',.string s',.slice A' len' cap'] 24))
 have p0:=hb.cell 0;have p1:=hb.cell 1;have p2:=hb.cell 2;have p3:=hb.cell 3;simp at p0 p1 p2 p3;clear hb hv hv';obtain⟨r,hr9⟩:∃ r,r=z36 t t':=⟨_,rfl⟩
 rw [<- hr9] at HX ⊢;clear hr9;have HC0:=kf (((Chg.refl NoS w).alloc (.cells #[.int .i64 k,.int .i64 n,.string s,.slice A len cap] 24)).alloc (.cells #[.int .i64 k',.int .i64 n',.string s',.slice A' len' cap'] 24));by_cases h0:r=0
 ·subst h0;go_enter Tryz.func22,Tryz.ntmps22;go_wp2_with (go_at_call 42;refine(HX.out _ HC0.out).mono ?_;rintro e w3 ⟨rfl,hc3⟩;have HC3:=kf (HC0.out.trans hc3 (fun _ _ e=>e));clear hc3);go_ret;exact⟨rfl,HC3.out⟩
 ·have e1:(r==0)=false:=by simpa using h0
  have HZ:=kf h0;clear h0;go_enter Tryz.func22,Tryz.ntmps22;go_wp2_with (go_at_call 42;refine(HX.out _ HC0.out).mono ?_;rintro e w3 ⟨rfl,hc3⟩;have HC3:=kf (HC0.out.trans hc3 (fun _ _ e=>e));clear hc3);go_ret;exact⟨v2g (by simp [HZ.out]),HC3.out⟩
theorem q0u (out:List UInt8):Lib.byteCells out=z09 (out.map UInt8.toNat):=by
 unfold Lib.byteCells z09;rw [List.map_map];rfl
theorem y6e {w:World} {base:Nat} {e:TypeId} {size n c:Nat} {A:Option Addr} {xs:List Value} (h:w.ownsRow base e size (.slice A n c) n xs):(A=none->n=0/\c=0)/\n<=c:=by
 rcases h.2 with⟨h1,h0⟩|⟨g',cap,cur,h1,hb,hh,h2,h3,_⟩
 ·simp only [Value.slice.injEq] at h1;obtain⟨rfl,_,rfl⟩:=h1;exact⟨fun _=>⟨h0,rfl⟩,by omega⟩
 ·simp only [Value.slice.injEq] at h1;obtain⟨rfl,_,rfl⟩:=h1;exact⟨fun e=>(by cases e),h2⟩
theorem y4p {w0 W:World} {b:Nat} {out:List UInt8} (h:LB w0 b out W) (hl:out.length<=1000000) :
  Calls Tryz.prog 25 #[.pointer (some ⟨b,0,none⟩)] W fun e W'=>∃ (A:Option Addr) (n c:Nat),e=.returned (.slice A n c)/\n=out.length/\Src W' 1 A n c (z09 (out.map UInt8.toNat))/\n<=c/\Chg NoS W W':=by
 obtain⟨hB,v,lr,h3,hown,hne⟩:=h.buf;have c0:=h3.c0;have c1:=h3.c1;obtain⟨A,c,rfl,_⟩:=z0t hown;have hsrc:=z8h hown;rw [Lib.byteCells_length,q0u] at hsrc;have hcc:=(y6e hown).2;rw [Lib.byteCells_length] at c0 hcc;obtain⟨n,hn⟩:∃ n,n=out.length:=⟨_,rfl⟩
 rw [<- hn] at hsrc c0 hcc
 have hsl:∀ W:World,(Instr.sliceAt 37 (.slice A n c) (some (.int .i64 0)) none none).run Tryz.prog W=.ok (.slice A n c) W:=fun W=>by
  have h4:=v9j A n c 0 (by omega) W;rw [y81] at h4;simpa using h4
 have HS:=kf hsrc;have HN:=kf hn;have HCC:=kf hcc;simp only [Nat.zero_add] at c1;clear h hB h3 hown hne hsrc hn hl hcc;go_enter Tryz.func25,Tryz.ntmps25;go_upto_region 1 with fail;go_quiet (fail)
 all_goals
  go_wp2_with fail;go_ret;exact⟨A,n,c,rfl,HN.out,(show Src (W.drewN nq) 1 A n c _ from HS.out),HCC.out,(Chg.refl NoS W).drewN _⟩
noncomputable def z4k (n:Int) (t:VT):List UInt8:=txA [sb (z5z (.mk 2 n ⟨#[]⟩ [])),⟨#[32,48,32,111,98,106]⟩]++[10]++txA [sb (z5z t)]++[10]++txA [sEndobj]++[10]
theorem y7k {w0 W:World} {b:Nat} (n:Int) (t:VT) (k m:Int) (s:ByteArray) (A:Option Addr) (l c:Nat) (pk:Bool) (h:LB w0 b [] W) (hL:LibOk w0) (hv:ValIs w0 t ⟨k,m,s,A,l,c⟩) (hsz:z1h t<=1000000) (hl:z0w t=0->(z0u t).length<=400000) (hn:-9223372036854775808<=n/\n<=9223372036854775807) (hnl:z0w (.mk 2 n ⟨#[]⟩ [])=0->(z0u (.mk 2 n ⟨#[]⟩ [])).length<=400000) (hlen:(z4k n t).length<=900000) :
  Calls Tryz.prog 24 #[.pointer (some ⟨b,0,none⟩),.int .i64 n,z1u ⟨k,m,s,A,l,c⟩ false ⟨#[]⟩,.bool pk] W fun e W'=>e=.returned (.tuple #[])/\LB w0 b (z4k n t) W'/\KO b W W':=by
 have HIO:=kf (fun W=>z6v n W);have HF1:=kf (fun W (h2:Chg NoS w0 W)=>y0q (.mk 2 n ⟨#[]⟩ []) ⟨2,n,⟨#[]⟩,none,0,0⟩ W (hL.chg h2) (z1y (fun _=>False) W 2 n ⟨#[]⟩ (by decide) hn (by decide)).now (by rw [z0f,z1n];omega) hnl);have HF2:=kf (fun W (h2:Chg NoS w0 W)=>y0q t ⟨k,m,s,A,l,c⟩ W (hL.chg h2) (hv.chg h2) hsz hl);have HPL:=kf (show z4k n t=([]:List UInt8)++txA [sb (z5z (.mk 2 n ⟨#[]⟩ [])),⟨#[32,48,32,111,98,106]⟩]++[10]++txA [sb (z5z t)]++[10]++txA [sEndobj]++[10] from rfl);have HLEN:=kf hlen;obtain⟨S1,hS1⟩:∃ S,S=sb (z5z (.mk 2 n ⟨#[]⟩ [])):=⟨_,rfl⟩
 obtain⟨S2,hS2⟩:∃ S,S=sb (z5z t):=⟨_,rfl⟩
 rw [<- hS1] at HF1 HPL;rw [<- hS2] at HF2 HPL;have hll:(([]:List UInt8)++txA [S1,⟨#[32,48,32,111,98,106]⟩]++[10]++txA [S2]++[10]++txA [sEndobj]++[10]).length<=900000:=by rw [<- HPL.out];exact hlen
 simp only [List.length_append,List.length_nil,List.length_singleton] at hll;have HLL:=kf hll;obtain⟨S3,hS3⟩:∃ S:ByteArray,S=⟨#[32,48,32,111,98,106]⟩:=⟨_,rfl⟩
 have HS3:=kf hS3;unfold VC.val at HF1 HF2;simp only [] at HF1 HF2;have HLN:=kf (fun W (o:List UInt8) (G mm:Nat) (ss:List ByteArray) (h2:LB w0 b o W) (hG:Blk W G 9 (ss.map Value.string).toArray) (hm:mm=ss.length) (h9:mm<=1000) (h8:o.length+(txA ss).length+1<=1000000)=>y7m ss h2 hG hm h8 h9);have HH:=kf h;have HNB:Hid (W.heap.size≠b):=by show _≠_;have:=h.buf.lt;omega
 have HB6:=kf (Blk.new W 26 (obA ⟨k,m,s,A,l,c⟩ false ⟨#[]⟩));have HC6:=kf ((Chg.refl NoS W).alloc (.cells (obA ⟨k,m,s,A,l,c⟩ false ⟨#[]⟩) 26));unfold z1u;obtain⟨W1,hW1⟩:∃ W1,W1=W.alloc (.cells (obA ⟨k,m,s,A,l,c⟩ false ⟨#[]⟩) 26):=⟨_,rfl⟩
 obtain⟨g,hg⟩:∃ g,g=W.heap.size:=⟨_,rfl⟩
 rw [<- hW1] at HB6 HC6;rw [<- hg] at HB6 HNB;unfold obA at HB6 hW1 ⊢;simp only [] at HB6 hW1 ⊢;have HL1:=kf (HH.out.call HC6.out);have HK1:=kf (KO.of (b:=b) HC6.out);clear h hL hv hsz hl hn hnl hlen hll hS1 hS2 hS3;go_enter Tryz.func24,Tryz.ntmps24;go_upto_region 1 with fail;rw [<- hg,<- hW1];clear hg hW1;obtain⟨q0,q1,q2,q3,q4,q5,_,_,_,_,_,_⟩:=HB6.out.cl6
 go_upto_region 2 with first
  |(go_at_call 15;refine(HIO.out _).mono ?_;rintro e w2 ⟨rfl,hc2⟩;have HL2:=kf (HL1.out.call hc2);have HK2:=kf (HK1.out.tr (KO.of hc2));have HB62:=kf (HB6.out.chg hc2 (fun e=>e));clear hc2)
  |(go_at_call 45;refine(HF1.out _ HL2.out.chg).mono ?_;rintro e w3 ⟨rfl,hc3⟩;have HL3:=kf (HL2.out.call ((hc3.alloc (.cells #[.string S1,.string ⟨#[32,48,32,111,98,106]⟩] 9))));have HK3:=kf (HK2.out.tr (KO.of ((hc3.alloc (.cells #[.string S1,.string ⟨#[32,48,32,111,98,106]⟩] 9)))));have HB63:=kf (HB62.out.chg (hc3.alloc (.cells #[.string S1,.string ⟨#[32,48,32,111,98,106]⟩] 9)) (fun e=>e));have HG3:=kf (Blk.new w3 9 #[.string S1,.string ⟨#[32,48,32,111,98,106]⟩]);clear hc3)
  |(go_at_call 44;refine(HLN.out _ _ _ _ [S1,⟨#[32,48,32,111,98,106]⟩] HL3.out HG3.out rfl (by simp) (by have:=HLL.out;simp only [List.length_append,List.length_nil,List.length_singleton];omega)).mono ?_;rintro e w4 ⟨rfl,h4,k4⟩;have HL4:=kf h4;have HK4:=kf (HK3.out.tr k4);have HB64:=kf (k4.blk HB63.out HNB.out (by decide));clear h4 k4)
 clear q0 q1 q2 q3 q4 q5;obtain⟨q0,q1,q2,q3,q4,q5,_,_,_,_,_,_⟩:=HB64.out.cl6
 go_upto_region 5 with first
  |(go_at_call 45;refine(HF2.out _ HL4.out.chg).mono ?_;rintro e w5 ⟨rfl,hc5⟩;have HL5:=kf (HL4.out.call (hc5.alloc (.cells #[.string S2] 9)));have HK5:=kf (HK4.out.tr (KO.of (hc5.alloc (.cells #[.string S2] 9))));have HG5:=kf (Blk.new w5 9 #[.string S2]);clear hc5)
  |(go_at_call 44;refine(HLN.out _ _ _ _ [S2] HL5.out HG5.out rfl (by simp) (by have:=HLL.out;simp only [List.length_append,List.length_nil,List.length_singleton];omega)).mono ?_;rintro e w6 ⟨rfl,h6,k6⟩;have HL6:=kf (h6.call ((Chg.refl NoS w6).alloc (.cells #[.string sEndobj] 9)));have HK6:=kf ((HK5.out.tr k6).tr (KO.of ((Chg.refl NoS w6).alloc (.cells #[.string sEndobj] 9))));have HG6:=kf (Blk.new w6 9 #[.string sEndobj]);clear h6 k6)
 go_wp2_with (go_at_call 44;refine(HLN.out _ _ _ _ [sEndobj] HL6.out HG6.out rfl (by simp) (by have:=HLL.out;simp only [List.length_append,List.length_nil,List.length_singleton];omega)).mono ?_;rintro e w7 ⟨rfl,h7,k7⟩;have HL7:=kf h7;have HK7:=kf (HK6.out.tr k7);clear h7 k7);first|go_end0|go_ret|go_ret2
 exact⟨rfl,by rw [HPL.out];exact HL7.out,HK7.out⟩
theorem v57 (t:VT) (k m:Int) (s:ByteArray) (A:Option Addr) (l c:Nat) (w:World) (hv:ValIs w t ⟨k,m,s,A,l,c⟩) (hsz:z1h t<=1000000) (hck:z0w t=0) :
  Calls Tryz.prog 6 #[z1u ⟨k,m,s,A,l,c⟩ false ⟨#[]⟩] w fun e w'=>e=.returned (.int .i64 0)/\Chg NoS w w':=by
 have HK:=kf (fun W (h:Chg NoS w W)=>z78 t ⟨k,m,s,A,l,c⟩ W (hv.chg h) hsz);rw [hck] at HK;unfold VC.val at HK;simp only [] at HK;have HB:=kf (Blk.new w 26 (obA ⟨k,m,s,A,l,c⟩ false ⟨#[]⟩));have HC:=kf ((Chg.refl NoS w).alloc (.cells (obA ⟨k,m,s,A,l,c⟩ false ⟨#[]⟩) 26));unfold z1u;obtain⟨W1,hW1⟩:∃ W1,W1=w.alloc (.cells (obA ⟨k,m,s,A,l,c⟩ false ⟨#[]⟩) 26):=⟨_,rfl⟩
 obtain⟨g,hg⟩:∃ g,g=w.heap.size:=⟨_,rfl⟩
 rw [<- hW1] at HB HC;rw [<- hg] at HB;unfold obA at HB hW1 ⊢;simp only [] at HB hW1 ⊢;clear hv hsz hck;go_enter Tryz.func6,Tryz.ntmps6;go_upto_region 1 with fail;rw [<- hg,<- hW1];clear hg hW1;obtain⟨q0,q1,q2,q3,q4,q5,_,_,_,_,_,_⟩:=HB.out.cl6;go_wp2_with (go_at_call 18;refine(HK.out _ HC.out).mono ?_;rintro e w2 ⟨rfl,h2⟩;have HC2:=kf (HC.out.trans h2 (fun _ _ e=>e));have hb2:=HB.out.chg h2 (fun e=>e);clear q0 q1 q2 q3 q4 q5;obtain⟨q0,q1,q2,q3,q4,q5,_,_,_,_,_,_⟩:=hb2.cl6;clear h2 hb2);go_ret;exact⟨rfl,HC2.out⟩
def v8o (w:World) (out:List Nat) (e:Ending) (w':World):Prop:=∃ (A:Option Addr) (n c:Nat),e=.returned (.tuple #[.slice A n c,.int .i64 0])/\n=out.length/\Src w' 1 A n c (z09 out)/\n<=c/\Chg NoS w w'
theorem y7h (n:Int) (t:VT) (k m:Int) (s:ByteArray) (A:Option Addr) (l c:Nat) (pk:Bool) (w:World) (hL:LibOk w) (hv:ValIs w t ⟨k,m,s,A,l,c⟩) (hsz:z1h t<=1000000) (hck:z0w t=0) (hl:(z0u t).length<=400000) (hn:1<=n/\n<=4096) (hnl:(z0u (.mk 2 n ⟨#[]⟩ [])).length<=400000) (hlen:(z4k n t).length<=900000) :
  Calls Tryz.prog 14 #[.int .i64 n,z1u ⟨k,m,s,A,l,c⟩ false ⟨#[]⟩,.bool pk] w (v8o w ((z4k n t).map UInt8.toNat)):=by
 have HK:=kf (fun W (h:Chg NoS w W)=>v57 t k m s A l c W (hv.chg h) hsz hck);have HOJ:=kf (fun W b (h:LB w b [] W)=>y7k n t k m s A l c pk h hL hv hsz (fun _=>hl) (by omega) (fun _=>hnl) hlen);have HBY:=kf (fun W b (h:LB w b (z4k n t) W)=>y4p h (by omega));have d1:decide (n<1)=false:=by simp;omega
 have d2:decide (4096<n)=false:=by simp;omega
 have HB:=kf (Blk.new w 26 (obA ⟨k,m,s,A,l,c⟩ false ⟨#[]⟩));have HC:=kf ((Chg.refl NoS w).alloc (.cells (obA ⟨k,m,s,A,l,c⟩ false ⟨#[]⟩) 26));obtain⟨out,hout⟩:∃ o,o=z4k n t:=⟨_,rfl⟩
 rw [<- hout] at HOJ HBY ⊢;unfold z1u at HK HOJ ⊢;obtain⟨W1,hW1⟩:∃ W1,W1=w.alloc (.cells (obA ⟨k,m,s,A,l,c⟩ false ⟨#[]⟩) 26):=⟨_,rfl⟩
 obtain⟨g,hg⟩:∃ g,g=w.heap.size:=⟨_,rfl⟩
 rw [<- hW1] at HB HC;rw [<- hg] at HB;unfold obA at HB hW1 HK HOJ ⊢;simp only [] at HB hW1 HK HOJ ⊢;clear hv hsz hck hl hn hnl hlen hL hout;go_enter Tryz.func14,Tryz.ntmps14;go_upto_region 1 with fail;rw [<- hg,<- hW1];clear hg hW1;obtain⟨q0,q1,q2,q3,q4,q5,_,_,_,_,_,_⟩:=HB.out.cl6;go_upto_region 6 with(go_at_call 6;refine(HK.out _ HC.out).mono ?_;rintro e w2 ⟨rfl,h2⟩;have HC2:=kf (HC.out.trans h2 (fun _ _ e=>e));have HB2:=kf (HB.out.chg h2 (fun e=>e));clear h2);clear q0 q1 q2 q3 q4 q5;have HLB:=kf (LB.start w w2 HC2.out);have HB3:=kf (HB2.out.alloc (.cells #[.slice none 0 0,.int .i64 0,.int .i8 0] 53));go_upto_region 7 with fail;obtain⟨W3,hW3⟩:∃ W3,W3=w2.alloc (.cells #[.slice none 0 0,.int .i64 0,.int .i8 0] 53):=⟨_,rfl⟩
 obtain⟨b,hb⟩:∃ b,b=w2.heap.size:=⟨_,rfl⟩
 rw [<- hW3] at HLB HB3 ⊢;rw [<- hb] at HLB ⊢;clear hW3 hb;obtain⟨q0,q1,q2,q3,q4,q5,_,_,_,_,_,_⟩:=HB3.out.cl6
 go_wp2_with first
  |(go_at_call 24;refine(HOJ.out _ _ HLB.out).mono ?_;rintro e w4 ⟨rfl,h4,k4⟩;have HL4:=kf h4;clear h4 k4)
  |(go_at_call 25;refine(HBY.out _ _ HL4.out).mono ?_;rintro e w5 ⟨A5,n5,c5,rfl,h5,h6,h7,h8⟩;have HX:=kf h5;have HY:=kf h6;have HZ:=kf h7;have HC5:=kf (HL4.out.chg.trans h8 (fun _ _ e=>e));clear h5 h6 h7 h8)
 go_ret2;exact⟨A5,n5,c5,rfl,by rw [List.length_map];exact HX.out,HY.out,HZ.out,HC5.out⟩
theorem z3d (t:VT) (k m:Int) (s:ByteArray) (A:Option Addr) (l c:Nat) (k' m':Int) (s':ByteArray) (A':Option Addr) (l' c':Nat) (st:Bool) (d:ByteArray) (w:World) (hv:ValIs w t ⟨k,m,s,A,l,c⟩) (hv':ValIs w t ⟨k',m',s',A',l',c'⟩) :
  Calls Tryz.prog 9 #[z1u ⟨k,m,s,A,l,c⟩ st d,z1u ⟨k',m',s',A',l',c'⟩ st d] w fun e w'=>e=.returned (.bool true)/\Chg NoS w w':=by
 have HS:=kf (fun W (h:Chg NoS w W)=>(show Calls Tryz.prog 23 #[.agg #[.int .i64 k,.int .i64 m,.string s,.slice A l c],.agg #[.int .i64 k',.int .i64 m',.string s',.slice A' l' c']] W fun e w'=>e=.returned (.bool true)/\Chg NoS W w' from by
  have h1:=z6k t t ⟨k,m,s,A,l,c⟩ ⟨k',m',s',A',l',c'⟩ W (hv.chg h) (hv'.chg h);rw [decide_eq_true (y86 t)] at h1;exact h1))
 have HB:=kf ((Blk.new w 26 (obA ⟨k,m,s,A,l,c⟩ st d)).alloc (.cells (obA ⟨k',m',s',A',l',c'⟩ st d) 26));have hb2:=Blk.new (w.alloc (.cells (obA ⟨k,m,s,A,l,c⟩ st d) 26)) 26 (obA ⟨k',m',s',A',l',c'⟩ st d);rw [World.size_alloc] at hb2;have HB2:=kf hb2;have HC:=kf (((Chg.refl NoS w).alloc (.cells (obA ⟨k,m,s,A,l,c⟩ st d) 26)).alloc (.cells (obA ⟨k',m',s',A',l',c'⟩ st d) 26));obtain⟨W1,hW1⟩:∃ W1,W1=(w.alloc (.cells (obA ⟨k,m,s,A,l,c⟩ st d) 26)).alloc (.cells (obA ⟨k',m',s',A',l',c'⟩ st d) 26):=⟨_,rfl⟩
 obtain⟨g3,hg3⟩:∃ g,g=w.heap.size+1:=⟨_,rfl⟩
 obtain⟨g2,hg2⟩:∃ g,g=w.heap.size:=⟨_,rfl⟩
 rw [<- hW1] at HB HB2 HC;rw [<- hg2] at HB;rw [<- hg3] at HB2;unfold z1u;unfold obA at HB HB2 hW1 ⊢;simp only [] at HB HB2 hW1 ⊢;have s1:(d.toList==d.toList)=true:=by simp
 have s2:(st==st)=true:=by simp
 clear hv hv' hb2;go_enter Tryz.func9,Tryz.ntmps9;go_upto_region 1 with fail;rw [<- hg2];rw [show g2+1=g3 from by omega];rw [<- hW1];clear hg2 hg3 hW1;obtain⟨q0,q1,q2,q3,q4,q5,_,_,_,_,_,_⟩:=HB.out.cl6;obtain⟨p0,p1,p2,p3,p4,p5,_,_,_,_,_,_⟩:=HB2.out.cl6;go_wp2_with (go_at_call 23;refine(HS.out _ HC.out).mono ?_;rintro e w3 ⟨rfl,h3⟩;have HC3:=kf (HC.out.trans h3 (fun _ _ e=>e));have hb3:=HB.out.chg h3 (fun e=>e);have hb4:=HB2.out.chg h3 (fun e=>e);clear q0 q1 q2 q3 q4 q5 p0 p1 p2 p3 p4 p5;obtain⟨q0,q1,q2,q3,q4,q5,_,_,_,_,_,_⟩:=hb3.cl6;obtain⟨p0,p1,p2,p3,p4,p5,_,_,_,_,_,_⟩:=hb4.cl6;clear h3 hb3 hb4)
 all_goals
  go_ret;exact⟨by simp,HC3.out⟩
theorem z0j {W:World} {g:Nat} {a b c d:Value} (h:Blk W g 24 #[a,b,c,d]):W.cell? ⟨g,0,none⟩=some a/\W.cell? ⟨g,1,none⟩=some b/\W.cell? ⟨g,2,none⟩=some c/\W.cell? ⟨g,3,none⟩=some d:=⟨h.cl4.c0,h.cl4.c1,h.cl4.c2,h.cl4.c3⟩
theorem y7n (t:VT) (v:VC) (w:World) (hv:ValIs w t v) :
  Calls Tryz.prog 105 #[v.val] w fun e w'=>e=.returned (.bool (y1w t))/\Chg NoS w w':=by
 obtain⟨k,n,s,l⟩:=t;obtain⟨vk,vn,vs,vA,vl,vc⟩:=v;obtain⟨e1,e2,e3,hg,hll,hr⟩:=hv.inv;simp only [] at e1 e2 e3 hll hr;subst e1 e2 e3;have HCAP:Hid (vl<=vc):=hg.cap;have HV:=kf hv;have HR:=kf hr;have HLL:=kf hll;have HFL:=kf (show y1w (.mk vk vn vs l)=decide (z36 (if vk=6/\l.length=1 then l.getD 0 z1i else .mk vk vn vs l) (nmT z5t)=0) from rfl);have HNM:=kf (fun W=>z5k z5t W);have HSM:=kf (fun W (t1:VT) (c1:VC) (h1:ValIs W t1 c1)=>y2k t1 (nmT z5t) c1 ⟨5,0,z5t,none,0,0⟩ W h1 (v9e W z5t (by decide)));unfold VC.val at HSM ⊢;simp only [] at HSM ⊢;have HB1:=kf (Blk.new w 24 #[.int .i64 vk,.int .i64 vn,.string vs,.slice vA vl vc]);have HC1:=kf ((Chg.refl NoS w).alloc (.cells #[.int .i64 vk,.int .i64 vn,.string vs,.slice vA vl vc] 24));obtain⟨W1,hW1⟩:∃ W1,W1=w.alloc (.cells #[.int .i64 vk,.int .i64 vn,.string vs,.slice vA vl vc] 24):=⟨_,rfl⟩
 obtain⟨g,hgg⟩:∃ g,g=w.heap.size:=⟨_,rfl⟩
 rw [<- hW1] at HB1 HC1;rw [<- hgg] at HB1;have HG:=kf hgg;clear hv hg hr hll;by_cases h6:vk=6/\l.length=1
 ·obtain⟨h6a,h6b⟩:=h6
  obtain⟨x,rfl⟩:∃ x,l=[x]:=by
   cases l with
   |nil=>cases h6b
   |cons x l=>cases l with
    |nil=>exact⟨x,rfl⟩
    |cons y l=>simp at h6b
  subst h6a;have HZ:=kf (HFL.out.trans (by rw [if_pos ⟨rfl,rfl⟩];rfl:_=decide (z36 x (nmT z5t)=0)));obtain⟨b,off,hA⟩:=HR.out.start;subst hA;obtain⟨⟨ek,en,es,eA,el,ec⟩,c0,c1,c2,c3,hvx,_⟩:=HR.out.plain;obtain rfl:vl=1:=HLL.out.symm;simp only [Nat.zero_mul,Nat.add_zero] at c0 c1 c2 c3;have HVX:=kf hvx;have a0:=(HC1.out.cell (z05 c0) (fun e=>e)).trans c0;have a1:=(HC1.out.cell (z05 c1) (fun e=>e)).trans c1;have a2:=(HC1.out.cell (z05 c2) (fun e=>e)).trans c2;have a3:=(HC1.out.cell (z05 c3) (fun e=>e)).trans c3;have hcap:=HCAP.out;clear c0 c1 c2 c3 hvx HFL;go_enter Tryz.func105,Tryz.ntmps105;go_upto_region 1 with fail;rw [<- hgg,<- hW1];clear hW1 hgg;obtain⟨q0,q1,q2,q3,z0,z1,z2,z3⟩:=HB1.out.cl4;go_upto_region 3 with fail;have HB2:=kf (Blk.set4 HB1.out (.int .i64 ek) (.int .i64 en) (.string es) (.slice eA el ec));have HC2:=kf (HC1.out.trans (z0l W1 g (.int .i64 ek) (.int .i64 en) (.string es) (.slice eA el ec)) (fun i hi e=>by rw [e] at hi;have:=HG.out;omega));obtain⟨W2,hW2⟩:∃ W2,W2=(((W1.setCell ⟨g,0,none⟩ (.int .i64 ek)).setCell ⟨g,1,none⟩ (.int .i64 en)).setCell ⟨g,2,none⟩ (.string es)).setCell ⟨g,3,none⟩ (.slice eA el ec):=⟨_,rfl⟩
  rw [<- hW2] at HB2 HC2 ⊢;clear hW2 q0 q1 q2 q3 z0 z1 z2 z3 a0 a1 a2 a3;refine z3b (fun w'=>w'.cell? ⟨g,0,none⟩=some (.int .i64 ek)/\w'.cell? ⟨g,1,none⟩=some (.int .i64 en)/\w'.cell? ⟨g,2,none⟩=some (.string es)/\w'.cell? ⟨g,3,none⟩=some (.slice eA el ec)) 3 (by kernel_rfl) (z0j (HB2.out.drew)) (fun hHeld=>?_);refine z06 (i:=0) (oi:={ dst:=some 16,op:=Go.Op.load 24 (Go.Operand.tmp 1),type:=24,pos:=_,after:=_,guard:=none }) (v:=?_) rfl (by kernel_rfl) (by kernel_rfl) (by kernel_rfl) (by kernel_rfl) (fun _ _ _ h=>h) (Or.inl ⟨by rfl,?_⟩) (by assumption) ?_;rotate_left
  ·intro w hSw;(try dsimp only at hSw);(try obtain⟨s0,s1,s2,s3,s4,s5⟩:=hSw);(first|(go_simp;done)|(go_simp;with_reducible rfl))
  try simp only [pkA]
  refine z5i (i:=1) (o:={ dst:=some 17,op:=Go.Op.call { callee:=Go.Callee.value (Go.Operand.func 34),args:=#[Go.Operand.const (Go.Value.string { data:=#[70,108,97,116,101,68,101,99,111,100,101] })],argTypes:=#[9] },type:=24,pos:=_,after:=_,guard:=none }) (by kernel_rfl) rfl (by decide) (fun K hK=>?_);go_simp;(go_at_call 34;refine(HNM.out _).mono ?_;rintro e w4 ⟨rfl,hc4⟩;have HC4:=kf ((Chg.refl NoS W2).drew.trans hc4 (fun _ _ e=>e));clear hc4)
  refine hK.out _ _ (z0j (HB2.out.chg HC4.out (fun e=>e))) (fun hHeld=>?_);clear hK K;try simp only [pkA]
  refine z5i (i:=2) (o:={ dst:=some 18,op:=Go.Op.call { callee:=Go.Callee.value (Go.Operand.func 22),args:=#[Go.Operand.tmp 16,Go.Operand.tmp 17],argTypes:=#[24,24] },type:=4,pos:=_,after:=_,guard:=none }) (by kernel_rfl) rfl (by decide) (fun K hK=>?_);go_simp;(go_at_call 22;refine(HSM.out _ x ⟨ek,en,es,eA,el,ec⟩ (HVX.out.chg (HC2.out.trans HC4.out (fun _ _ e=>e)))).mono ?_;rintro e w5 ⟨rfl,hc5⟩;have HC5:=kf ((HC2.out.trans HC4.out (fun _ _ e=>e)).trans hc5 (fun _ _ e=>e));have HC6:=kf hc5;clear hc5)
  refine hK.out _ _ (z0j ((HB2.out.chg HC4.out (fun e=>e)).chg HC6.out (fun e=>e))) (fun hHeld=>?_);clear hK K;try simp only [pkA]
  refine z60 (o:={ dst:=some 2,op:=Go.Op.assign (Go.Operand.tmp 18),type:=4,pos:=_,after:=_,guard:=none }) (by kernel_rfl) rfl (by kernel_rfl) (fun K hK=>?_);go_simp;refine hK.out _ _ ?_;clear hK K;try simp only [pkA]
  go_wp2_with fail;go_ret;exact⟨by rw [HZ.out];rfl,HC5.out⟩
 ·have HZ:=kf (HFL.out.trans (by rw [if_neg h6]:_=decide (z36 (.mk vk vn vs l) (nmT z5t)=0)));clear HFL;have HVX:=HV;have HB2:=HB1;have HC2:=HC1;by_cases h6a:vk=6
  ·subst h6a;have hv1:¬vl=1:=fun h=>h6 ⟨rfl,by rw [HLL.out];exact h⟩;have d1:((vl:Int)==1)=false:=by simp;omega
   clear h6;go_enter Tryz.func105,Tryz.ntmps105;go_upto_region 1 with fail;rw [<- hgg,<- hW1];clear hW1 hgg;obtain⟨q0,q1,q2,q3,z0,z1,z2,z3⟩:=HB1.out.cl4;go_upto_region 3 with fail;refine z3b (fun w'=>w'.cell? ⟨g,0,none⟩=some (.int .i64 6)/\w'.cell? ⟨g,1,none⟩=some (.int .i64 vn)/\w'.cell? ⟨g,2,none⟩=some (.string vs)/\w'.cell? ⟨g,3,none⟩=some (.slice vA vl vc)) 3 (by kernel_rfl) (z0j (HB2.out.drew)) (fun hHeld=>?_);refine z06 (i:=0) (oi:={ dst:=some 16,op:=Go.Op.load 24 (Go.Operand.tmp 1),type:=24,pos:=_,after:=_,guard:=none }) (v:=?_) rfl (by kernel_rfl) (by kernel_rfl) (by kernel_rfl) (by kernel_rfl) (fun _ _ _ h=>h) (Or.inl ⟨by rfl,?_⟩) (by assumption) ?_;rotate_left
   ·intro w hSw;(try dsimp only at hSw);(try obtain⟨s0,s1,s2,s3,s4,s5⟩:=hSw);(first|(go_simp;done)|(go_simp;with_reducible rfl))
   try simp only [pkA]
   refine z5i (i:=1) (o:={ dst:=some 17,op:=Go.Op.call { callee:=Go.Callee.value (Go.Operand.func 34),args:=#[Go.Operand.const (Go.Value.string { data:=#[70,108,97,116,101,68,101,99,111,100,101] })],argTypes:=#[9] },type:=24,pos:=_,after:=_,guard:=none }) (by kernel_rfl) rfl (by decide) (fun K hK=>?_);go_simp;(go_at_call 34;refine(HNM.out _).mono ?_;rintro e w4 ⟨rfl,hc4⟩;have HC4:=kf ((Chg.refl NoS W1).drew.trans hc4 (fun _ _ e=>e));clear hc4)
   refine hK.out _ _ (z0j (HB2.out.chg HC4.out (fun e=>e))) (fun hHeld=>?_);clear hK K;try simp only [pkA]
   refine z5i (i:=2) (o:={ dst:=some 18,op:=Go.Op.call { callee:=Go.Callee.value (Go.Operand.func 22),args:=#[Go.Operand.tmp 16,Go.Operand.tmp 17],argTypes:=#[24,24] },type:=4,pos:=_,after:=_,guard:=none }) (by kernel_rfl) rfl (by decide) (fun K hK=>?_);go_simp;(go_at_call 22;refine(HSM.out _ (.mk 6 vn vs l) ⟨6,vn,vs,vA,vl,vc⟩ (HVX.out.chg (HC2.out.trans HC4.out (fun _ _ e=>e)))).mono ?_;rintro e w5 ⟨rfl,hc5⟩;have HC5:=kf ((HC2.out.trans HC4.out (fun _ _ e=>e)).trans hc5 (fun _ _ e=>e));have HC6:=kf hc5;clear hc5)
   refine hK.out _ _ (z0j ((HB2.out.chg HC4.out (fun e=>e)).chg HC6.out (fun e=>e))) (fun hHeld=>?_);clear hK K;try simp only [pkA]
   refine z60 (o:={ dst:=some 2,op:=Go.Op.assign (Go.Operand.tmp 18),type:=4,pos:=_,after:=_,guard:=none }) (by kernel_rfl) rfl (by kernel_rfl) (fun K hK=>?_);go_simp;refine hK.out _ _ ?_;clear hK K;try simp only [pkA]
   go_wp2_with fail;go_ret;exact⟨by rw [HZ.out];rfl,HC5.out⟩
  ·have d1:(vk==6)=false:=by simpa using h6a
   have d2:(vk != 6)=true:=by simpa using h6a
   clear h6 h6a;go_enter Tryz.func105,Tryz.ntmps105;go_upto_region 1 with fail;rw [<- hgg,<- hW1];clear hW1 hgg;obtain⟨q0,q1,q2,q3,z0,z1,z2,z3⟩:=HB1.out.cl4;go_upto_region 3 with fail;refine z3b (fun w'=>w'.cell? ⟨g,0,none⟩=some (.int .i64 vk)/\w'.cell? ⟨g,1,none⟩=some (.int .i64 vn)/\w'.cell? ⟨g,2,none⟩=some (.string vs)/\w'.cell? ⟨g,3,none⟩=some (.slice vA vl vc)) 3 (by kernel_rfl) (z0j (HB2.out.drew)) (fun hHeld=>?_);refine z06 (i:=0) (oi:={ dst:=some 16,op:=Go.Op.load 24 (Go.Operand.tmp 1),type:=24,pos:=_,after:=_,guard:=none }) (v:=?_) rfl (by kernel_rfl) (by kernel_rfl) (by kernel_rfl) (by kernel_rfl) (fun _ _ _ h=>h) (Or.inl ⟨by rfl,?_⟩) (by assumption) ?_;rotate_left
   ·intro w hSw;(try dsimp only at hSw);(try obtain⟨s0,s1,s2,s3,s4,s5⟩:=hSw);(first|(go_simp;done)|(go_simp;with_reducible rfl))
   try simp only [pkA]
   refine z5i (i:=1) (o:={ dst:=some 17,op:=Go.Op.call { callee:=Go.Callee.value (Go.Operand.func 34),args:=#[Go.Operand.const (Go.Value.string { data:=#[70,108,97,116,101,68,101,99,111,100,101] })],argTypes:=#[9] },type:=24,pos:=_,after:=_,guard:=none }) (by kernel_rfl) rfl (by decide) (fun K hK=>?_);go_simp;(go_at_call 34;refine(HNM.out _).mono ?_;rintro e w4 ⟨rfl,hc4⟩;have HC4:=kf ((Chg.refl NoS W1).drew.trans hc4 (fun _ _ e=>e));clear hc4)
   refine hK.out _ _ (z0j (HB2.out.chg HC4.out (fun e=>e))) (fun hHeld=>?_);clear hK K;try simp only [pkA]
   refine z5i (i:=2) (o:={ dst:=some 18,op:=Go.Op.call { callee:=Go.Callee.value (Go.Operand.func 22),args:=#[Go.Operand.tmp 16,Go.Operand.tmp 17],argTypes:=#[24,24] },type:=4,pos:=_,after:=_,guard:=none }) (by kernel_rfl) rfl (by decide) (fun K hK=>?_);go_simp;(go_at_call 22;refine(HSM.out _ (.mk vk vn vs l) ⟨vk,vn,vs,vA,vl,vc⟩ (HVX.out.chg (HC2.out.trans HC4.out (fun _ _ e=>e)))).mono ?_;rintro e w5 ⟨rfl,hc5⟩;have HC5:=kf ((HC2.out.trans HC4.out (fun _ _ e=>e)).trans hc5 (fun _ _ e=>e));have HC6:=kf hc5;clear hc5)
   refine hK.out _ _ (z0j ((HB2.out.chg HC4.out (fun e=>e)).chg HC6.out (fun e=>e))) (fun hHeld=>?_);clear hK K;try simp only [pkA]
   refine z60 (o:={ dst:=some 2,op:=Go.Op.assign (Go.Operand.tmp 18),type:=4,pos:=_,after:=_,guard:=none }) (by kernel_rfl) rfl (by kernel_rfl) (fun K hK=>?_);go_simp;refine hK.out _ _ ?_;clear hK K;try simp only [pkA]
   go_wp2_with fail;go_ret;exact⟨by rw [HZ.out];rfl,HC5.out⟩
theorem v17 {w0 w:World} {bs:List Nat} {A:Option Addr} {c R:Nat} {last:Bool} {s:FS} {O:Nat->Prop} (h:RB w0 bs A c R last s w) (t:VT) (v:VC) (hv:Ins O w t v) (hO:O R) (hsz:z1h t<=1000000) :
  Calls Tryz.prog 75 #[.pointer (some ⟨R,0,none⟩),v.val] w (RTo w0 bs A c R last w (.tuple #[.int .i64 (z1a t.kind t.row z02).1.num,.bool (z1a t.kind t.row z0g).2]) (s.1,z7h t s.2)):=by
 obtain⟨k,n,S,l⟩:=t;have e0:=hv.eq;obtain⟨vk,vn,vs,vA,vl,vc⟩:=v;obtain⟨e1,e2,e3⟩:=e0;have e1':vk=k:=e1;have e2':vn=n:=e2;have e3':vs=S:=e3;clear e1 e2 e3;subst e1' e2' e3';rw [z0f] at hsz;have HV:=kf hv;have HGT:=kf (fun W (hW:ValIs W (.mk vk vn vs l) ⟨vk,vn,vs,vA,vl,vc⟩) (key:ByteArray)=>y78 ⟨vk,vn,vs,vA,vl,vc⟩ l key W hW (by omega));have HHE:=kf (show z7h (.mk vk vn vs l) s.2=z3i (z3i (z3i s.2 (decide ((z1a vk l z02).1.kind=2)&&(decide (0<=(z1a vk l z02).1.num)&&decide ((z1a vk l z02).1.num<=16777216)))) (!(z1a vk l z2f).2)) (!(z1a vk l z0g).2 || y1w (z1a vk l z0g).1) from rfl);show Calls Tryz.prog 75 _ w (RTo w0 bs A c R last w (.tuple #[.int .i64 (z1a vk l z02).1.num,.bool (z1a vk l z0g).2]) _);obtain⟨GL,hGL⟩:∃ G,G=z1a vk l z02:=⟨_,rfl⟩
 obtain⟨GP,hGP⟩:∃ G,G=z1a vk l z2f:=⟨_,rfl⟩
 obtain⟨GF,hGF⟩:∃ G,G=z1a vk l z0g:=⟨_,rfl⟩
 have HGL:=kf (fun W hW=>HGT.out W hW z02);have HGP:=kf (fun W hW=>HGT.out W hW z2f);have HGF:=kf (fun W hW=>HGT.out W hW z0g);rw [<- hGL] at HHE HGL;rw [<- hGP] at HHE HGP;rw [<- hGF] at HHE HGF;rw [<- hGL,<- hGF];obtain⟨tL,pL⟩:=GL;obtain⟨tP,pP⟩:=GP;obtain⟨tF,pF⟩:=GF;obtain⟨nk,nn,ns,nl⟩:=tL;unfold GetTo VC.val at HGL HGP HGF;simp only [] at HHE HGL HGP HGF ⊢;have HHE2:Hid (z7h (.mk vk vn vs l) s.2=z3i (z3i (z3i s.2 (decide (nk=2)&&(decide (0<=nn)&&decide (nn<=16777216)))) (!pP)) (!pF || y1w tF)):=HHE.out;show Calls Tryz.prog 75 _ w (RTo w0 bs A c R last w (.tuple #[.int .i64 nn,.bool pF]) (s.1,z7h (.mk vk vn vs l) s.2));rw [HHE2.out];unfold VC.val;simp only [];have HFF:=kf (fun W (cF:VC) (hW:ValIs W tF cF)=>y7n tF cF W hW);unfold VC.val at HFF;have HLT:Hid (R<w.heap.size):=h.lt;have HO:=kf hO;obtain⟨fl,hfl⟩:∃ fl,fl=y1w tF:=⟨_,rfl⟩
 rw [<- hfl] at HFF ⊢;obtain⟨x1,hx1⟩:∃ x,x=(decide (nk=2)&&(decide (0<=nn)&&decide (nn<=16777216))):=⟨_,rfl⟩
 rw [<- hx1];have HA:=kf (fun W (s':FS) (x:Bool) (h2:RB w0 bs A c R last s' W)=>z1z h2 x)
 -- the box of the dictionary
 have HB3:=kf (Blk.new w 24 #[.int .i64 vk,.int .i64 vn,.string vs,.slice vA vl vc]);have HC3:=kf ((Chg.refl NoS w).alloc (.cells #[.int .i64 vk,.int .i64 vn,.string vs,.slice vA vl vc] 24));obtain⟨W1,hW1⟩:∃ W1,W1=w.alloc (.cells #[.int .i64 vk,.int .i64 vn,.string vs,.slice vA vl vc] 24):=⟨_,rfl⟩
 obtain⟨g,hgg⟩:∃ g,g=w.heap.size:=⟨_,rfl⟩
 rw [<- hW1] at HB3 HC3;rw [<- hgg] at HB3;have HNE:Hid (R≠g):=by show _≠_;have:=HLT.out;omega
 have HR1:=kf (h.call HC3.out);have HV1:=kf (HV.out.chg (O:=O) HC3.out);have HC3o:=kf (z0c (R:=R) HC3.out);clear hv h hO hsz hGL hGP hGF HGT HHE HHE2 hfl HV
 have H4:(nk≠2/\x1=false)\/(nk=2/\nn<0/\x1=false)\/(nk=2/\0<=nn/\16777216<nn/\x1=false)\/(nk=2/\0<=nn/\nn<=16777216/\x1=true):=by
  rw [hx1];by_cases a1:nk=2
  ·by_cases a2:0<=nn
   ·by_cases a3:nn<=16777216
    ·exact .inr (.inr (.inr ⟨a1,a2,a3,by simp [a1,a2,a3]⟩))
    ·exact .inr (.inr (.inl ⟨a1,a2,by omega,by simp [a3]⟩))
   ·exact .inr (.inl ⟨a1,by omega,by simp [a2]⟩)
  ·exact .inl ⟨a1,by simp [a1]⟩
 clear hx1;go_enter Tryz.func75,Tryz.ntmps75;go_upto_region 1 with fail;rw [<- hgg,<- hW1];clear hgg hW1;obtain⟨q0,q1,q2,q3⟩:=z0j HB3.out;go_upto_region 2 with(go_at_call 39;refine(HGL.out _ HV1.out.now).mono ?_;rintro e w2 ⟨⟨ck,cn,cs,cA,cl,cc⟩,rfl,hv2,hc2⟩;have HE2:=kf (y55 hv2);have HC2:=kf hc2;clear hv2 hc2;simp only []);obtain⟨f1,f2,_⟩:=HE2.out;have f1':ck=nk:=f1;have f2':cn=nn:=f2;clear f1 f2 q0 q1 q2 q3;subst f1' f2';have HB6:=kf (Blk.new w2 24 #[.int .i64 ck,.int .i64 cn,.string cs,.slice cA cl cc]);have HC26:=kf (HC2.out.alloc (.cells #[.int .i64 ck,.int .i64 cn,.string cs,.slice cA cl cc] 24));have HB36:=kf (HB3.out.chg HC26.out (fun e=>e));have HR6:=kf (HR1.out.call HC26.out);have HV6:=kf (HV1.out.chg (O:=O) HC26.out);have HO6:=kf (z01 HC3o.out (z0c HC26.out));have HNE6:Hid (R≠w2.heap.size):=by show _≠_;have:=(HR1.out.call HC2.out).lt;omega
 obtain⟨W3,hW3⟩:∃ W3,W3=w2.alloc (.cells #[.int .i64 ck,.int .i64 cn,.string cs,.slice cA cl cc] 24):=⟨_,rfl⟩
 obtain⟨g6,hg6⟩:∃ g6,g6=w2.heap.size:=⟨_,rfl⟩
 rw [<- hW3] at HB6 HB36 HR6 HV6 HO6 ⊢;rw [<- hg6] at HB6 HNE6 ⊢;clear hW3 hg6 HC2 HC26 HE2;obtain⟨p0,p1,p2,p3⟩:=z0j HB6.out;rcases H4 with⟨a1,rfl⟩|⟨rfl,a2,rfl⟩|⟨rfl,a2,a3,rfl⟩|⟨rfl,a2,a3,rfl⟩
 ·have d1:(ck==2)=false:=by simpa using a1
  clear a1;have HA1:=kf (HA.out W3 s false HR6.out);go_upto_region 3 with(go_at_call 48;refine HA1.out.mono ?_;rintro e w4 ⟨rfl,hr4,hc4⟩;have HR4:=kf hr4;have HO4:=kf (z01 HO6.out hc4);have HB4:=kf (HB36.out.chg hc4 (fun e=>HNE.out e.symm));have HB64:=kf (HB6.out.chg hc4 (fun e=>HNE6.out e.symm));have H24:=kf (HV6.out.turn (O':=O) (hc4.mono (fun i _ e=>by rw [e];exact HO.out)) (fun _ _ h=>h));clear hr4 hc4);clear p0 p1 p2 p3;obtain⟨q0,q1,q2,q3⟩:=z0j HB4.out;go_upto_region 4 with(go_at_call 39;refine(HGP.out _ H24.out.now).mono ?_;rintro e w5 ⟨⟨dk,dn,ds,dA,dl,dc⟩,rfl,hv5,hc5⟩;have HC5:=kf hc5;clear hv5 hc5;simp only []);clear q0 q1 q2 q3;have HC58:=kf (HC5.out.alloc (.cells #[.int .i64 dk,.int .i64 dn,.string ds,.slice dA dl dc] 24));have HR8:=kf (HR4.out.call HC58.out);have HB8:=kf (HB4.out.chg HC58.out (fun e=>e));have HB68:=kf (HB64.out.chg HC58.out (fun e=>e));have HV8:=kf (H24.out.chg (O:=O) HC58.out);have HO8:=kf (z01 HO4.out (z0c HC58.out));obtain⟨W8,hW8⟩:∃ W8,W8=w5.alloc (.cells #[.int .i64 dk,.int .i64 dn,.string ds,.slice dA dl dc] 24):=⟨_,rfl⟩
  rw [<- hW8] at HR8 HB8 HB68 HV8 HO8 ⊢;clear hW8 HC5 HC58;have HA2:=kf (HA.out W8 _ (!pP) HR8.out);go_upto_region 5 with(go_at_call 48;refine HA2.out.mono ?_;rintro e w9 ⟨rfl,hr9,hc9⟩;have HR9:=kf hr9;have HO9:=kf (z01 HO8.out hc9);have HB9:=kf (HB8.out.chg hc9 (fun e=>HNE.out e.symm));have HB69:=kf (HB68.out.chg hc9 (fun e=>HNE6.out e.symm));have HV9:=kf (HV8.out.turn (O':=O) (hc9.mono (fun i _ e=>by rw [e];exact HO.out)) (fun _ _ h=>h));clear hr9 hc9);obtain⟨q0,q1,q2,q3⟩:=z0j HB9.out;go_upto_region 6 with(go_at_call 39;refine(HGF.out _ HV9.out.now).mono ?_;rintro e w10 ⟨⟨fk,fn,fs,fA,fl2,fc⟩,rfl,hv10,hc10⟩;have HC10:=kf hc10;have HVF:=kf hv10;clear hv10 hc10;simp only []);clear q0 q1 q2 q3;have HCA:=kf (HC10.out.alloc (.cells #[.int .i64 fk,.int .i64 fn,.string fs,.slice fA fl2 fc] 24));have HRA:=kf (HR9.out.call HCA.out);have HB6A:=kf (HB69.out.chg HCA.out (fun e=>e));have HBA:=kf (Blk.new w10 24 #[.int .i64 fk,.int .i64 fn,.string fs,.slice fA fl2 fc]);have HVA:=kf (HVF.out.chg ((Chg.refl NoS w10).alloc (.cells #[.int .i64 fk,.int .i64 fn,.string fs,.slice fA fl2 fc] 24)));have HOA:=kf (z01 HO9.out (z0c HCA.out));obtain⟨WA,hWA⟩:∃ WA,WA=w10.alloc (.cells #[.int .i64 fk,.int .i64 fn,.string fs,.slice fA fl2 fc] 24):=⟨_,rfl⟩
  obtain⟨gA,hgA⟩:∃ gA,gA=w10.heap.size:=⟨_,rfl⟩
  rw [<- hWA] at HRA HB6A HBA HVA HOA ⊢;rw [<- hgA] at HBA ⊢;clear hWA hgA HC10 HCA;obtain⟨r0,r1,r2,r3⟩:=z0j HBA.out;cases pF with
  |false =>
   have HA3:=kf (HA.out WA _ true HRA.out);go_upto_region 7 with(go_at_call 48;refine HA3.out.mono ?_;rintro e w12 ⟨rfl,hr12,hc12⟩;have HR12:=kf hr12;have HO12:=kf (z01 HOA.out hc12);have HB12:=kf (HB6A.out.chg hc12 (fun e=>HNE6.out e.symm));clear hr12 hc12);clear r0 r1 r2 r3;obtain⟨r0,r1,r2,r3⟩:=z0j HB12.out;go_wp2_with fail;go_ret2;exact⟨rfl,HR12.out,HO12.out⟩
  |true =>
   have HF1:=kf (HFF.out WA ⟨fk,fn,fs,fA,fl2,fc⟩ HVA.out)
   go_upto_region 7 with first
    |(go_at_call 105;refine HF1.out.mono ?_;rintro e w11 ⟨rfl,hc11⟩;have HR11:=kf (HRA.out.call hc11);have HO11:=kf (z01 HOA.out (z0c hc11));have HB11:=kf (HB6A.out.chg hc11 (fun e=>e));have HA3:=kf (HA.out _ _ fl HR11.out);clear hc11)
    |(go_at_call 48;refine HA3.out.mono ?_;rintro e w12 ⟨rfl,hr12,hc12⟩;have HR12:=kf hr12;have HO12:=kf (z01 HO11.out hc12);have HB12:=kf (HB11.out.chg hc12 (fun e=>HNE6.out e.symm));clear hr12 hc12)
   clear r0 r1 r2 r3;obtain⟨r0,r1,r2,r3⟩:=z0j HB12.out;go_wp2_with fail;go_ret2;exact⟨rfl,HR12.out,HO12.out⟩
 ·have d1:decide (0<=cn)=false:=by simp;omega
  have HA1:=kf (HA.out W3 s false HR6.out);go_upto_region 3 with(go_at_call 48;refine HA1.out.mono ?_;rintro e w4 ⟨rfl,hr4,hc4⟩;have HR4:=kf hr4;have HO4:=kf (z01 HO6.out hc4);have HB4:=kf (HB36.out.chg hc4 (fun e=>HNE.out e.symm));have HB64:=kf (HB6.out.chg hc4 (fun e=>HNE6.out e.symm));have H24:=kf (HV6.out.turn (O':=O) (hc4.mono (fun i _ e=>by rw [e];exact HO.out)) (fun _ _ h=>h));clear hr4 hc4);clear p0 p1 p2 p3;obtain⟨q0,q1,q2,q3⟩:=z0j HB4.out;go_upto_region 4 with(go_at_call 39;refine(HGP.out _ H24.out.now).mono ?_;rintro e w5 ⟨⟨dk,dn,ds,dA,dl,dc⟩,rfl,hv5,hc5⟩;have HC5:=kf hc5;clear hv5 hc5;simp only []);clear q0 q1 q2 q3;have HC58:=kf (HC5.out.alloc (.cells #[.int .i64 dk,.int .i64 dn,.string ds,.slice dA dl dc] 24));have HR8:=kf (HR4.out.call HC58.out);have HB8:=kf (HB4.out.chg HC58.out (fun e=>e));have HB68:=kf (HB64.out.chg HC58.out (fun e=>e));have HV8:=kf (H24.out.chg (O:=O) HC58.out);have HO8:=kf (z01 HO4.out (z0c HC58.out));obtain⟨W8,hW8⟩:∃ W8,W8=w5.alloc (.cells #[.int .i64 dk,.int .i64 dn,.string ds,.slice dA dl dc] 24):=⟨_,rfl⟩
  rw [<- hW8] at HR8 HB8 HB68 HV8 HO8 ⊢;clear hW8 HC5 HC58;have HA2:=kf (HA.out W8 _ (!pP) HR8.out);go_upto_region 5 with(go_at_call 48;refine HA2.out.mono ?_;rintro e w9 ⟨rfl,hr9,hc9⟩;have HR9:=kf hr9;have HO9:=kf (z01 HO8.out hc9);have HB9:=kf (HB8.out.chg hc9 (fun e=>HNE.out e.symm));have HB69:=kf (HB68.out.chg hc9 (fun e=>HNE6.out e.symm));have HV9:=kf (HV8.out.turn (O':=O) (hc9.mono (fun i _ e=>by rw [e];exact HO.out)) (fun _ _ h=>h));clear hr9 hc9);obtain⟨q0,q1,q2,q3⟩:=z0j HB9.out;go_upto_region 6 with(go_at_call 39;refine(HGF.out _ HV9.out.now).mono ?_;rintro e w10 ⟨⟨fk,fn,fs,fA,fl2,fc⟩,rfl,hv10,hc10⟩;have HC10:=kf hc10;have HVF:=kf hv10;clear hv10 hc10;simp only []);clear q0 q1 q2 q3;have HCA:=kf (HC10.out.alloc (.cells #[.int .i64 fk,.int .i64 fn,.string fs,.slice fA fl2 fc] 24));have HRA:=kf (HR9.out.call HCA.out);have HB6A:=kf (HB69.out.chg HCA.out (fun e=>e));have HBA:=kf (Blk.new w10 24 #[.int .i64 fk,.int .i64 fn,.string fs,.slice fA fl2 fc]);have HVA:=kf (HVF.out.chg ((Chg.refl NoS w10).alloc (.cells #[.int .i64 fk,.int .i64 fn,.string fs,.slice fA fl2 fc] 24)));have HOA:=kf (z01 HO9.out (z0c HCA.out));obtain⟨WA,hWA⟩:∃ WA,WA=w10.alloc (.cells #[.int .i64 fk,.int .i64 fn,.string fs,.slice fA fl2 fc] 24):=⟨_,rfl⟩
  obtain⟨gA,hgA⟩:∃ gA,gA=w10.heap.size:=⟨_,rfl⟩
  rw [<- hWA] at HRA HB6A HBA HVA HOA ⊢;rw [<- hgA] at HBA ⊢;clear hWA hgA HC10 HCA;obtain⟨r0,r1,r2,r3⟩:=z0j HBA.out;cases pF with
  |false =>
   have HA3:=kf (HA.out WA _ true HRA.out);go_upto_region 7 with(go_at_call 48;refine HA3.out.mono ?_;rintro e w12 ⟨rfl,hr12,hc12⟩;have HR12:=kf hr12;have HO12:=kf (z01 HOA.out hc12);have HB12:=kf (HB6A.out.chg hc12 (fun e=>HNE6.out e.symm));clear hr12 hc12);clear r0 r1 r2 r3;obtain⟨r0,r1,r2,r3⟩:=z0j HB12.out;go_wp2_with fail;go_ret2;exact⟨rfl,HR12.out,HO12.out⟩
  |true =>
   have HF1:=kf (HFF.out WA ⟨fk,fn,fs,fA,fl2,fc⟩ HVA.out)
   go_upto_region 7 with first
    |(go_at_call 105;refine HF1.out.mono ?_;rintro e w11 ⟨rfl,hc11⟩;have HR11:=kf (HRA.out.call hc11);have HO11:=kf (z01 HOA.out (z0c hc11));have HB11:=kf (HB6A.out.chg hc11 (fun e=>e));have HA3:=kf (HA.out _ _ fl HR11.out);clear hc11)
    |(go_at_call 48;refine HA3.out.mono ?_;rintro e w12 ⟨rfl,hr12,hc12⟩;have HR12:=kf hr12;have HO12:=kf (z01 HO11.out hc12);have HB12:=kf (HB11.out.chg hc12 (fun e=>HNE6.out e.symm));clear hr12 hc12)
   clear r0 r1 r2 r3;obtain⟨r0,r1,r2,r3⟩:=z0j HB12.out;go_wp2_with fail;go_ret2;exact⟨rfl,HR12.out,HO12.out⟩
 ·have d1:decide (0<=cn)=true:=by simpa using a2
  have d2:decide (cn<=16777216)=false:=by simp;omega
  have HA1:=kf (HA.out W3 s false HR6.out);go_upto_region 3 with(go_at_call 48;refine HA1.out.mono ?_;rintro e w4 ⟨rfl,hr4,hc4⟩;have HR4:=kf hr4;have HO4:=kf (z01 HO6.out hc4);have HB4:=kf (HB36.out.chg hc4 (fun e=>HNE.out e.symm));have HB64:=kf (HB6.out.chg hc4 (fun e=>HNE6.out e.symm));have H24:=kf (HV6.out.turn (O':=O) (hc4.mono (fun i _ e=>by rw [e];exact HO.out)) (fun _ _ h=>h));clear hr4 hc4);clear p0 p1 p2 p3;obtain⟨q0,q1,q2,q3⟩:=z0j HB4.out;go_upto_region 4 with(go_at_call 39;refine(HGP.out _ H24.out.now).mono ?_;rintro e w5 ⟨⟨dk,dn,ds,dA,dl,dc⟩,rfl,hv5,hc5⟩;have HC5:=kf hc5;clear hv5 hc5;simp only []);clear q0 q1 q2 q3;have HC58:=kf (HC5.out.alloc (.cells #[.int .i64 dk,.int .i64 dn,.string ds,.slice dA dl dc] 24));have HR8:=kf (HR4.out.call HC58.out);have HB8:=kf (HB4.out.chg HC58.out (fun e=>e));have HB68:=kf (HB64.out.chg HC58.out (fun e=>e));have HV8:=kf (H24.out.chg (O:=O) HC58.out);have HO8:=kf (z01 HO4.out (z0c HC58.out));obtain⟨W8,hW8⟩:∃ W8,W8=w5.alloc (.cells #[.int .i64 dk,.int .i64 dn,.string ds,.slice dA dl dc] 24):=⟨_,rfl⟩
  rw [<- hW8] at HR8 HB8 HB68 HV8 HO8 ⊢;clear hW8 HC5 HC58;have HA2:=kf (HA.out W8 _ (!pP) HR8.out);go_upto_region 5 with(go_at_call 48;refine HA2.out.mono ?_;rintro e w9 ⟨rfl,hr9,hc9⟩;have HR9:=kf hr9;have HO9:=kf (z01 HO8.out hc9);have HB9:=kf (HB8.out.chg hc9 (fun e=>HNE.out e.symm));have HB69:=kf (HB68.out.chg hc9 (fun e=>HNE6.out e.symm));have HV9:=kf (HV8.out.turn (O':=O) (hc9.mono (fun i _ e=>by rw [e];exact HO.out)) (fun _ _ h=>h));clear hr9 hc9);obtain⟨q0,q1,q2,q3⟩:=z0j HB9.out;go_upto_region 6 with(go_at_call 39;refine(HGF.out _ HV9.out.now).mono ?_;rintro e w10 ⟨⟨fk,fn,fs,fA,fl2,fc⟩,rfl,hv10,hc10⟩;have HC10:=kf hc10;have HVF:=kf hv10;clear hv10 hc10;simp only []);clear q0 q1 q2 q3;have HCA:=kf (HC10.out.alloc (.cells #[.int .i64 fk,.int .i64 fn,.string fs,.slice fA fl2 fc] 24));have HRA:=kf (HR9.out.call HCA.out);have HB6A:=kf (HB69.out.chg HCA.out (fun e=>e));have HBA:=kf (Blk.new w10 24 #[.int .i64 fk,.int .i64 fn,.string fs,.slice fA fl2 fc]);have HVA:=kf (HVF.out.chg ((Chg.refl NoS w10).alloc (.cells #[.int .i64 fk,.int .i64 fn,.string fs,.slice fA fl2 fc] 24)));have HOA:=kf (z01 HO9.out (z0c HCA.out));obtain⟨WA,hWA⟩:∃ WA,WA=w10.alloc (.cells #[.int .i64 fk,.int .i64 fn,.string fs,.slice fA fl2 fc] 24):=⟨_,rfl⟩
  obtain⟨gA,hgA⟩:∃ gA,gA=w10.heap.size:=⟨_,rfl⟩
  rw [<- hWA] at HRA HB6A HBA HVA HOA ⊢;rw [<- hgA] at HBA ⊢;clear hWA hgA HC10 HCA;obtain⟨r0,r1,r2,r3⟩:=z0j HBA.out;cases pF with
  |false =>
   have HA3:=kf (HA.out WA _ true HRA.out);go_upto_region 7 with(go_at_call 48;refine HA3.out.mono ?_;rintro e w12 ⟨rfl,hr12,hc12⟩;have HR12:=kf hr12;have HO12:=kf (z01 HOA.out hc12);have HB12:=kf (HB6A.out.chg hc12 (fun e=>HNE6.out e.symm));clear hr12 hc12);clear r0 r1 r2 r3;obtain⟨r0,r1,r2,r3⟩:=z0j HB12.out;go_wp2_with fail;go_ret2;exact⟨rfl,HR12.out,HO12.out⟩
  |true =>
   have HF1:=kf (HFF.out WA ⟨fk,fn,fs,fA,fl2,fc⟩ HVA.out)
   go_upto_region 7 with first
    |(go_at_call 105;refine HF1.out.mono ?_;rintro e w11 ⟨rfl,hc11⟩;have HR11:=kf (HRA.out.call hc11);have HO11:=kf (z01 HOA.out (z0c hc11));have HB11:=kf (HB6A.out.chg hc11 (fun e=>e));have HA3:=kf (HA.out _ _ fl HR11.out);clear hc11)
    |(go_at_call 48;refine HA3.out.mono ?_;rintro e w12 ⟨rfl,hr12,hc12⟩;have HR12:=kf hr12;have HO12:=kf (z01 HO11.out hc12);have HB12:=kf (HB11.out.chg hc12 (fun e=>HNE6.out e.symm));clear hr12 hc12)
   clear r0 r1 r2 r3;obtain⟨r0,r1,r2,r3⟩:=z0j HB12.out;go_wp2_with fail;go_ret2;exact⟨rfl,HR12.out,HO12.out⟩
 ·have d1:decide (0<=cn)=true:=by simpa using a2
  have d2:decide (cn<=16777216)=true:=by simpa using a3
  have HA1:=kf (HA.out W3 s true HR6.out);go_upto_region 3 with(go_at_call 48;refine HA1.out.mono ?_;rintro e w4 ⟨rfl,hr4,hc4⟩;have HR4:=kf hr4;have HO4:=kf (z01 HO6.out hc4);have HB4:=kf (HB36.out.chg hc4 (fun e=>HNE.out e.symm));have HB64:=kf (HB6.out.chg hc4 (fun e=>HNE6.out e.symm));have H24:=kf (HV6.out.turn (O':=O) (hc4.mono (fun i _ e=>by rw [e];exact HO.out)) (fun _ _ h=>h));clear hr4 hc4);clear p0 p1 p2 p3;obtain⟨q0,q1,q2,q3⟩:=z0j HB4.out;go_upto_region 4 with(go_at_call 39;refine(HGP.out _ H24.out.now).mono ?_;rintro e w5 ⟨⟨dk,dn,ds,dA,dl,dc⟩,rfl,hv5,hc5⟩;have HC5:=kf hc5;clear hv5 hc5;simp only []);clear q0 q1 q2 q3;have HC58:=kf (HC5.out.alloc (.cells #[.int .i64 dk,.int .i64 dn,.string ds,.slice dA dl dc] 24));have HR8:=kf (HR4.out.call HC58.out);have HB8:=kf (HB4.out.chg HC58.out (fun e=>e));have HB68:=kf (HB64.out.chg HC58.out (fun e=>e));have HV8:=kf (H24.out.chg (O:=O) HC58.out);have HO8:=kf (z01 HO4.out (z0c HC58.out));obtain⟨W8,hW8⟩:∃ W8,W8=w5.alloc (.cells #[.int .i64 dk,.int .i64 dn,.string ds,.slice dA dl dc] 24):=⟨_,rfl⟩
  rw [<- hW8] at HR8 HB8 HB68 HV8 HO8 ⊢;clear hW8 HC5 HC58;have HA2:=kf (HA.out W8 _ (!pP) HR8.out);go_upto_region 5 with(go_at_call 48;refine HA2.out.mono ?_;rintro e w9 ⟨rfl,hr9,hc9⟩;have HR9:=kf hr9;have HO9:=kf (z01 HO8.out hc9);have HB9:=kf (HB8.out.chg hc9 (fun e=>HNE.out e.symm));have HB69:=kf (HB68.out.chg hc9 (fun e=>HNE6.out e.symm));have HV9:=kf (HV8.out.turn (O':=O) (hc9.mono (fun i _ e=>by rw [e];exact HO.out)) (fun _ _ h=>h));clear hr9 hc9);obtain⟨q0,q1,q2,q3⟩:=z0j HB9.out;go_upto_region 6 with(go_at_call 39;refine(HGF.out _ HV9.out.now).mono ?_;rintro e w10 ⟨⟨fk,fn,fs,fA,fl2,fc⟩,rfl,hv10,hc10⟩;have HC10:=kf hc10;have HVF:=kf hv10;clear hv10 hc10;simp only []);clear q0 q1 q2 q3;have HCA:=kf (HC10.out.alloc (.cells #[.int .i64 fk,.int .i64 fn,.string fs,.slice fA fl2 fc] 24));have HRA:=kf (HR9.out.call HCA.out);have HB6A:=kf (HB69.out.chg HCA.out (fun e=>e));have HBA:=kf (Blk.new w10 24 #[.int .i64 fk,.int .i64 fn,.string fs,.slice fA fl2 fc]);have HVA:=kf (HVF.out.chg ((Chg.refl NoS w10).alloc (.cells #[.int .i64 fk,.int .i64 fn,.string fs,.slice fA fl2 fc] 24)));have HOA:=kf (z01 HO9.out (z0c HCA.out));obtain⟨WA,hWA⟩:∃ WA,WA=w10.alloc (.cells #[.int .i64 fk,.int .i64 fn,.string fs,.slice fA fl2 fc] 24):=⟨_,rfl⟩
  obtain⟨gA,hgA⟩:∃ gA,gA=w10.heap.size:=⟨_,rfl⟩
  rw [<- hWA] at HRA HB6A HBA HVA HOA ⊢;rw [<- hgA] at HBA ⊢;clear hWA hgA HC10 HCA;obtain⟨r0,r1,r2,r3⟩:=z0j HBA.out;cases pF with
  |false =>
   have HA3:=kf (HA.out WA _ true HRA.out);go_upto_region 7 with(go_at_call 48;refine HA3.out.mono ?_;rintro e w12 ⟨rfl,hr12,hc12⟩;have HR12:=kf hr12;have HO12:=kf (z01 HOA.out hc12);have HB12:=kf (HB6A.out.chg hc12 (fun e=>HNE6.out e.symm));clear hr12 hc12);clear r0 r1 r2 r3;obtain⟨r0,r1,r2,r3⟩:=z0j HB12.out;go_wp2_with fail;go_ret2;exact⟨rfl,HR12.out,HO12.out⟩
  |true =>
   have HF1:=kf (HFF.out WA ⟨fk,fn,fs,fA,fl2,fc⟩ HVA.out)
   go_upto_region 7 with first
    |(go_at_call 105;refine HF1.out.mono ?_;rintro e w11 ⟨rfl,hc11⟩;have HR11:=kf (HRA.out.call hc11);have HO11:=kf (z01 HOA.out (z0c hc11));have HB11:=kf (HB6A.out.chg hc11 (fun e=>e));have HA3:=kf (HA.out _ _ fl HR11.out);clear hc11)
    |(go_at_call 48;refine HA3.out.mono ?_;rintro e w12 ⟨rfl,hr12,hc12⟩;have HR12:=kf hr12;have HO12:=kf (z01 HO11.out hc12);have HB12:=kf (HB11.out.chg hc12 (fun e=>HNE6.out e.symm));clear hr12 hc12)
   clear r0 r1 r2 r3;obtain⟨r0,r1,r2,r3⟩:=z0j HB12.out;go_wp2_with fail;go_ret2;exact⟨rfl,HR12.out,HO12.out⟩
end Go.Proofs.YtmibnkddappgiaaGreatDoor
