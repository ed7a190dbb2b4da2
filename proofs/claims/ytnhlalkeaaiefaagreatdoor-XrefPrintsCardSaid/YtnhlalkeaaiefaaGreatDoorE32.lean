import Derived.Test.YtnhlalkeaaiefaaGreatDoorE27
import Derived.Test.YtnhlalkeaaiefaaGreatDoorE31
set_option linter.unusedVariables false
set_option maxHeartbeats 64000000
set_option maxRecDepth 100000
set_option linter.unusedSimpArgs false
namespace Go.Proofs.YtnhlalkeaaiefaaGreatDoor
open Go.RowKit
noncomputable def v9e:VT->Int|.mk k n s l=>z0d k n s l
open Classical in
noncomputable def z32 (t:VT) (d:Nat) (st:Int):Int × Bool:=(if st=0 then v9e t else st,decide ((if st=0 then v9e t else st)=0))
theorem y62 (k n:Int) (s:ByteArray) (l:List VT) (d:Nat):(z32 (.mk k n s l) d 0).1=z0d k n s l:=by
 unfold z32;simp only [if_pos];rfl
structure CJ (w0:World) (g:Nat) (st:Int) (W:World):Prop where
 a:Blk W g 33 #[.int .i64 st]
 new:w0.heap.size<=g
 chg:Chg NoS w0 W
theorem CJ.call {w0 W W':World} {g:Nat} {st:Int} (h:CJ w0 g st W) (hc:Chg NoS W W'):CJ w0 g st W':=⟨h.a.chg hc (fun e=>e),h.new,h.chg.trans hc (fun _ _ e=>e)⟩
theorem CJ.set {w0 W:World} {g:Nat} {st:Int} (h:CJ w0 g st W) (n:Int):CJ w0 g n (W.setCell ⟨g,0,none⟩ (.int .i64 n)) :=
 ⟨h.a.set_ 0 _,h.new,h.chg.setCell (p:=⟨g,0,none⟩) (fun h2=>absurd h2 (Nat.not_lt.2 h.new)) _⟩
theorem v2i (w0:World) (g:Nat) (t:VT) (c:VC) (d:Nat) (st:Int) (W:World) (hv:ValIs W t c) (hj:CJ w0 g st W) :
  Calls Tryz.prog 68 #[c.val,.int .i64 (d:Nat),.pointer (some ⟨g,0,none⟩)] W fun e w'=>e=.returned (.bool (z32 t d st).2)/\CJ w0 g (z32 t d st).1 w'/\Chg (fun i=>i=g) W w':=by
 have HV:=kf hv;obtain⟨tk,tn,ts,l⟩:=t;obtain⟨h1,h2,h3,_,_,_⟩:=hv.inv;obtain⟨ck,cn,cs,A,len,cap⟩:=c;simp only [] at h1 h2 h3;subst h1 h2 h3;have HJ:=kf (hj.call ((Chg.refl NoS W).alloc (.cells #[.int .i64 ck,.int .i64 cn,.string cs,.slice A len cap] 25)));have hl:=hj.a.lt;have hne:¬W.heap.size=g:=by omega
 have x0:=HJ.out.a.cell 0;have x1:=HJ.out.a.frozen 0;simp at x0;have HC:=kf (((Chg.refl (fun i=>i=g) W).alloc (.cells #[.int .i64 ck,.int .i64 cn,.string cs,.slice A len cap] 25)));have HA:=kf (fun(W':World) (h:Chg NoS W W')=>y9l ⟨ck,cn,cs,A,len,cap⟩ l W' (HV.out.chg h));unfold VC.val at HA ⊢;simp only [] at HA ⊢;clear hj hv hl;by_cases h0:st=0
 ·subst h0;obtain⟨z,hz⟩:∃ z,z=z0d ck cn cs l:=⟨_,rfl⟩
  have HS1:=kf (show(z32 (.mk ck cn cs l) d 0).1=z from by rw [hz];exact y62 _ _ _ _ _);have HS2:=kf (show(z32 (.mk ck cn cs l) d 0).2=decide (z=0) from by rw [hz];unfold z32;simp only [if_pos];exact decide_eq_decide.2 Iff.rfl);rw [HS1.out,HS2.out];rw [<- hz] at HA;clear hz HS1 HS2;go_enter Tryz.func68,Tryz.ntmps68;go_upto_region 3 with(go_at_call 69;refine(HA.out _ ((Chg.refl NoS W).alloc _)).mono ?_;rintro e w3 ⟨rfl,hc3⟩;have HJ3:=kf (HJ.out.call hc3);have HC3:=kf (HC.out.trans (Chg.weak hc3) (fun _ _ e=>e));have y1:=HJ3.out.a.frozen 0;have y0:=HJ3.out.a.cell 0;simp at y0;clear hc3 x0 x1);have HJ4:=kf (HJ3.out.set z);have HC4:=kf (HC3.out.setCell (p:=⟨g,0,none⟩) (fun _=>rfl) (.int .i64 z));have q0:=HJ4.out.a.cell 0;simp at q0;clear y0 y1;by_cases hz0:z=0
  ·subst hz0;go_wp2_with fail;go_ret;exact⟨rfl,HJ4.out,HC4.out⟩
  ·have e0:(z==0)=false:=by simpa using hz0
   have HZ:=kf hz0;clear hz0;go_wp2_with fail;go_ret;exact⟨by simp [HZ.out],HJ4.out,HC4.out⟩
 ·have e0:(st==0)=false:=by simpa using h0
  have HS1:=kf (show(z32 (.mk ck cn cs l) d st).1=st from if_neg h0);have HS2:=kf (show(z32 (.mk ck cn cs l) d st).2=false from by unfold z32;simp only [if_neg h0];exact decide_eq_false h0);rw [HS1.out,HS2.out];clear h0 HS1 HS2;go_enter Tryz.func68,Tryz.ntmps68;go_wp2_with fail;go_ret;exact⟨rfl,HJ.out,HC.out⟩
theorem v5q (w0:World) (g:Nat):SeeOf w0 68 #[.pointer (some ⟨g,0,none⟩)] (fun i=>i=g) (CJ w0 g) z32 where
 chg:=fun _ _ h=>h.chg
 keep:=fun _ _ _ h hc=>h.call hc
 low:=fun _ _ h i hi=>hi ▸ h.a.lt
 see:=fun t c d st W hv hj _=>v2i w0 g t c d st W hv hj
theorem v11 {k n:Int} {s:ByteArray} {l:List VT} (h:z0d k n s l=0) (h6:¬(k=6\/k=7)):l=[]:=by
 have h2:l.length=0:=by
  unfold z0d at h;split at h
  ·split at h<;>omega
  ·split at h
   ·split at h<;>omega
   ·split at h
    ·unfold z05 at h;split at h<;>omega
    ·split at h
     ·split at h<;>omega
     ·split at h
      ·split at h
       ·omega
       ·split at h<;>omega
      ·split at h
       ·omega
       ·split at h
        ·omega
        ·split at h
         ·split at h<;>omega
         ·omega
 exact List.length_eq_zero_iff.1 h2
mutual
theorem y5t:∀ (t:VT) (d:Nat) (st:Int),z4y z32 t d st=if st=0 then z0s t else st
 |.mk k n s l,d,st=>by
  by_cases h0:st=0
  ·subst h0;rw [if_pos rfl,z2h];have e1:(z32 (.mk k n s l) d 0).1=z0d k n s l:=y62 _ _ _ _ _;by_cases hz:z0d k n s l=0
   ·rw [z89 (show(z32 (.mk k n s l) d 0).2=true from decide_eq_true (by rw [if_pos rfl];exact hz)),e1,hz,if_neg (fun h=>h rfl),y5u l (d+1) 0,if_pos rfl];by_cases h6:k=6\/k=7
    ·rw [if_pos h6]
    ·rw [if_neg h6,v11 hz h6,z1m]
   ·rw [z5z (show(z32 (.mk k n s l) d 0).2=false from decide_eq_false (by rw [if_pos rfl];exact hz)),e1,if_pos hz]
  ·rw [if_neg h0,z5z (show(z32 (.mk k n s l) d st).2=false from decide_eq_false (by rw [if_neg h0];exact h0))];exact if_neg h0
theorem y5u:∀ (l:List VT) (d:Nat) (st:Int),z2v z32 l d st=if st=0 then z1m l else st
 |[],d,st=>by
  rw [z2v,z1m];split
  ·next h=>exact h
  ·rfl
 |t::l,d,st=>by
  rw [z4z,y5t t d st,y5u l d,z2u];by_cases h0:st=0
  ·rw [if_pos h0,if_pos h0];by_cases h1:z0s t=0
   ·rw [if_pos h1,if_neg (fun h=>h h1)]
   ·rw [if_neg h1,if_pos h1]
  ·rw [if_neg h0,if_neg h0,if_neg h0]
end
theorem y0u (t:VT) (c:VC) (w:World) (hv:ValIs w t c) (hs:z2n t<=1000000) :
  Calls Tryz.prog 35 #[c.val] w fun e w'=>e=.returned (.int .i64 (z0h t))/\Chg NoS w w':=by
 have HV:=kf hv;obtain⟨ck,cn,cs,A,len,cap⟩:=c;have HD:=kf (fun(W:World) (h:Chg NoS w W)=>v2a t ⟨ck,cn,cs,A,len,cap⟩ 65 W (HV.out.chg h) (by omega) (by omega));have HW:=kf (fun(W:World) (g:Nat) (h:CJ w g 0 W)=>y23 w 68 _ (fun args w=>rfl) _ _ _ (v5q w g) t ⟨ck,cn,cs,A,len,cap⟩ 1 0 W HV.out h (by omega));rw [y5t t 1 0,if_pos rfl] at HW;have HB:=kf (Blk.new w 25 #[.int .i64 ck,.int .i64 cn,.string cs,.slice A len cap]);have HC0:=kf ((Chg.refl NoS w).alloc (.cells #[.int .i64 ck,.int .i64 cn,.string cs,.slice A len cap] 25));unfold VC.val at HD HW ⊢;simp only [] at HD HW ⊢;have hdp:=(z1n t).1;obtain⟨D,hD⟩:∃ D:Nat,D=z0p t:=⟨_,rfl⟩
 rw [<- hD] at HD hdp;have ex:∃ m:Nat,m=min 65 D:=⟨_,rfl⟩
 obtain⟨m,hm⟩:=ex;rw [<- hm] at HD;clear hv;by_cases h64:64<D
 ·have HE:=kf (show z0h t=15 from by unfold z0h;rw [<- hD,if_pos h64]);obtain rfl:m=65:=by omega
  clear hD hm;go_enter Tryz.func35,Tryz.ntmps35;go_wp2_with (go_at_call 66;refine(HD.out _ HC0.out).mono ?_;rintro e w3 ⟨rfl,hc3⟩;have HC3:=kf (HC0.out.trans hc3 (fun _ _ e=>e));clear hc3);go_ret;exact⟨z00 HE.out.symm,HC3.out⟩
 ·have HE:=kf (show z0h t=z0s t from by unfold z0h;rw [<- hD,if_neg h64]);have d1:decide ((64:Int)<(m:Int))=false:=by simp;omega
  have d1':decide (64<m)=false:=by simp;omega
  clear hD hm h64;go_enter Tryz.func35,Tryz.ntmps35;go_upto_region 3 with(go_at_call 66;refine(HD.out _ HC0.out).mono ?_;rintro e w3 ⟨rfl,hc3⟩;have HC3:=kf (HC0.out.trans hc3 (fun _ _ e=>e));have HB3:=kf (HB.out.chg hc3 (fun e=>e));clear hc3);have HB4:=kf (HB3.out.alloc (.cells #[.int .i64 0] 33));have HJ4:=kf (⟨Blk.new w3 33 #[.int .i64 0],HC3.out.size,HC3.out.alloc _⟩:CJ w w3.heap.size 0 _);have x0:=HB4.out.cell 0;have x1:=HB4.out.cell 1;have x2:=HB4.out.cell 2;have x3:=HB4.out.cell 3;simp at x0 x1 x2 x3;go_wp2_with (go_at_call 67;refine(HW.out _ _ HJ4.out).mono ?_;rintro e w5 ⟨rfl,hj5,_⟩;have HJ5:=kf hj5;have y0:=hj5.a.cell 0;simp at y0;clear hj5 x0 x1 x2 x3);go_ret;exact⟨z00 HE.out.symm,HJ5.out.chg⟩
noncomputable def z3t (gs:List XGr) (t:VT):Int:=if 64<gs.length then 2 else if gs.any z3p then 2 else if t.kind≠7 then 2 else z0h t
theorem z4m (xs:List GC):xs.any (fun x=>z3p x.g)=(xs.map GC.g).any z3p:=by rw [List.any_map];rfl
theorem v5s (xs:List GC) (B:Option Addr) (d:Nat) (w:World) (hG:Ev NoS w (z4v xs B d)) (hes:∀ x∈xs,x.g.es.length<=1000000/\-9223372036854775808<=x.g.first/\x.g.first<=9223372036854775807):v9c 34 z3p xs w:=fun x hx W hW=>by
 have h1:Ev NoS W (EnS x.g.es x.A x.c):=fun V hV=>(hG V (hW.trans hV (fun _ _ e=>e))).2 x hx;exact y3u x.g.first x.g.es x.A x.c W h1 (hes x hx).1 (hes x hx).2
theorem z7j (xs:List GC) (B:Option Addr) (d:Nat) (t:VT) (vk vn:Int) (vs:ByteArray) (vA:Option Addr) (vl vc:Nat) (w:World) (hG:Ev NoS w (z4v xs B d)) (hl:xs.length<=1000000)
  (hes:∀ x∈xs,x.g.es.length<=1000000/\-9223372036854775808<=x.g.first/\x.g.first<=9223372036854775807) (hv:ValIs w t ⟨vk,vn,vs,vA,vl,vc⟩) (hs:z2n t<=1000000) :
  Calls Tryz.prog 14 #[.agg #[.slice B xs.length d,.int .i64 vk,.int .i64 vn,.string vs,.slice vA vl vc]] w fun e w'=>e=.returned (.int .i64 (z3t (xs.map GC.g) t))/\Chg NoS w w':=by
 have eg:∀ args w,(callFunc 34 args).run Tryz.prog w=.ok (.enter 34 args) w:=enters_of Tryz.func34 (by kernel_rfl) rfl;have HCF:=kf (fun W (h:Chg NoS w W)=>z8y _ eg _ xs B d W (hG.chg h) hl (v5s xs B d W (hG.chg h) hes));have HCH:=kf (fun W (h:Chg NoS w W)=>y0u t ⟨vk,vn,vs,vA,vl,vc⟩ W (hv.chg h) hs);unfold VC.val at HCH;have hk:t.kind=vk:=(y24 hv).1.symm;have hX1:=kf (show 64<xs.length->z3t (xs.map GC.g) t=2 from fun h=>by unfold z3t;rw [List.length_map,if_pos h]);have hX2:=kf (show ¬64<xs.length->xs.any (fun x=>z3p x.g)=true->z3t (xs.map GC.g) t=2 from fun h h2=>by unfold z3t;rw [List.length_map,if_neg h,<- z4m,if_pos h2]);have hX3:=kf (show ¬64<xs.length->xs.any (fun x=>z3p x.g)=false->vk≠7->z3t (xs.map GC.g) t=2 from fun h h2 h3=>by unfold z3t;rw [List.length_map,if_neg h,<- z4m,h2,if_neg (by decide),if_pos (by rw [hk];exact h3)]);have hX4:=kf (show ¬64<xs.length->xs.any (fun x=>z3p x.g)=false->vk=7->z3t (xs.map GC.g) t=z0h t from fun h h2 h3=>by unfold z3t;rw [List.length_map,if_neg h,<- z4m,h2,if_neg (by decide),if_neg (by rw [hk];exact fun hn=>hn h3)]);obtain⟨R,hR⟩:∃ R,R=z3t (xs.map GC.g) t:=⟨_,rfl⟩
 rw [<- hR] at hX1 hX2 hX3 hX4 ⊢;obtain⟨bb,hbb⟩:∃ bb,bb=xs.any (fun x=>z3p x.g):=⟨_,rfl⟩
 rw [<- hbb] at HCF hX2 hX3 hX4;obtain⟨ct,hct⟩:∃ ct,ct=z0h t:=⟨_,rfl⟩
 rw [<- hct] at HCH hX4;obtain⟨m,hm⟩:∃ m,m=xs.length:=⟨_,rfl⟩
 rw [<- hm] at HCF hX1 hX2 hX3 hX4 hl ⊢;have HB:=kf (Blk.new w 36 #[.slice B m d,.int .i64 vk,.int .i64 vn,.string vs,.slice vA vl vc]);have HC:=kf ((Chg.refl NoS w).alloc (.cells #[.slice B m d,.int .i64 vk,.int .i64 vn,.string vs,.slice vA vl vc] 36));clear hG hes hv hs hk hR hbb hct hm eg;go_enter Tryz.func14,Tryz.ntmps14;go_upto_region 1 with fail;obtain⟨W1,hW1⟩:∃ W1,W1=w.alloc (.cells #[.slice B m d,.int .i64 vk,.int .i64 vn,.string vs,.slice vA vl vc] 36):=⟨_,rfl⟩
 obtain⟨g1,hg1⟩:∃ g1,g1=w.heap.size:=⟨_,rfl⟩
 rw [<- hW1] at HB HC ⊢;rw [<- hg1] at HB ⊢;clear hW1 hg1;obtain⟨q0,q1,q2,q3,q4,-⟩:=HB.out.cl5;by_cases h64:64<m
 ·have d1:decide ((64:Int)<m)=true:=by simp;omega
  have d2:decide (64<m)=true:=by simpa using h64
  have HZ:=kf (hX1.out h64);go_wp2_with fail;go_ret;exact⟨by rw [HZ.out];rfl,HC.out⟩
 have d1:decide ((64:Int)<m)=false:=by simp;omega
 have d2:decide (64<m)=false:=by simpa using h64
 have hX2:=kf (hX2.out h64);have hX3:=kf (hX3.out h64);have hX4:=kf (hX4.out h64);clear hX1 h64;cases bb with
 |true =>
  have HZ:=kf (hX2.out rfl);go_wp2_with (go_at_call 33;refine(HCF.out _ HC.out).mono ?_;rintro e w2 ⟨rfl,hc2⟩;have HC2:=kf (HC.out.trans hc2 (fun _ _ e=>e));clear hc2);go_ret;exact⟨by rw [HZ.out];rfl,HC2.out⟩
 |false =>
  by_cases h7:vk=7
  ·have HZ:=kf (hX4.out rfl h7);subst h7
   go_wp2_with (first
    |(go_at_call 33;refine(HCF.out _ HC.out).mono ?_;rintro e w2 ⟨rfl,hc2⟩;have HC2:=kf (HC.out.trans hc2 (fun _ _ e=>e));have hb2:=HB.out.chg hc2 (fun e=>e);clear q0 q1 q2 q3 q4;obtain⟨q0,q1,q2,q3,q4,-⟩:=hb2.cl5;clear hc2 hb2)
    |(go_at_call 35;refine(HCH.out _ HC2.out).mono ?_;rintro e w3 ⟨rfl,hc3⟩;have HC3:=kf (HC2.out.trans hc3 (fun _ _ e=>e));clear hc3))
   go_ret;exact⟨by rw [HZ.out];rfl,HC3.out⟩
  ·have HZ:=kf (hX3.out rfl h7);have d7:(vk != 7)=true:=by simpa using h7
   clear h7;go_wp2_with (go_at_call 33;refine(HCF.out _ HC.out).mono ?_;rintro e w2 ⟨rfl,hc2⟩;have HC2:=kf (HC.out.trans hc2 (fun _ _ e=>e));have hb2:=HB.out.chg hc2 (fun e=>e);clear q0 q1 q2 q3 q4;obtain⟨q0,q1,q2,q3,q4,-⟩:=hb2.cl5;clear hc2 hb2);go_ret;exact⟨by rw [HZ.out];rfl,HC2.out⟩
theorem v7e {s:List Nat} (h:∀ c∈s,c<256):∀ d∈nmF s,d<256:=by
 intro d hd;rw [nmF] at hd;rcases List.mem_cons.1 hd with rfl|hd
 ·decide
 induction s with
 |nil=>cases hd
 |cons c s ih =>
  rw [nmL] at hd;rcases List.mem_append.1 hd with h1|h1
  ·have hc:=h c (List.mem_cons_self ..);unfold nmC at h1;split at h1
   ·rw [List.mem_singleton] at h1;omega
   ·rcases List.mem_cons.1 h1 with rfl|h1
    ·decide
    ·exact y80 hc d h1
  ·exact ih (fun x hx=>h x (List.mem_cons_of_mem _ hx)) (List.mem_cons_of_mem _ h1) h1
theorem v7w {s:List Nat} (h:∀ c∈s,c<256):∀ d∈esL s,d<256:=by
 intro d hd;induction s with
 |nil=>cases hd
 |cons c s ih =>
  rw [esL] at hd;rcases List.mem_append.1 hd with h1|h1
  ·exact v7x (h c (List.mem_cons_self ..)) d h1
  ·exact ih (fun x hx=>h x (List.mem_cons_of_mem _ hx)) h1
theorem v7n {s:List Nat} (h:∀ c∈s,c<256):∀ d∈hxL s,d<256:=by
 intro d hd;induction s with
 |nil=>cases hd
 |cons c s ih =>
  rw [hxL] at hd;rcases List.mem_append.1 hd with h1|h1
  ·exact y80 (h c (List.mem_cons_self ..)) d h1
  ·exact ih (fun x hx=>h x (List.mem_cons_of_mem _ hx)) h1
theorem v6h {s:List Nat} (h:∀ c∈s,c<256):∀ d∈txF s,d<256:=by
 intro d hd;unfold txF at hd;split at hd
 ·rcases List.mem_cons.1 hd with rfl|hd
  ·decide
  rcases List.mem_append.1 hd with h1|h1
  ·exact v7w h d h1
  ·rw [List.mem_singleton] at h1;omega
 ·rcases List.mem_cons.1 hd with rfl|hd
  ·decide
  rcases List.mem_append.1 hd with h1|h1
  ·exact v7n h d h1
  ·rw [List.mem_singleton] at h1;omega
mutual
theorem y8b:∀ (t:VT),∀ d∈z0c t,d<256
 |.mk k n s l=>by
  intro d hd;have h32:∀ (x:List Nat),(∀ y∈x,y<256)->d∈x->d<256:=fun x hx hd=>hx d hd;rw [z0c] at hd;split at hd
  ·exact h32 _ (by decide) hd
  split at hd
  ·split at hd
   ·exact h32 _ (by decide) hd
   ·exact h32 _ (by decide) hd
  split at hd
  ·exact y0b (v4u n) d hd
  split at hd
  ·exact y0b (v2x n) d hd
  split at hd
  ·exact v6h (v0g s) d hd
  split at hd
  ·exact v7e (v0g s) d hd
  split at hd
  ·rcases List.mem_append.1 hd with hd|hd
   ·exact y0b (v4u n) d hd
   ·exact h32 _ (by decide) hd
  split at hd
  ·rcases List.mem_cons.1 hd with rfl|hd
   ·decide
   rcases List.mem_append.1 hd with hd|hd
   ·exact z8r 0 l d hd
   ·exact h32 _ (by decide) hd
  ·rcases List.mem_cons.1 hd with rfl|hd
   ·decide
   rcases List.mem_cons.1 hd with rfl|hd
   ·decide
   rcases List.mem_append.1 hd with hd|hd
   ·exact z8r 0 l d hd
   ·exact h32 _ (by decide) hd
theorem z8r:∀ (j:Nat) (l:List VT),∀ d∈z0g j l,d<256
 |j,[]=>fun d hd=>by rw [z1h] at hd;cases hd
 |j,t::l=>fun d hd=>by
  rw [z2g] at hd;rcases List.mem_append.1 hd with hd|hd
  ·have:=List.eq_of_mem_replicate hd;omega
  rcases List.mem_append.1 hd with hd|hd
  ·exact y8b t d hd
  ·exact z8r 1 l d hd
end
noncomputable def y69 (t:VT):List Nat:=if z0h t=0 then z0c t else []
theorem v1s {t:VT} (h:z0h t=0):z0s t=0:=by
 unfold z0h at h;split at h
 ·cases h
 ·exact h
theorem v0h (t:VT) (c:VC) (w:World) (hL:LibOk w) (hv:ValIs w t c) (hs:z2n t<=1000000) (hl:z0h t=0->(z0c t).length<=400000) :
  Calls Tryz.prog 60 #[c.val] w fun e w'=>e=.returned (.tuple #[.string (sb (y69 t)),.int .i64 (z0h t)])/\Chg NoS w w':=by
 have HLib:=kf hL;have HV:=kf hv;have HCK:=kf (fun X (hX:Chg NoS w X)=>y0u t c X (hv.chg hX) hs);have HFV:=kf (fun(hf:z0s t=0) X R (hX:FB w w X R []) (h2:([]:List Nat).length+(z0c t).length<=400000)=>v78 _ t (Nat.le_refl _) hf c w w X R [] hL hv hX h2);have HSH:=kf (show y69 t=if z0h t=0 then z0c t else [] from rfl);obtain⟨ck,cn,cs,A,len,cap⟩:=c;unfold VC.val at HCK HFV ⊢;simp only [] at HCK HFV ⊢;have HB:=kf (Blk.new w 25 #[.int .i64 ck,.int .i64 cn,.string cs,.slice A len cap]);have HC0:=kf ((Chg.refl NoS w).alloc (.cells #[.int .i64 ck,.int .i64 cn,.string cs,.slice A len cap] 25));obtain⟨W1,hW1⟩:∃ W1,W1=w.alloc (.cells #[.int .i64 ck,.int .i64 cn,.string cs,.slice A len cap] 25):=⟨_,rfl⟩
 obtain⟨g,hg⟩:∃ g,g=w.heap.size:=⟨_,rfl⟩
 rw [<- hW1] at HB HC0;rw [<- hg] at HB;obtain⟨z,hz⟩:∃ z,z=z0h t:=⟨_,rfl⟩
 rw [<- hz] at HCK HSH hl ⊢;have HZ:=kf hz;clear hL hv hz;by_cases h0:z=0
 ·subst h0;have hlen:=hl rfl;have HE:=kf (show y69 t=z0c t from by rw [HSH.out,if_pos rfl]);have hf:=v1s HZ.out.symm;have HFF:=kf (HFV.out hf);have HLT:=kf (y8b t);clear hl hf HSH;go_enter Tryz.func60,Tryz.ntmps60;go_upto_region 1 with fail;rw [<- hg,<- hW1];clear hg hW1;have q0:=HB.out.cell 0;have q1:=HB.out.cell 1;have q2:=HB.out.cell 2;have q3:=HB.out.cell 3;simp at q0 q1 q2 q3;go_upto_region 4 with(go_at_call 35;refine(HCK.out _ HC0.out).mono ?_;rintro e w2 ⟨rfl,h2⟩;have HC2:=kf (HC0.out.trans h2 (fun _ _ e=>e));have HB2:=kf (HB.out.chg h2 (fun h=>h));clear h2);have HST:=kf (FB.start w w2 HC2.out);have HB3:=kf (HB2.out.alloc (.cells #[.pointer none,.slice none 0 0] 157));obtain⟨W3,hW3⟩:∃ W3,W3=w2.alloc (.cells #[.pointer none,.slice none 0 0] 157):=⟨_,rfl⟩
  obtain⟨R,hR⟩:∃ R,R=w2.heap.size:=⟨_,rfl⟩
  rw [<- hW3] at HST HB3;rw [<- hR] at HST;clear q0 q1 q2 q3;go_upto_region 5 with fail;rw [<- hW3,<- hR];clear hW3 hR;have q0:=HB3.out.cell 0;have q1:=HB3.out.cell 1;have q2:=HB3.out.cell 2;have q3:=HB3.out.cell 3;simp at q0 q1 q2 q3
  go_wp2_with first
   |(go_at_call 98;refine(HFF.out _ _ HST.out (by simpa using hlen)).mono ?_;rintro e w4 ⟨rfl,h4⟩;have HF4:=kf h4;clear h4)
   |(go_at_call 99;refine(y0h HF4.out (by rw [List.nil_append];exact HLT.out) (by rw [List.nil_append];omega)).mono ?_;rintro e w5 ⟨rfl,h5⟩;have HC5:=kf h5;clear h5)
  go_ret2;exact⟨by rw [HE.out];rfl,HC5.out⟩
 ·have HE:=kf (show y69 t=[] from by rw [HSH.out,if_neg h0]);have d0:(z==0)=false:=by simpa using h0
  have d0':(z != 0)=true:=by simpa using h0
  clear hl h0 HSH HFV;go_enter Tryz.func60,Tryz.ntmps60;go_upto_region 1 with fail;rw [<- hg,<- hW1];clear hg hW1;have q0:=HB.out.cell 0;have q1:=HB.out.cell 1;have q2:=HB.out.cell 2;have q3:=HB.out.cell 3;simp at q0 q1 q2 q3;go_wp2_with (go_at_call 35;refine(HCK.out _ HC0.out).mono ?_;rintro e w2 ⟨rfl,h2⟩;have HC2:=kf (HC0.out.trans h2 (fun _ _ e=>e));clear h2);go_ret2;exact⟨by rw [HE.out];rfl,HC2.out⟩
noncomputable def z6s (s:ByteArray):List Nat × Int:=if z1o s then(nmF (sl s),0) else([],17)
theorem z6v:∀ d,d<16->(ByteArray.mk #[48,49,50,51,52,53,54,55,56,57,97,98,99,100,101,102]).extract d (d+1)=sb [z8p d]:=by
 intro d h;rcases d with _|_|_|_|_|_|_|_|_|_|_|_|_|_|_|_|d
 all_goals first
  |rfl
  |decide
  |omega
theorem z7u (c:Nat) (hc:c<256) (w:World) :
  Calls Tryz.prog 85 #[.int .u8 (c:Nat)] w fun e w'=>e=.returned (.string (sb (z9a c)))/\Chg NoS w w':=by
 obtain⟨a,ha⟩:∃ a,a=c / 16:=⟨_,rfl⟩
 obtain⟨b,hb⟩:∃ b,b=c%16:=⟨_,rfl⟩
 have ha16:a<16:=by omega
 have hb16:b<16:=by omega
 have s1:(c:Int) / 16=(a:Int):=by omega
 have s2:(c:Int)%16=(b:Int):=by omega
 have x1:=z6v a ha16;have x2:=z6v b hb16;have HE:=kf (show sb [z8p a]++sb [z8p b]=sb (z9a c) from by rw [z0e,ha,hb];rfl);obtain⟨y1,hy1⟩:∃ y1,y1=sb [z8p a]:=⟨_,rfl⟩
 obtain⟨y2,hy2⟩:∃ y2,y2=sb [z8p b]:=⟨_,rfl⟩
 have z1:y1.size=1:=by rw [hy1,z01];rfl
 have z2:y2.size=1:=by rw [hy2,z01];rfl
 rw [<- hy1,<- hy2] at HE;rw [<- hy1] at x1;rw [<- hy2] at x2;have t1:(c:Int).tdiv 16=(a:Int):=by rw [Int.tdiv_eq_ediv_of_nonneg (by omega)];omega
 have t2:(c:Int).tmod 16=(b:Int):=by rw [Int.tmod_eq_emod_of_nonneg (by omega)];omega
 clear ha hb hy1 hy2;go_enter Tryz.func85,Tryz.ntmps85;go_wp2;go_quiet (fail);go_wp2_with fail;go_ret;exact⟨by rw [<- HE.out];rfl,(Chg.refl NoS w).drewN _⟩
theorem y8s (s:ByteArray) (k:Nat) (h:k<s.size):s.extract k (k+1)=sb [(sl s).getD k 0]:=by
 have h1:sl (s.extract k (k+1))=[(sl s).getD k 0]:=by
  unfold sl;rw [ByteArray.data_extract,Array.toList_extract];simp only [List.extract_eq_take_drop,List.map_take,List.map_drop];show((sl s).drop k).take (k+1-k)=_;rw [y8z (by rw [z1a];exact h),show k+1-k=1 from by omega];rfl
 rw [<- v8r (s.extract k (k+1)),h1]
theorem z6m (s:ByteArray) (w:World) (hs:s.size<=300000000000000000) :
  Calls Tryz.prog 50 #[.string s] w fun e w'=>e=.returned (.tuple #[.string (sb (z6s s).1),.int .i64 (z6s s).2])/\Chg NoS w w':=by
 have HTX:=kf (fun X=>z6h s X (by unfold maxLen;omega));by_cases hx:z1o s
 ·have e1:z6s s=(nmF (sl s),0):=by unfold z6s;rw [if_pos hx]
  rw [e1];simp only [];rw [decide_eq_true hx] at HTX;have hn2:=hx.2;have HDL0:=kf (fun y X=>y4k y X);have HHX0:=kf (fun y (hy:y<256) X=>z7u y hy X);have HAT:=kf (fun k (h2:k<s.size)=>z5t s k h2);have HEX:=kf (fun k (h2:k<s.size)=>y8s s k h2);have HGL:=kf (z6x s);obtain⟨n,hn⟩:∃ n,s.size=n:=⟨_,rfl⟩
  have HN:=kf (show(sl s).length=n from by rw [z1a,hn]);have HSN:=kf hn;have hn127:n<=127:=by omega
  clear e1 hx hn2;go_enter Tryz.func50,Tryz.ntmps50;go_upto_region 5 with(go_at_call 86;refine(HTX.out _).mono ?_;rintro e w1 ⟨rfl,rfl⟩);go_loopw [4,5] (fun vs vk wr=>∃ (k m:Nat) (t:ByteArray),k<=n/\m<=3*k+1/\t.size=m/\vs=.string t/\vk=.int .i64 (k:Nat)/\Hid (t=sb (47::nmL ((sl s).take k)))/\Hid (m=1+(nmL ((sl s).take k)).length)/\Hid (Chg NoS w wr)) (fun _ vk _=>n-(intOf vk).toNat)
  case atStart=>exact⟨0,1,_,by omega,by omega,rfl,rfl,by go_num,rfl,rfl,Chg.refl NoS w⟩
  case round =>
   obtain⟨k,m,t,hk,hm,hts,rfl,rfl,HTT,HML,HCW⟩:=hrel;by_cases hlt:k<n
   ·have hgt:∀ h:k<s.size,(s[k]'h).toNat=(sl s).getD k 0:=fun h=>HAT.out k h;have hex:=HEX.out k (by rw [HSN.out];exact hlt);have hc256:=HGL.out k;have HV:=kf (y35 (l:=sl s) (k:=k) (by rw [HN.out];exact hlt));obtain⟨c,hc⟩:∃ c,c=(sl s).getD k 0:=⟨_,rfl⟩
    rw [<- hc] at hgt hex hc256 HV;clear hc;have HDL:=kf (fun X=>HDL0.out c X);have HHX:=kf (fun X=>HHX0.out c hc256 X);by_cases hg:32<c/\c<127/\c≠35/\z4p c=false
    ·have HVE:=kf (show nmC c=[c] from by unfold nmC;rw [if_pos hg]);obtain⟨y,hy⟩:∃ y,y=sb [c]:=⟨_,rfl⟩
     have hy1:y.size=1:=by rw [hy,z01];rfl
     rw [<- hy] at hex;have HNX:=kf (show t++y=sb (47::nmL ((sl s).take (k+1))) from by rw [HV.out,HVE.out,HTT.out,hy,z0e];rfl);have HNL:=kf (show m+1=1+(nmL ((sl s).take (k+1))).length from by rw [HV.out,HVE.out,HML.out,List.length_append];simp only [List.length_cons,List.length_nil];omega);rw [hg.2.2.2] at HDL;obtain⟨g1,g2,g3,_⟩:=hg;have d1:decide ((32:Int)<c)=true:=by simp;omega
     have d1':decide (32<c)=true:=by simp;omega
     have d2:decide ((c:Int)<127)=true:=by simp;omega
     have d2':decide (c<127)=true:=by simp;omega
     have d3:((c:Int)==35)=false:=by simp;omega
     have d3':(c==35)=false:=by simp;omega
     have d4:((c:Int) != 35)=true:=by simp;omega
     have d4':(c != 35)=true:=by simp;omega
     have i1:¬9223372036854775807<m+1:=by omega
     clear g1 g2 g3 hy;go_wp2_with (go_at_call 87;refine(HDL.out _).mono ?_;rintro e w5 ⟨rfl,rfl⟩);go_roundw
     case rel=>exact⟨k+1,m+1,_,by omega,by omega,by rw [ByteArray.size_append,hts,hy1],rfl,by go_num,HNX.out,HNL.out,HCW.out⟩
     case measure=>simp [intOf];omega
    have HVE:=kf (show nmC c=35::z9a c from by unfold nmC;rw [if_neg hg]);obtain⟨y,hy⟩:∃ y,y=sb (z9a c):=⟨_,rfl⟩
    have hy2:y.size=2:=by rw [hy,z01];rfl
    have HNX:=kf (show t++⟨#[35]⟩++y=sb (47::nmL ((sl s).take (k+1))) from by rw [HV.out,HVE.out,HTT.out,hy,show ByteArray.mk #[35]=sb [35] from rfl,z0e,z0e];simp);have HNL:=kf (show m+1+2=1+(nmL ((sl s).take (k+1))).length from by rw [HV.out,HVE.out,HML.out,List.length_append];simp [z9a];omega);rw [<- hy] at HHX;have i1:¬9223372036854775807<m+1:=by omega
    have i2:¬9223372036854775807<m+1+2:=by omega
    clear hy hex;by_cases h1:32<c
    ·have d1:decide ((32:Int)<c)=true:=by simp;omega
     have d1':decide (32<c)=true:=by simp;omega
     by_cases h2:c<127
     ·have d2:decide ((c:Int)<127)=true:=by simp;omega
      have d2':decide (c<127)=true:=by simp;omega
      by_cases h3:c=35
      ·subst h3;clear hg h1 h2;go_wp2_with (go_at_call 85;refine(HHX.out _).mono ?_;rintro e w3 ⟨rfl,h3⟩;have HC3:=kf (HCW.out.trans h3 (fun _ _ e=>e));clear h3);go_roundw
       case rel=>exact⟨k+1,m+1+2,_,by omega,by omega,by rw [ByteArray.size_append,ByteArray.size_append,hts,hy2];rfl,rfl,by go_num,HNX.out,HNL.out,HC3.out⟩
       case measure=>simp [intOf];omega
      ·have d3:((c:Int)==35)=false:=by simp;omega
       have d3':(c==35)=false:=by simp;omega
       have d4:((c:Int) != 35)=true:=by simp;omega
       have d4':(c != 35)=true:=by simp;omega
       have hdl:z4p c=true:=by
        cases h4:z4p c with
        |true=>rfl
        |false=>exact absurd ⟨h1,h2,h3,h4⟩ hg
       rw [hdl] at HDL;clear hg h1 h2 h3 hdl
       go_wp2_with first
        |(go_at_call 87;refine(HDL.out _).mono ?_;rintro e w5 ⟨rfl,rfl⟩)
        |(go_at_call 85;refine(HHX.out _).mono ?_;rintro e w3 ⟨rfl,h3⟩;have HC3:=kf (HCW.out.trans h3 (fun _ _ e=>e));clear h3)
       go_roundw
       case rel=>exact⟨k+1,m+1+2,_,by omega,by omega,by rw [ByteArray.size_append,ByteArray.size_append,hts,hy2];rfl,rfl,by go_num,HNX.out,HNL.out,HC3.out⟩
       case measure=>simp [intOf];omega
     ·have d2:decide ((c:Int)<127)=false:=by simp;omega
      have d2':decide (c<127)=false:=by simp;omega
      clear hg h1 h2;go_wp2_with (go_at_call 85;refine(HHX.out _).mono ?_;rintro e w3 ⟨rfl,h3⟩;have HC3:=kf (HCW.out.trans h3 (fun _ _ e=>e));clear h3);go_roundw
      case rel=>exact⟨k+1,m+1+2,_,by omega,by omega,by rw [ByteArray.size_append,ByteArray.size_append,hts,hy2];rfl,rfl,by go_num,HNX.out,HNL.out,HC3.out⟩
      case measure=>simp [intOf];omega
    ·have d1:decide ((32:Int)<c)=false:=by simp;omega
     have d1':decide (32<c)=false:=by simp;omega
     clear hg h1;go_wp2_with (go_at_call 85;refine(HHX.out _).mono ?_;rintro e w3 ⟨rfl,h3⟩;have HC3:=kf (HCW.out.trans h3 (fun _ _ e=>e));clear h3);go_roundw
     case rel=>exact⟨k+1,m+1+2,_,by omega,by omega,by rw [ByteArray.size_append,ByteArray.size_append,hts,hy2];rfl,rfl,by go_num,HNX.out,HNL.out,HC3.out⟩
     case measure=>simp [intOf];omega
   ·obtain rfl:k=n:=by omega
    have HE:=kf (show t=sb (nmF (sl s)) from by rw [HTT.out,List.take_of_length_le (by rw [HN.out];exact Nat.le_refl _)];rfl);go_wp2_with fail;go_ret2;exact⟨by rw [<- HE.out];rfl,HCW.out⟩
 ·have e1:z6s s=([],17):=by unfold z6s;rw [if_neg hx]
  rw [e1];simp only [];rw [decide_eq_false hx] at HTX;clear e1 hx;go_enter Tryz.func50,Tryz.ntmps50;go_wp2_with (go_at_call 86;refine(HTX.out _).mono ?_;rintro e w1 ⟨rfl,rfl⟩);go_ret2;exact⟨rfl,Chg.refl NoS w⟩
end Go.Proofs.YtnhlalkeaaiefaaGreatDoor
