import Derived.Test.YtmibnkddappgiaaGreatDoorK26
import Derived.Test.YtmibnkddappgiaaGreatDoorK27
set_option linter.unusedVariables false
set_option maxHeartbeats 64000000
set_option maxRecDepth 100000
set_option linter.unusedSimpArgs false
namespace Go.Proofs.YtmibnkddappgiaaGreatDoor
open Go.RowKit
noncomputable def v9u:VT->Int|.mk k n s l=>z0b k n s l
open Classical in
noncomputable def z3a (t:VT) (d:Nat) (st:Int):Int × Bool:=(if st=0 then v9u t else st,decide ((if st=0 then v9u t else st)=0))
theorem y5e (k n:Int) (s:ByteArray) (l:List VT) (d:Nat):(z3a (.mk k n s l) d 0).1=z0b k n s l:=by
 unfold z3a;simp only [if_pos];rfl
structure CJ (w0:World) (g:Nat) (st:Int) (W:World):Prop where
 a:Blk W g 29 #[.int .i64 st]
 new:w0.heap.size<=g
 chg:Chg NoS w0 W
theorem CJ.call {w0 W W':World} {g:Nat} {st:Int} (h:CJ w0 g st W) (hc:Chg NoS W W'):CJ w0 g st W':=⟨h.a.chg hc (fun e=>e),h.new,h.chg.trans hc (fun _ _ e=>e)⟩
theorem CJ.set {w0 W:World} {g:Nat} {st:Int} (h:CJ w0 g st W) (n:Int):CJ w0 g n (W.setCell ⟨g,0,none⟩ (.int .i64 n)) :=
 ⟨h.a.set_ 0 _,h.new,h.chg.setCell (p:=⟨g,0,none⟩) (fun h2=>absurd h2 (Nat.not_lt.2 h.new)) _⟩
theorem v1y (w0:World) (g:Nat) (t:VT) (c:VC) (d:Nat) (st:Int) (W:World) (hv:ValIs W t c) (hj:CJ w0 g st W) :
  Calls Tryz.prog 37 #[c.val,.int .i64 (d:Nat),.pointer (some ⟨g,0,none⟩)] W fun e w'=>e=.returned (.bool (z3a t d st).2)/\CJ w0 g (z3a t d st).1 w'/\Chg (fun i=>i=g) W w':=by
 have HV:=kf hv;obtain⟨tk,tn,ts,l⟩:=t;obtain⟨h1,h2,h3,_,_,_⟩:=hv.inv;obtain⟨ck,cn,cs,A,len,cap⟩:=c;simp only [] at h1 h2 h3;subst h1 h2 h3;have HJ:=kf (hj.call ((Chg.refl NoS W).alloc (.cells #[.int .i64 ck,.int .i64 cn,.string cs,.slice A len cap] 24)));have hl:=hj.a.lt;have hne:¬W.heap.size=g:=by omega
 have x0:=HJ.out.a.cell 0;have x1:=HJ.out.a.frozen 0;simp at x0;have HC:=kf (((Chg.refl (fun i=>i=g) W).alloc (.cells #[.int .i64 ck,.int .i64 cn,.string cs,.slice A len cap] 24)));have HA:=kf (fun(W':World) (h:Chg NoS W W')=>y8j ⟨ck,cn,cs,A,len,cap⟩ l W' (HV.out.chg h));unfold VC.val at HA ⊢;simp only [] at HA ⊢;clear hj hv hl;by_cases h0:st=0
 ·subst h0;obtain⟨z,hz⟩:∃ z,z=z0b ck cn cs l:=⟨_,rfl⟩
  have HS1:=kf (show(z3a (.mk ck cn cs l) d 0).1=z from by rw [hz];exact y5e _ _ _ _ _);have HS2:=kf (show(z3a (.mk ck cn cs l) d 0).2=decide (z=0) from by rw [hz];unfold z3a;simp only [if_pos];exact decide_eq_decide.2 Iff.rfl);rw [HS1.out,HS2.out];rw [<- hz] at HA;clear hz HS1 HS2;go_enter Tryz.func37,Tryz.ntmps37;go_upto_region 3 with(go_at_call 38;refine(HA.out _ ((Chg.refl NoS W).alloc _)).mono ?_;rintro e w3 ⟨rfl,hc3⟩;have HJ3:=kf (HJ.out.call hc3);have HC3:=kf (HC.out.trans (Chg.weak hc3) (fun _ _ e=>e));have y1:=HJ3.out.a.frozen 0;have y0:=HJ3.out.a.cell 0;simp at y0;clear hc3 x0 x1);have HJ4:=kf (HJ3.out.set z);have HC4:=kf (HC3.out.setCell (p:=⟨g,0,none⟩) (fun _=>rfl) (.int .i64 z));have q0:=HJ4.out.a.cell 0;simp at q0;clear y0 y1;by_cases hz0:z=0
  ·subst hz0;go_wp2_with fail;go_ret;exact⟨rfl,HJ4.out,HC4.out⟩
  ·have e0:(z==0)=false:=by simpa using hz0
   have HZ:=kf hz0;clear hz0;go_wp2_with fail;go_ret;exact⟨by simp [HZ.out],HJ4.out,HC4.out⟩
 ·have e0:(st==0)=false:=by simpa using h0
  have HS1:=kf (show(z3a (.mk ck cn cs l) d st).1=st from if_neg h0);have HS2:=kf (show(z3a (.mk ck cn cs l) d st).2=false from by unfold z3a;simp only [if_neg h0];exact decide_eq_false h0);rw [HS1.out,HS2.out];clear h0 HS1 HS2;go_enter Tryz.func37,Tryz.ntmps37;go_wp2_with fail;go_ret;exact⟨rfl,HJ.out,HC.out⟩
theorem v5t (w0:World) (g:Nat):SeeOf w0 37 #[.pointer (some ⟨g,0,none⟩)] (fun i=>i=g) (CJ w0 g) z3a where
 chg:=fun _ _ h=>h.chg
 keep:=fun _ _ _ h hc=>h.call hc
 low:=fun _ _ h i hi=>hi ▸ h.a.lt
 see:=fun t c d st W hv hj _=>v1y w0 g t c d st W hv hj
theorem y9z {k n:Int} {s:ByteArray} {l:List VT} (h:z0b k n s l=0) (h6:¬(k=6\/k=7)):l=[]:=by
 have h2:l.length=0:=by
  unfold z0b at h;split at h
  ·split at h<;>omega
  ·split at h
   ·split at h<;>omega
   ·split at h
    ·unfold z0h at h;split at h<;>omega
    ·split at h
     ·split at h<;>omega
     ·split at h
      ·split at h
       ·omega
       ·split at h<;>omega
      ·split at h
       ·omega
       ·split at h
        ·omega
        ·split at h
         ·split at h<;>omega
         ·omega
 exact List.length_eq_zero_iff.1 h2
mutual
theorem y53:∀ (t:VT) (d:Nat) (st:Int),z54 z3a t d st=if st=0 then z0e t else st
 |.mk k n s l,d,st=>by
  by_cases h0:st=0
  ·subst h0;rw [if_pos rfl,z0x];have e1:(z3a (.mk k n s l) d 0).1=z0b k n s l:=y5e _ _ _ _ _;by_cases hz:z0b k n s l=0
   ·rw [z8b (show(z3a (.mk k n s l) d 0).2=true from decide_eq_true (by rw [if_pos rfl];exact hz)),e1,hz,if_neg (fun h=>h rfl),y54 l (d+1) 0,if_pos rfl];by_cases h6:k=6\/k=7
    ·rw [if_pos h6]
    ·rw [if_neg h6,y9z hz h6,z1t]
   ·rw [z61 (show(z3a (.mk k n s l) d 0).2=false from decide_eq_false (by rw [if_pos rfl];exact hz)),e1,if_pos hz]
  ·rw [if_neg h0,z61 (show(z3a (.mk k n s l) d st).2=false from decide_eq_false (by rw [if_neg h0];exact h0))];exact if_neg h0
theorem y54:∀ (l:List VT) (d:Nat) (st:Int),z33 z3a l d st=if st=0 then z1t l else st
 |[],d,st=>by
  rw [z33,z1t];split
  ·next h=>exact h
  ·rfl
 |t::l,d,st=>by
  rw [z55,y53 t d st,y54 l d,z31];by_cases h0:st=0
  ·rw [if_pos h0,if_pos h0];by_cases h1:z0e t=0
   ·rw [if_pos h1,if_neg (fun h=>h h1)]
   ·rw [if_neg h1,if_pos h1]
  ·rw [if_neg h0,if_neg h0,if_neg h0]
end
theorem z78 (t:VT) (c:VC) (w:World) (hv:ValIs w t c) (hs:z1h t<=1000000) :
  Calls Tryz.prog 18 #[c.val] w fun e w'=>e=.returned (.int .i64 (z0w t))/\Chg NoS w w':=by
 have HV:=kf hv;obtain⟨ck,cn,cs,A,len,cap⟩:=c;have HD:=kf (fun(W:World) (h:Chg NoS w W)=>v1p t ⟨ck,cn,cs,A,len,cap⟩ 65 W (HV.out.chg h) (by omega) (by omega));have HW:=kf (fun(W:World) (g:Nat) (h:CJ w g 0 W)=>y27 w 37 _ (fun args w=>rfl) _ _ _ (v5t w g) t ⟨ck,cn,cs,A,len,cap⟩ 1 0 W HV.out h (by omega));rw [y53 t 1 0,if_pos rfl] at HW;have HB:=kf (Blk.new w 24 #[.int .i64 ck,.int .i64 cn,.string cs,.slice A len cap]);have HC0:=kf ((Chg.refl NoS w).alloc (.cells #[.int .i64 ck,.int .i64 cn,.string cs,.slice A len cap] 24));unfold VC.val at HD HW ⊢;simp only [] at HD HW ⊢;have hdp:=(z1m t).1;obtain⟨D,hD⟩:∃ D:Nat,D=z07 t:=⟨_,rfl⟩
 rw [<- hD] at HD hdp;have ex:∃ m:Nat,m=min 65 D:=⟨_,rfl⟩
 obtain⟨m,hm⟩:=ex;rw [<- hm] at HD;clear hv;by_cases h64:64<D
 ·have HE:=kf (show z0w t=15 from by unfold z0w;rw [<- hD,if_pos h64]);obtain rfl:m=65:=by omega
  clear hD hm;go_enter Tryz.func18,Tryz.ntmps18;go_wp2_with (go_at_call 35;refine(HD.out _ HC0.out).mono ?_;rintro e w3 ⟨rfl,hc3⟩;have HC3:=kf (HC0.out.trans hc3 (fun _ _ e=>e));clear hc3);go_ret;exact⟨z00 HE.out.symm,HC3.out⟩
 ·have HE:=kf (show z0w t=z0e t from by unfold z0w;rw [<- hD,if_neg h64]);have d1:decide ((64:Int)<(m:Int))=false:=by simp;omega
  have d1':decide (64<m)=false:=by simp;omega
  clear hD hm h64;go_enter Tryz.func18,Tryz.ntmps18;go_upto_region 3 with(go_at_call 35;refine(HD.out _ HC0.out).mono ?_;rintro e w3 ⟨rfl,hc3⟩;have HC3:=kf (HC0.out.trans hc3 (fun _ _ e=>e));have HB3:=kf (HB.out.chg hc3 (fun e=>e));clear hc3);have HB4:=kf (HB3.out.alloc (.cells #[.int .i64 0] 29));have HJ4:=kf (⟨Blk.new w3 29 #[.int .i64 0],HC3.out.size,HC3.out.alloc _⟩:CJ w w3.heap.size 0 _);have x0:=HB4.out.cell 0;have x1:=HB4.out.cell 1;have x2:=HB4.out.cell 2;have x3:=HB4.out.cell 3;simp at x0 x1 x2 x3;go_wp2_with (go_at_call 36;refine(HW.out _ _ HJ4.out).mono ?_;rintro e w5 ⟨rfl,hj5,_⟩;have HJ5:=kf hj5;have y0:=hj5.a.cell 0;simp at y0;clear hj5 x0 x1 x2 x3);go_ret;exact⟨z00 HE.out.symm,HJ5.out.chg⟩
theorem y4r {acc:List VT} {n v:VT} (he:acc.length%2=0):z1p (acc++[n,v])=z9f n.str v (z1p acc):=by
 rw [<- z6z,<- z6z];have hl:(acc++[n,v]).length / 2=acc.length / 2+1:=by rw [List.length_append,show([n,v]:List VT).length=2 from rfl];omega
 rw [hl,List.range_succ,z1q]
 have hk:∀ j,j<acc.length / 2->z3e (acc++[n,v]) j=z3e acc j/\z34 (acc++[n,v]) j=z34 acc j:=fun j hj=>by
  unfold z3e z34;rw [List.getElem?_append_left (by omega),List.getElem?_append_left (by omega)];exact⟨rfl,rfl⟩
 have key:∀ m,m<=acc.length / 2->z71 (z3e (acc++[n,v])) (z34 (acc++[n,v])) (List.range m)=z71 (z3e acc) (z34 acc) (List.range m):=by
  intro m;induction m with
  |zero=>intro _;rfl
  |succ m ih =>
   intro hm;rw [List.range_succ,z1q,z1q,ih (by omega),(hk m (by omega)).1,(hk m (by omega)).2]
 rw [key _ (Nat.le_refl _)]
 have h1:z3e (acc++[n,v]) (acc.length / 2)=n.str:=by
  unfold z3e;rw [List.getElem?_append_right (by omega),show 2*(acc.length / 2)-acc.length=0 by omega];rfl
 have h2:z34 (acc++[n,v]) (acc.length / 2)=v:=by
  unfold z34;rw [List.getElem?_append_right (by omega),show 2*(acc.length / 2)+1-acc.length=1 by omega];rfl
 rw [h1,h2]
def y3b (d:Nat):Nat:=if d<10 then 48+d else 87+d
def y8p (c:Nat):List Nat:=[y3b (c / 16),y3b (c%16)]
theorem v54:∀ d,d<16->y0h (y3b d)=true/\z5u (y3b d)=false/\y3b d≠62/\y3b d≠60/\y3b d<256:=by decide
def nmC (c:Nat):List Nat:=if 32<c/\c<127/\c≠35/\z6b c=false then [c] else 35::y8p c
def nmL:List Nat->List Nat
 |[]=>[]
 |c::s=>nmC c++nmL s
def esC (c:Nat):List Nat:=if c=40\/c=41\/c=92 then [92,c] else [c]
def esL:List Nat->List Nat
 |[]=>[]
 |c::s=>esC c++esL s
def hxL:List Nat->List Nat
 |[]=>[]
 |c::s=>y8p c++hxL s
def y4n (s:List Nat):Prop:=∀ c∈s,32<=c/\c<=126
instance (s:List Nat):Decidable (y4n s):=inferInstanceAs (Decidable (∀ c∈s,32<=c/\c<=126))
def nmF (s:List Nat):List Nat:=47::nmL s
def txF (s:List Nat):List Nat:=if y4n s then 40::(esL s++[41]) else 60::(hxL s++[62])
theorem v2f (x:Int):∀ d∈y00 x,isD d\/d=45\/d=46:=by
 intro d hd;unfold y00 at hd;split at hd
 ·rw [List.mem_singleton] at hd;exact .inr (.inl hd)
 ·cases hd
theorem v4v (x:Int):∀ d∈z1g x,isD d\/d=45\/d=46:=by
 intro d hd;rcases List.mem_append.1 hd with h|h
 ·exact v2f x d h
 ·exact .inl (z8f _ _ d h)
theorem v2i (x:Int):∀ d∈z2h x,isD d\/d=45\/d=46:=by
 intro d hd;rcases List.mem_append.1 hd with h|h
 ·exact v2f x d h
 rcases List.mem_append.1 h with h|h
 ·exact .inl (z8f _ _ d h)
 rcases List.mem_cons.1 h with h|h
 ·exact .inr (.inr h)
 ·exact .inl (y58 5 _ (z8f _ _) d h)
mutual
def z0u:VT->List Nat
 |.mk k n s l =>
  if k=0 then [110,117,108,108]
  else if k=1 then(if n=1 then [116,114,117,101] else [102,97,108,115,101])
  else if k=2 then z1g n
  else if k=3 then z2h n
  else if k=4 then txF (sl s)
  else if k=5 then nmF (sl s)
  else if k=8 then z1g n++[32,48,32,82]
  else if k=6 then 91::(z0z 0 l++[93])
  else 60::60::(z0z 0 l++[62,62])
def z0z:Nat->List VT->List Nat
 |_,[]=>[]
 |j,t::l=>List.replicate j 32++(z0u t++z0z 1 l)
end
theorem z4v (j:Nat):z0z j []=[]:=by rw [z0z]
theorem z3r (j:Nat) (t:VT) (l:List VT):z0z j (t::l)=List.replicate j 32++(z0u t++z0z 1 l):=by rw [z0z]
theorem v7w (n:Int) (s:ByteArray) (l:List VT):z0u (.mk 0 n s l)=[110,117,108,108]:=by rw [z0u];rfl
theorem v2q (n:Int) (s:ByteArray) (l:List VT):z0u (.mk 1 n s l)=if n=1 then [116,114,117,101] else [102,97,108,115,101]:=by rw [z0u];rfl
theorem y7j (n:Int) (s:ByteArray) (l:List VT):z0u (.mk 2 n s l)=z1g n:=by rw [z0u];rfl
theorem v7v (n:Int) (s:ByteArray) (l:List VT):z0u (.mk 3 n s l)=z2h n:=by rw [z0u];rfl
theorem v7u (n:Int) (s:ByteArray) (l:List VT):z0u (.mk 4 n s l)=txF (sl s):=by rw [z0u];rfl
theorem v7t (n:Int) (s:ByteArray) (l:List VT):z0u (.mk 5 n s l)=nmF (sl s):=by rw [z0u];rfl
theorem v7s (n:Int) (s:ByteArray) (l:List VT):z0u (.mk 6 n s l)=91::(z0z 0 l++[93]):=by rw [z0u];rfl
theorem v7r (n:Int) (s:ByteArray) (l:List VT):z0u (.mk 7 n s l)=60::60::(z0z 0 l++[62,62]):=by rw [z0u];rfl
theorem v7q (n:Int) (s:ByteArray) (l:List VT):z0u (.mk 8 n s l)=z1g n++[32,48,32,82]:=by rw [z0u];rfl
theorem y2x {k n:Int} {s:ByteArray} {l:List VT} (h:z0e (.mk k n s l)=0):z0b k n s l=0:=by
 rw [z0x] at h;by_cases h0:z0b k n s l=0
 ·exact h0
 ·rw [if_pos h0] at h;exact h
theorem v12 {k n:Int} {s:ByteArray} {l:List VT} (hk:k=6\/k=7) (h:z0e (.mk k n s l)=0):∀ t∈l,z0e t=0:=by
 have h0:=y2x h;rw [z0x,if_neg (fun e=>e h0),if_pos hk] at h;exact firstL_zero.1 h
theorem v4r {k n:Int} {s:ByteArray} {l:List VT} (h:z0b k n s l=0):k=0\/k=1\/k=2\/k=3\/k=4\/k=5\/k=6\/k=7\/k=8:=by
 rcases Decidable.em (k=0\/k=1\/k=2\/k=3\/k=4\/k=5\/k=6\/k=7\/k=8) with h1|h1
 ·exact h1
 ·rw [z0b,if_neg (by omega),if_neg (by omega),if_neg (by omega),if_neg (by omega),if_neg (by omega),if_neg (by omega),if_neg (by omega),if_neg (by omega)] at h;cases h
mutual
def z6g:VT->Prop
 |.mk _ _ s l=>s.size<=300/\y3u l
def y3u:List VT->Prop
 |[]=>True
 |t::l=>z6g t/\y3u l
end
theorem z8c (k n:Int) (s:ByteArray) (l:List VT):z6g (.mk k n s l)↔s.size<=300/\y3u l:=by rw [z6g]
theorem txtsL_mem:∀ {l:List VT},y3u l↔∀ t∈l,z6g t
 |[]=>⟨fun _ t h=>(by cases h),fun _=>(by rw [y3u];trivial)⟩
 |t::l=>by
  rw [y3u,txtsL_mem (l:=l)];exact⟨fun h x hx=>by rcases List.mem_cons.1 hx with rfl|hx;exact h.1;exact h.2 x hx,fun h=>⟨h t (List.mem_cons_self ..),fun x hx=>h x (List.mem_cons_of_mem _ hx)⟩⟩
mutual
theorem y7p:∀ (t:VT) (left:Int),0<=z7i t left->z7i t left=left-z1h t
 |.mk _ _ _ l,left=>fun h=>by
  rw [z7i] at h ⊢;rw [y7q l (left-1) h,z0f];omega
theorem y7q:∀ (l:List VT) (left:Int),0<=z7j l left->z7j l left=left-z1n l
 |[],left=>fun h=>by rw [z7j,z1n];omega
 |t::l,left=>fun h=>by
  rw [z3f] at h ⊢;by_cases h0:0<=left
  ·rw [if_pos h0] at h ⊢;by_cases h1:0<=z7i t left
   ·rw [y7q l _ h,y7p t left h1,z08];omega
   ·rw [z94 l h1] at h;exact absurd h h1
  ·rw [if_neg h0] at h;exact absurd h h0
end
noncomputable def z8d (t:VT):Bool:=@decide (z6g t) (Classical.propDecidable _)
theorem z7o {t:VT} (h:z6g t):z8d t=true:=@decide_eq_true _ (Classical.propDecidable _) h
theorem z3z {t:VT} (h:¬z6g t):z8d t=false:=@decide_eq_false _ (Classical.propDecidable _) h
theorem y93:∀ (N:Nat) (t:VT),z1h t<=N->∀ (c:VC) (w:World),ValIs w t c ->
  Calls Tryz.prog 13 #[c.val] w fun e w'=>e=.returned (.bool (z8d t))/\Chg NoS w w':=by
 intro N;induction N using Nat.strongRecOn with
 |_ N ih =>
  intro t hN c w hv;obtain⟨k,n,s,l⟩:=t;rw [z0f] at hN;obtain⟨ck,cn,cs,A,len,cap⟩:=c;obtain⟨e1,e2,e3,hg,hll,hr⟩:=hv.inv;simp only [] at e1 e2 e3 hll hr;subst e1 e2 e3;have hlm:=hg.len;have hsm:=hg.s;simp only [] at hlm hsm;unfold maxLen at hlm hsm
  have HP:=kf (fun x (hx:x∈l)=>(show ∀ (c:VC) (w:World),ValIs w x c->Calls Tryz.prog 13 #[c.val] w fun e w'=>e=.returned (.bool (z8d x))/\Chg NoS w w' from by
   obtain⟨i,hi,rfl⟩:=List.mem_iff_getElem.1 hx;have:=z2u (List.getElem?_eq_getElem hi);exact ih (N-1) (by omega) _ (by omega)))
  have HL:=kf hll;have HR:=kf hr;unfold VC.val;simp only [];have HB:=kf (Blk.new w 24 #[.int .i64 ck,.int .i64 cn,.string cs,.slice A len cap]);have HC0:=kf ((Chg.refl NoS w).alloc (.cells #[.int .i64 ck,.int .i64 cn,.string cs,.slice A len cap] 24));obtain⟨W1,hW1⟩:∃ W1,W1=w.alloc (.cells #[.int .i64 ck,.int .i64 cn,.string cs,.slice A len cap] 24):=⟨_,rfl⟩
  obtain⟨g,hg⟩:∃ g,g=w.heap.size:=⟨_,rfl⟩
  rw [<- hW1] at HB HC0;rw [<- hg] at HB;obtain⟨z,hz⟩:∃ z,cs.size=z:=⟨_,rfl⟩
  have HZ:=kf hz;rw [hz] at hsm;clear hN ih hv hll hr hz;go_enter Tryz.func13,Tryz.ntmps13;go_upto_region 2 with fail;rw [<- hg,<- hW1];clear hg hW1;go_loopw [3] (fun vk wr=>∃ k:Nat,k<=len/\vk=.int .i64 (k:Nat)/\Hid (∀ x∈l.take k,z6g x)/\Hid (RowIs w A k (l.drop k))/\Hid (Chg NoS W1 wr)) (fun vk _=>len-(intOf vk).toNat)
  case atStart=>exact⟨0,by omega,by go_num,fun x hx=>by simp at hx,by rw [List.drop_zero];exact HR.out,Chg.refl NoS W1⟩
  case round =>
   obtain⟨k,hk,rfl,HT,HRW,HCW⟩:=hrel;have hbw:=HB.out.chg HCW.out (fun h=>h);have q2:=hbw.cell 2;have q3:=hbw.cell 3;simp at q2 q3;clear hbw;by_cases hlt:k<len
   ·obtain⟨t',ht',hdd⟩:=z0s (l:=l) (k:=k) (by rw [HL.out];exact hlt)
    obtain⟨b,off,rfl⟩:∃ b off,A=some ⟨b,off,none⟩:=by
     have h:=HR.out;cases hll:l with
     |nil=>rw [hll] at ht';simp at ht'
     |cons t0 l0=>rw [hll] at h;exact h.start
    have hrw:=HRW.out;rw [hdd] at hrw;have hcw:=HC0.out.trans HCW.out (fun _ _ e=>e);obtain⟨ek,en,es,eA,el,ec,c0,c1,c2,c3,hv',hr'⟩:=hrw.at0 hcw;have HRN:=kf hr';have hmem:=List.mem_of_getElem? ht';have HX:=kf (HP.out t' hmem ⟨ek,en,es,eA,el,ec⟩ wr (hv'.chg hcw));unfold VC.val at HX;simp only [] at HX;have i1:(k:Int)<len:=by omega
    have HTK:=kf (show l.take (k+1)=l.take k++[t'] from by rw [List.take_add_one,ht'];rfl);have HM:=kf hmem;by_cases hx:z6g t'
    ·rw [z7o hx] at HX
     have HNX:=kf (show ∀ x∈l.take (k+1),z6g x from by
      rw [HTK.out];intro x hxm;rcases List.mem_append.1 hxm with h|h
      ·exact HT.out x h
      ·rw [List.mem_singleton] at h;rw [h];exact hx)
     clear hrw hv' hr' hdd ht' hcw hmem hx;go_wp2_with (go_at_call 13;refine HX.out.mono ?_;rintro e w3 ⟨rfl,h3⟩;have HC3:=kf (HCW.out.trans h3 (fun _ _ e=>e));clear h3);go_roundw
     case rel=>exact⟨k+1,by omega,by go_num,HNX.out,HRN.out,HC3.out⟩
     case measure=>simp [intOf];omega
    ·rw [z3z hx] at HX;have HE:=kf (show z8d (.mk ck cn cs l)=false from z3z (fun h=>hx (txtsL_mem.1 ((z8c _ _ _ _).1 h).2 t' HM.out)));have HCE:=kf hcw;clear hrw hv' hr' hdd ht' hcw hmem hx;go_wp2_with (go_at_call 13;refine HX.out.mono ?_;rintro e w3 ⟨rfl,h3⟩;have HC3:=kf (HCE.out.trans h3 (fun _ _ e=>e));clear h3);go_ret;exact⟨by rw [HE.out];rfl,HC3.out⟩
   ·obtain rfl:k=len:=by omega
    have HCE:=kf (HC0.out.trans HCW.out (fun _ _ e=>e));have hall:∀ x∈l,z6g x:=fun x hx=>HT.out x (by rw [List.take_of_length_le (by rw [HL.out];exact Nat.le_refl _)];exact hx);by_cases h3:z<=300
    ·have HE:=kf (show z8d (.mk ck cn cs l)=true from z7o ((z8c _ _ _ _).2 ⟨by rw [HZ.out];exact h3,txtsL_mem.2 hall⟩));have d1:decide ((z:Int)<=300)=true:=by simp;omega
     have d1':decide (z<=300)=true:=by simp;omega
     have hz:=HZ.out;clear hall h3;go_wp2_with fail;go_ret;exact⟨by rw [HE.out];rfl,HCE.out⟩
    ·have HE:=kf (show z8d (.mk ck cn cs l)=false from z3z (fun h=>h3 (by have:=((z8c _ _ _ _).1 h).1;rw [HZ.out] at this;exact this)));have d1:decide ((z:Int)<=300)=false:=by simp;omega
     have d1':decide (z<=300)=false:=by simp;omega
     have hz:=HZ.out;clear hall h3;go_wp2_with fail;go_ret;exact⟨by rw [HE.out];rfl,HCE.out⟩
noncomputable def v18 (t:VT) (n:Nat):Bool:=decide (0<=z7i t 300)&&(decide (n<=1000)&&z8d t)
theorem z4w {t:VT} {n:Nat} (h:v18 t n=true):z1h t<=300/\n<=1000:=by
 unfold v18 at h;rw [Bool.and_eq_true,Bool.and_eq_true] at h;have h1:=of_decide_eq_true h.1;have h2:=y7p t 300 h1;have h3:=of_decide_eq_true h.2.1;exact⟨by omega,h3⟩
theorem z7w (t:VT) (k m:Int) (s:ByteArray) (A:Option Addr) (l c:Nat) (st:Bool) (d:ByteArray) (w:World) (hv:ValIs w t ⟨k,m,s,A,l,c⟩) (hd:d.size<=maxLen) :
  Calls Tryz.prog 4 #[z1u ⟨k,m,s,A,l,c⟩ st d,.int .i64 1000] w fun e w'=>e=.returned (.bool (v18 t d.size))/\Chg NoS w w':=by
 have HF:=kf (fun W (h:Chg NoS w W)=>y9l t ⟨k,m,s,A,l,c⟩ 300 W (hv.chg h) (by decide) (by decide));have HT:=kf (fun W (h:Chg NoS w W)=>y93 _ t (Nat.le_refl _) ⟨k,m,s,A,l,c⟩ W (hv.chg h));obtain⟨z,hz⟩:∃ z,z7i t 300=z:=⟨_,rfl⟩
 obtain⟨y,hy⟩:∃ y,z8d t=y:=⟨_,rfl⟩
 obtain⟨n,hn⟩:∃ n,d.size=n:=⟨_,rfl⟩
 have hS:v18 t d.size=(decide (0<=z)&&(decide (n<=1000)&&y)):=by unfold v18;rw [hz,hy,hn]
 rw [hz] at HF;rw [hS];rw [hy] at HT;rw [hn] at hd;unfold maxLen at hd;unfold VC.val at HF HT;simp only [] at HF HT;have HB:=kf (Blk.new w 26 (obA ⟨k,m,s,A,l,c⟩ st d));have HC:=kf ((Chg.refl NoS w).alloc (.cells (obA ⟨k,m,s,A,l,c⟩ st d) 26));unfold z1u;obtain⟨W1,hW1⟩:∃ W1,W1=w.alloc (.cells (obA ⟨k,m,s,A,l,c⟩ st d) 26):=⟨_,rfl⟩
 obtain⟨g,hg⟩:∃ g,g=w.heap.size:=⟨_,rfl⟩
 rw [<- hW1] at HB HC;rw [<- hg] at HB;unfold obA at HB hW1 ⊢;simp only [] at HB hW1 ⊢;clear hv hz hS hy;by_cases h0:0<=z
 ·have d1:decide (0<=z)=true:=by simpa using h0
  rw [d1,Bool.true_and];by_cases h1:n<=1000
  ·have d2:decide (n<=1000)=true:=by simpa using h1
   have d2':decide ((n:Int)<=1000)=true:=by simp;omega
   rw [d2,Bool.true_and];go_enter Tryz.func4,Tryz.ntmps4;go_upto_region 1 with fail;rw [<- hg,<- hW1];clear hg hW1;obtain⟨q0,q1,q2,q3,q4,q5,_,_,_,_,_,_⟩:=HB.out.cl6
   go_wp2_with first
    |(go_at_call 12;refine(HF.out _ HC.out).mono ?_;rintro e w2 ⟨rfl,h2⟩;have HC2:=kf (HC.out.trans h2 (fun _ _ e=>e));have hb2:=HB.out.chg h2 (fun e=>e);clear q0 q1 q2 q3 q4 q5;obtain⟨q0,q1,q2,q3,q4,q5,_,_,_,_,_,_⟩:=hb2.cl6;clear h2 hb2)
    |(go_at_call 13;refine(HT.out _ HC2.out).mono ?_;rintro e w3 ⟨rfl,h3⟩;have HC3:=kf (HC2.out.trans h3 (fun _ _ e=>e));clear h3)
   go_ret;exact⟨rfl,HC3.out⟩
  ·have d2:decide (n<=1000)=false:=by simpa using h1
   have d2':decide ((n:Int)<=1000)=false:=by simp;omega
   rw [d2,Bool.false_and];go_enter Tryz.func4,Tryz.ntmps4;go_upto_region 1 with fail;rw [<- hg,<- hW1];clear hg hW1;obtain⟨q0,q1,q2,q3,q4,q5,_,_,_,_,_,_⟩:=HB.out.cl6;go_wp2_with (go_at_call 12;refine(HF.out _ HC.out).mono ?_;rintro e w2 ⟨rfl,h2⟩;have HC2:=kf (HC.out.trans h2 (fun _ _ e=>e));have hb2:=HB.out.chg h2 (fun e=>e);clear q0 q1 q2 q3 q4 q5;obtain⟨q0,q1,q2,q3,q4,q5,_,_,_,_,_,_⟩:=hb2.cl6;clear h2 hb2);go_ret;exact⟨rfl,HC2.out⟩
 ·have d1:decide (0<=z)=false:=by simpa using h0
  rw [d1,Bool.false_and];go_enter Tryz.func4,Tryz.ntmps4;go_upto_region 1 with fail;rw [<- hg,<- hW1];clear hg hW1;obtain⟨q0,q1,q2,q3,q4,q5,_,_,_,_,_,_⟩:=HB.out.cl6;go_wp2_with (go_at_call 12;refine(HF.out _ HC.out).mono ?_;rintro e w2 ⟨rfl,h2⟩;have HC2:=kf (HC.out.trans h2 (fun _ _ e=>e));clear h2);go_ret;exact⟨rfl,HC2.out⟩
theorem y74:∀ d,d<16->∀ h:d<(ByteArray.mk #[48,49,50,51,52,53,54,55,56,57,97,98,99,100,101,102]).size,((ByteArray.mk #[48,49,50,51,52,53,54,55,56,57,97,98,99,100,101,102])[d]'h).toNat=y3b d:=by decide
theorem y75 {d:Nat} (h:d<16):y3b d<256:=(v54 d h).2.2.2.2
theorem y76 {c:Nat} (h:c<256):∀ d∈y8p c,d<256:=by
 intro d hd;unfold y8p at hd;simp only [List.mem_cons,List.not_mem_nil,or_false] at hd;rcases hd with rfl|rfl
 ·exact y75 (by omega)
 ·exact y75 (by omega)
theorem v9l (c:Nat) (h:c<256):bits .and .u8 (c:Int) 15=(c%16:Nat):=by
 have hx:(BitVec.ofInt 8 (c:Int) &&& BitVec.ofInt 8 15).toNat=c%16:=by
  rw [BitVec.toNat_and];have e7:(BitVec.ofInt 8 15).toNat=2 ^ 4-1:=by decide
  rw [e7,Nat.and_two_pow_sub_one_eq_mod,BitVec.toNat_ofInt];omega
 show IntKind.u8.wrap ((BitVec.ofInt 8 (c:Int) &&& BitVec.ofInt 8 15).toNat:Int)=_;rw [hx];unfold IntKind.wrap;simp [IntKind.bits,IntKind.signed];omega
theorem y3d {V w W:World} {R:Nat} {out:List Nat} (h:FB V w W R out) (c:Nat) (hc:c<256) (hl:out.length<=500000) :
  Calls Tryz.prog 158 #[.pointer (some ⟨R,0,none⟩),.int .u8 (c:Nat)] W fun e W'=>e=.returned (.tuple #[])/\FB V w W' R (out++y8p c):=by
 obtain⟨a,ha⟩:∃ a,a=c / 16:=⟨_,rfl⟩
 obtain⟨b,hb⟩:∃ b,b=c%16:=⟨_,rfl⟩
 have ha16:a<16:=by omega
 have hb16:b<16:=by omega
 have HE:=kf (show out++y8p c=(out++[y3b a])++[y3b b] from by rw [ha,hb];unfold y8p;simp);have HW:=kf (fun V X o x (hX:FB V w X R o) (ho:o.length<=1000000)=>z2b hX x ho);have g1:=y74 a ha16;have g2:=y74 b hb16;have s2:c >>> 4=a:=by rw [ha,Nat.shiftRight_eq_div_pow]
 have s1:(c:Int) / 16=(a:Int):=by omega
 have s3:bits .and .u8 (c:Int) 15=(b:Int):=by rw [hb];exact v9l c hc
 have HF:=kf h;have i1:(a:Int)<16:=by omega
 have i2:(b:Int)<16:=by omega
 clear h ha hb;go_enter Tryz.func158,Tryz.ntmps158;go_wp2;go_region_held3 (fun _=>True) (first|trivial|(go_keep;done)) ((go_at_call 156;with_reducible refine(HW.out _ _ _ (y3b a) HF.out.drew (by omega)).mono ?_;rintro e w3 ⟨rfl,h3⟩;have HF2:=kf h3;clear h3))
 go_wp2;have hl2:(out++[y3b a]).length<=1000000:=by simp;omega
 go_region_held3 (fun _=>True) (first|trivial|(go_keep;done)) ((go_at_call 156;with_reducible refine(HW.out _ _ _ (y3b b) HF2.out.drew hl2).mono ?_;rintro e w4 ⟨rfl,h4⟩;have HF3:=kf h4;clear h4))
 go_wp2;go_end0;exact⟨rfl,by rw [HE.out];exact HF3.out⟩
theorem Chg.freezeP {w W:World} (h:Chg NoS w W) {p:Addr} (hg:w.heap.size<=p.block) (n:Nat):Chg NoS w (W.freeze p n) :=
 Chg.of_below (Lib.below_freeze (B:=w.heap.size) h.no_below hg n)
theorem y22 (W:World) (s:ByteArray) {R:Nat} (hR:R<W.heap.size):∃ cp W2,(convert 9 37 (.string s)).run Tryz.prog W=.ok (.slice (some ⟨W.heap.size,0,none⟩) s.size cp) W2/\Chg NoS W W2/\(∀ k,k<s.size->W2.cell? ⟨W.heap.size,k,none⟩=some (.int .u8 ((sl s).getD k 0:Nat))) /\
  ∀ k,k<s.size->∀ X,KF R W2 X->X.cell? ⟨W.heap.size,k,none⟩=some (.int .u8 ((sl s).getD k 0:Nat)):=by
 have hcell:∀ k,k<s.size->(Lib.bytesWorld W 5 s).cell? ⟨W.heap.size,k,none⟩=some (.int .u8 ((sl s).getD k 0:Nat)):=fun k hk=>by
  rw [Lib.bytesWorld_cell W 5 s k hk];have h1:k<s.data.toList.length:=by rw [Array.length_toList];exact hk
  rw [List.getD_eq_getElem?_getD,List.getD_eq_getElem?_getD,sl,List.getElem?_map,List.getElem?_eq_getElem h1];rfl
 refine⟨_,_,Lib.run_convert_string_bytes W 9 37 5 s Tryz.underlying9 Tryz.underlying37 Tryz.underlying5,?_,hcell,fun k hk X hX=>?_⟩
 ·unfold Lib.bytesWorld;exact(((Chg.refl NoS W).drew).alloc _).freezeP (p:=⟨W.heap.size,_,none⟩) (Nat.le_refl _) 1
 ·rw [<- hcell k hk];have h1:=Lib.bytesWorld_at_new W 5 s;refine World.cell?_of_block (a:=⟨W.heap.size,k,none⟩) ((hX _ _ (by omega) (fun cs e=>?_) h1).trans h1.symm);have h2:=(Obj.cells.inj e).2.2;exact absurd (congrArg Prod.snd h2) (Nat.succ_ne_zero _)
theorem v0n {l:List Nat} {k:Nat} (h:k<l.length):hxL (l.take (k+1))=hxL (l.take k)++y8p (l.getD k 0):=by
 have e:l.take (k+1)=l.take k++[l.getD k 0]:=z27 (by rw [List.getD_eq_getElem?_getD,List.getElem?_eq_getElem h];rfl)
 have ha:∀ a b,hxL (a++b)=hxL a++hxL b:=by
  intro a b;induction a with
  |nil=>rfl
  |cons c a ih=>rw [List.cons_append,hxL,hxL,ih,List.append_assoc]
 rw [e,ha];simp [hxL]
theorem y7w:∀ a b,esL (a++b)=esL a++esL b:=by
 intro a b;induction a with
 |nil=>rfl
 |cons c a ih=>rw [List.cons_append,esL,esL,ih,List.append_assoc]
theorem v1g {l:List Nat} {k:Nat} (h:k<l.length):esL (l.take (k+1))=esL (l.take k)++esC (l.getD k 0):=by
 have e:l.take (k+1)=l.take k++[l.getD k 0]:=z27 (by rw [List.getD_eq_getElem?_getD,List.getElem?_eq_getElem h];rfl);rw [e,y7w];simp [esL]
theorem y1r:∀ l:List Nat,(hxL l).length=2*l.length
 |[]=>rfl
 |c::l=>by rw [hxL,List.length_append,y1r l,List.length_cons];show 2+_=_;omega
theorem v82 (c:Nat):1<=(esC c).length:=by unfold esC;split<;>simp
theorem v2r:∀ l:List Nat,l.length<=(esL l).length
 |[]=>Nat.le_refl _
 |c::l=>by rw [esL,List.length_append,List.length_cons];have:=v2r l;have:=v82 c;omega
theorem v1f (l:List Nat) (k:Nat):(esL (l.take k)).length<=(esL l).length:=by
 have e:esL l=esL (l.take k)++esL (l.drop k):=by rw [<- y7w,List.take_append_drop]
 rw [e,List.length_append];omega
theorem y1u (s:ByteArray) (k:Nat):(sl s).getD k 0<256:=by
 rw [List.getD_eq_getElem?_getD];cases h:(sl s)[k]? with
 |none=>exact Nat.zero_lt_succ _
 |some x=>exact y9a s x (List.mem_of_getElem? h)
theorem v16 {V w W:World} {R:Nat} {out:List Nat} (h:FB V w W R out) (s:ByteArray) (hl:out.length+(hxL (sl s)).length+2<=400000) :
  Calls Tryz.prog 154 #[.pointer (some ⟨R,0,none⟩),.string s] W fun e W'=>e=.returned (.tuple #[])/\FB V w W' R (out++60::(hxL (sl s)++[62])):=by
 have HW:=kf (fun V X o x (hX:FB V w X R o) (ho:o.length<=1000000)=>z2b hX x ho);have HD:=kf (fun V X o c (hX:FB V w X R o) (hc:c<256) (ho:o.length<=500000)=>y3d hX c hc ho);have HF:=kf h;obtain⟨n,hn⟩:∃ n,s.size=n:=⟨_,rfl⟩
 have HN:=kf (show(sl s).length=n from by rw [z3c,hn]);rw [y1r,HN.out] at hl;have hn1:n<=400000:=by omega
 clear h;go_enter Tryz.func154,Tryz.ntmps154;go_upto_region 1 with(go_at_call 156;refine(HW.out _ _ _ 60 HF.out (by omega)).mono ?_;rintro e w1 ⟨rfl,h1⟩;have HF1:=kf h1;clear h1);obtain⟨cp,W2,hcv,hc2,hcell,hkeep⟩:=y22 w1 s HF1.out.lt;rw [hn] at hcv hcell hkeep;have HF2:=kf (HF1.out.call hc2);have HCE:=kf hkeep;have HGL:=kf (show ∀ k,(sl s).getD k 0<256 from y1u s);obtain⟨g,hg⟩:∃ g,g=w1.heap.size:=⟨_,rfl⟩
 rw [<- hg] at hcv HCE;have HKF:=kf HF2.out.kf;clear hc2 hcell hkeep hn hg;go_upto_region 2 with fail;go_loopw [13] (fun vi wr=>∃ k:Nat,k<=n/\vi=.int .i64 (k:Nat)/\Hid (FB W2 w wr R (out++[60]++hxL ((sl s).take k)))) (fun vi _=>n-(intOf vi).toNat)
 case atStart=>exact⟨0,by omega,rfl,by rw [List.take_zero,hxL,List.append_nil];exact HF2.out.here⟩
 case round =>
  obtain⟨k,hk,rfl,HT⟩:=hrel
  have hlen:(out++[60]++hxL ((sl s).take k)).length<=500000:=by
   rw [List.length_append,y1r,List.length_append,List.length_take];simp only [List.length_cons,List.length_nil];omega
  obtain⟨o,ho⟩:∃ o,o=out++[60]++hxL ((sl s).take k):=⟨_,rfl⟩
  rw [<- ho] at HT hlen;have HO:=kf ho;clear ho;by_cases hlt:k<n
  ·have c0:=HCE.out k hlt wr HT.out.kf;have hc256:=HGL.out k;have HV:=kf (show out++[60]++hxL ((sl s).take (k+1))=o++y8p ((sl s).getD k 0) from by rw [HO.out,v0n (by rw [HN.out];exact hlt),<- List.append_assoc]);obtain⟨c,hc⟩:∃ c,c=(sl s).getD k 0:=⟨_,rfl⟩
   rw [<- hc] at c0 hc256 HV;clear hc;go_wp2_with (go_at_call 158;refine(HD.out _ _ _ c HT.out hc256 hlen).mono ?_;rintro e w3 ⟨rfl,h3⟩;have HT3:=kf h3;clear h3);go_roundw
   case rel=>exact⟨k+1,by omega,by go_num,by rw [HV.out];exact HT3.out⟩
   case measure=>simp [intOf];omega
  ·obtain rfl:k=n:=by omega
   have HV:=kf (show out++60::(hxL (sl s)++[62])=o++[62] from by rw [HO.out,List.take_of_length_le (by rw [HN.out];exact Nat.le_refl _)];simp);go_wp2_with (go_at_call 156;refine(HW.out _ _ _ 62 HT.out (by omega)).mono ?_;rintro e w3 ⟨rfl,h3⟩;have HT3:=kf h3;clear h3);go_end0;exact⟨rfl,by rw [HV.out];exact HT3.out.base (HKF.out.trans HT3.out.kf)⟩
theorem v81 {c:Nat} (h:c<256):∀ d∈esC c,d<256:=by
 intro d hd;unfold esC at hd;split at hd
 ·simp only [List.mem_cons,List.not_mem_nil,or_false] at hd;omega
 ·simp only [List.mem_cons,List.not_mem_nil,or_false] at hd;omega
theorem y4k {V w W:World} {R:Nat} {out:List Nat} (h:FB V w W R out) (s:ByteArray) (hl:out.length+(esL (sl s)).length+2<=400000) :
  Calls Tryz.prog 155 #[.pointer (some ⟨R,0,none⟩),.string s] W fun e W'=>e=.returned (.tuple #[])/\FB V w W' R (out++40::(esL (sl s)++[41])):=by
 have HW:=kf (fun V X o x (hX:FB V w X R o) (ho:o.length<=1000000)=>z2b hX x ho);have HF:=kf h;obtain⟨n,hn⟩:∃ n,s.size=n:=⟨_,rfl⟩
 have HN:=kf (show(sl s).length=n from by rw [z3c,hn]);have hn1:n<=400000:=by have:=v2r (sl s);rw [HN.out] at this;omega
 have hle:Hid (∀ k,out.length+1+(esL ((sl s).take k)).length<=400000):=fun k=>by have:=v1f (sl s) k;omega
 clear h;go_enter Tryz.func155,Tryz.ntmps155;go_upto_region 1 with(go_at_call 156;refine(HW.out _ _ _ 40 HF.out (by omega)).mono ?_;rintro e w1 ⟨rfl,h1⟩;have HF1:=kf h1;clear h1);obtain⟨cp,W2,hcv,hc2,hcell,hkeep⟩:=y22 w1 s HF1.out.lt;rw [hn] at hcv hcell hkeep;have HF2:=kf (HF1.out.call hc2);have HCE:=kf hkeep;have HGL:=kf (show ∀ k,(sl s).getD k 0<256 from y1u s);obtain⟨g,hg⟩:∃ g,g=w1.heap.size:=⟨_,rfl⟩
 rw [<- hg] at hcv HCE;have HKF:=kf HF2.out.kf;clear hc2 hcell hkeep hn hg;go_upto_region 2 with fail;go_loopw [13] (fun vi wr=>∃ k:Nat,k<=n/\vi=.int .i64 (k:Nat)/\Hid (FB W2 w wr R (out++[40]++esL ((sl s).take k)))) (fun vi _=>n-(intOf vi).toNat)
 case atStart=>exact⟨0,by omega,rfl,by rw [List.take_zero,esL,List.append_nil];exact HF2.out.here⟩
 case round =>
  obtain⟨k,hk,rfl,HT⟩:=hrel
  have hlen:(out++[40]++esL ((sl s).take k)).length<=500000:=by
   have:=hle.out k;rw [List.length_append,List.length_append];simp only [List.length_cons,List.length_nil];omega
  obtain⟨o,ho⟩:∃ o,o=out++[40]++esL ((sl s).take k):=⟨_,rfl⟩
  rw [<- ho] at HT hlen;have HO:=kf ho;clear ho;by_cases hlt:k<n
  ·have c0:=HCE.out k hlt wr HT.out.kf;have hc256:=HGL.out k;have HV:=kf (show out++[40]++esL ((sl s).take (k+1))=o++esC ((sl s).getD k 0) from by rw [HO.out,v1g (by rw [HN.out];exact hlt),<- List.append_assoc]);obtain⟨c,hc⟩:∃ c,c=(sl s).getD k 0:=⟨_,rfl⟩
   rw [<- hc] at c0 hc256 HV;clear hc;by_cases h40:c=40
   ·subst h40;have HVE:=kf (show o++esC 40=o++[92]++[40] from by simp [esC]);have hl2:(o++[92]).length<=1000000:=by simp;omega
    go_wp2_with first
     |(have hx:=HT3.out;go_at_call 156;refine(HW.out _ _ _ 40 HT3.out hl2).mono ?_;rintro e w4 ⟨rfl,h4⟩;have HT4:=kf h4;clear h4 hx)
     |(go_at_call 156;refine(HW.out _ _ _ 92 HT.out (by omega)).mono ?_;rintro e w3 ⟨rfl,h3⟩;have HT3:=kf h3;clear h3)
    go_roundw
    case rel=>exact⟨k+1,by omega,by go_num,by rw [HV.out,HVE.out];exact HT4.out⟩
    case measure=>simp [intOf];omega
   by_cases h41:c=41
   ·subst h41;have HVE:=kf (show o++esC 41=o++[92]++[41] from by simp [esC]);have hl2:(o++[92]).length<=1000000:=by simp;omega
    go_wp2_with first
     |(have hx:=HT3.out;go_at_call 156;refine(HW.out _ _ _ 41 HT3.out hl2).mono ?_;rintro e w4 ⟨rfl,h4⟩;have HT4:=kf h4;clear h4 hx)
     |(go_at_call 156;refine(HW.out _ _ _ 92 HT.out (by omega)).mono ?_;rintro e w3 ⟨rfl,h3⟩;have HT3:=kf h3;clear h3)
    go_roundw
    case rel=>exact⟨k+1,by omega,by go_num,by rw [HV.out,HVE.out];exact HT4.out⟩
    case measure=>simp [intOf];omega
   by_cases h92:c=92
   ·subst h92;have HVE:=kf (show o++esC 92=o++[92]++[92] from by simp [esC]);have hl2:(o++[92]).length<=1000000:=by simp;omega
    go_wp2_with first
     |(have hx:=HT3.out;go_at_call 156;refine(HW.out _ _ _ 92 HT3.out hl2).mono ?_;rintro e w4 ⟨rfl,h4⟩;have HT4:=kf h4;clear h4 hx)
     |(go_at_call 156;refine(HW.out _ _ _ 92 HT.out (by omega)).mono ?_;rintro e w3 ⟨rfl,h3⟩;have HT3:=kf h3;clear h3)
    go_roundw
    case rel=>exact⟨k+1,by omega,by go_num,by rw [HV.out,HVE.out];exact HT4.out⟩
    case measure=>simp [intOf];omega
   have HVE:=kf (show o++esC c=o++[c] from by unfold esC;rw [if_neg (by omega)]);have e1:((c:Int)==40)=false:=by simp;omega
   have e1':(c==40)=false:=by simp;omega
   have e2:((c:Int)==41)=false:=by simp;omega
   have e2':(c==41)=false:=by simp;omega
   have e3:((c:Int)==92)=false:=by simp;omega
   have e3':(c==92)=false:=by simp;omega
   clear h40 h41 h92;go_wp2_with (go_at_call 156;with_reducible refine(HW.out _ _ _ c HT.out (by omega)).mono ?_;rintro e w3 ⟨rfl,h3⟩;have HT3:=kf h3;clear h3);go_roundw
   case rel=>exact⟨k+1,by omega,by go_num,by rw [HV.out,HVE.out];exact HT3.out⟩
   case measure=>simp [intOf];omega
  ·obtain rfl:k=n:=by omega
   have HV:=kf (show out++40::(esL (sl s)++[41])=o++[41] from by rw [HO.out,List.take_of_length_le (by rw [HN.out];exact Nat.le_refl _)];simp);go_wp2_with (go_at_call 156;refine(HW.out _ _ _ 41 HT.out (by omega)).mono ?_;rintro e w3 ⟨rfl,h3⟩;have HT3:=kf h3;clear h3);go_end0;exact⟨rfl,by rw [HV.out];exact HT3.out.base (HKF.out.trans HT3.out.kf)⟩
def v28 (x:Nat):Bool:=decide (x<32\/126<x)
theorem v0m (s:ByteArray):∀ f pos,s.size<=pos+f->(Lib.idxFuncFrom v28 true s f pos<0↔∀ k,pos<=k->k<s.size->32<=(sl s).getD k 0/\(sl s).getD k 0<=126):=by
 intro f;induction f with
 |zero=>intro pos h;simp only [Lib.idxFuncFrom];exact⟨fun _ k h1 h2=>by omega,fun _=>by decide⟩
 |succ f ih =>
  intro pos h;rw [Lib.idxFuncFrom];by_cases hp:pos<s.size
  ·rw [if_pos hp];have hat:=z9x s pos hp;by_cases h128:(s[pos]'hp).toNat<128
   ·rw [decode_ascii s pos hp h128];simp only [];rw [hat];by_cases hb:v28 ((sl s).getD pos 0)=true
    ·rw [if_pos hb];have hb2:=of_decide_eq_true hb;refine⟨fun h=>by omega,fun h2=>?_⟩;have:=h2 pos (Nat.le_refl _) hp;omega
    ·rw [if_neg hb,ih (pos+1) (by omega)];have hb2:¬((sl s).getD pos 0<32\/126<(sl s).getD pos 0):=fun e=>hb (decide_eq_true e);refine⟨fun h2 k hk1 hk2=>?_,fun h2 k hk1 hk2=>h2 k (by omega) hk2⟩;by_cases e:k=pos
     ·subst e;omega
     ·exact h2 k (by omega) hk2
   ·have hd:=(decode_high s pos hp (by omega)).1;have hb:v28 (Utf8.decode s pos).1=true:=decide_eq_true (.inr (by omega));rw [if_pos hb];refine⟨fun h=>by omega,fun h2=>?_⟩;have:=h2 pos (Nat.le_refl _) hp;omega
  ·rw [if_neg hp];exact⟨fun _ k h1 h2=>by omega,fun _=>by decide⟩
theorem v13 (s:ByteArray):decide (0<=Lib.idxFunc v28 true s)=!decide (y4n (sl s)):=by
 have h:=v0m s s.size 0 (by omega)
 have h2:y4n (sl s)↔∀ k,0<=k->k<s.size->32<=(sl s).getD k 0/\(sl s).getD k 0<=126:=by
  constructor
  ·intro hf k _ hk;exact hf _ (List.mem_of_getElem? (z9w hk))
  ·intro hf c hc;obtain⟨k,hk,rfl⟩:=List.mem_iff_getElem.1 hc;have:=hf k (Nat.zero_le _) (by rwa [z3c] at hk);rwa [List.getD_eq_getElem?_getD,List.getElem?_eq_getElem hk] at this
 unfold Lib.idxFunc;by_cases hf:y4n (sl s)
 ·have:=h.2 (h2.1 hf);rw [decide_eq_true hf,decide_eq_false (by omega)];rfl
 ·have:¬_:=fun e=>hf (h2.2 (h.1 e));rw [decide_eq_false hf,decide_eq_true (by omega)];rfl
theorem v1c (x:Nat) (w:World):Calls Tryz.prog 153 #[.int .i32 (x:Nat)] w fun e w'=>e=.returned (.bool (v28 x))/\w'=w:=by
 by_cases h1:x<32
 ·have e:v28 x=true:=decide_eq_true (.inl h1);have d1:decide ((x:Int)<32)=true:=by simp;omega
  have d1':decide (x<32)=true:=by simp;omega
  rw [e];clear e;go_enter Tryz.func153,Tryz.ntmps153;go_wp2;go_ret;exact⟨rfl,rfl⟩
 ·have d1:decide ((x:Int)<32)=false:=by simp;omega
  have d1':decide (x<32)=false:=by simp;omega
  by_cases h2:126<x
  ·have e:v28 x=true:=decide_eq_true (.inr h2);have d2:decide ((126:Int)<x)=true:=by simp;omega
   have d2':decide (126<x)=true:=by simp;omega
   rw [e];clear e;go_enter Tryz.func153,Tryz.ntmps153;go_wp2;go_ret;exact⟨rfl,rfl⟩
  ·have e:v28 x=false:=decide_eq_false (by omega);have d2:decide ((126:Int)<x)=false:=by simp;omega
   have d2':decide (126<x)=false:=by simp;omega
   rw [e];clear e;go_enter Tryz.func153,Tryz.ntmps153;go_wp2;go_ret;exact⟨rfl,rfl⟩
theorem y7f {V w W:World} {R:Nat} {out:List Nat} (h:FB V w W R out) (s:ByteArray) (hl:out.length+(txF (sl s)).length<=400000) :
  Calls Tryz.prog 116 #[.pointer (some ⟨R,0,none⟩),.string s] W fun e W'=>e=.returned (.tuple #[])/\FB V w W' R (out++txF (sl s)):=by
 have HC:=kf (Go.Proofs.Tryz.strings_ContainsFunc_grows 153 #[] (fun args w=>rfl) v28 s W (fun X x _ _=>(v1c x X).mono fun e w' h=>⟨h.1,h.2 ▸ Below.refl _ _⟩));rw [v13] at HC;have HF:=kf h;by_cases hf:y4n (sl s)
 ·have HE:=kf (show txF (sl s)=40::(esL (sl s)++[41]) from by unfold txF;rw [if_pos hf]);have HP:=kf (fun X (hX:FB V w X R out)=>y4k hX s (by rw [HE.out] at hl;simp at hl;omega));rw [decide_eq_true hf] at HC;rw [Bool.not_true] at HC;clear h hf;go_enter Tryz.func116,Tryz.ntmps116
  go_wp2_with first
   |(go_at_call 152;refine HC.out.mono ?_;rintro e w1 ⟨rfl,h1⟩;have HF1:=kf (HF.out.call (Chg.of_below h1));clear h1)
   |(go_at_call 155;refine(HP.out _ HF1.out).mono ?_;rintro e w2 ⟨rfl,h2⟩;have HF2:=kf h2;clear h2)
  go_end0;exact⟨rfl,by rw [HE.out];exact HF2.out⟩
 ·have HE:=kf (show txF (sl s)=60::(hxL (sl s)++[62]) from by unfold txF;rw [if_neg hf]);have HH:=kf (fun X (hX:FB V w X R out)=>v16 hX s (by rw [HE.out] at hl;simp at hl;omega));rw [decide_eq_false hf] at HC;rw [Bool.not_false] at HC;clear h hf;go_enter Tryz.func116,Tryz.ntmps116
  go_wp2_with first
   |(go_at_call 152;refine HC.out.mono ?_;rintro e w1 ⟨rfl,h1⟩;have HF1:=kf (HF.out.call (Chg.of_below h1));clear h1)
   |(go_at_call 154;refine(HH.out _ HF1.out).mono ?_;rintro e w2 ⟨rfl,h2⟩;have HF2:=kf h2;clear h2)
  go_end0;exact⟨rfl,by rw [HE.out];exact HF2.out⟩
theorem y6n:∀ a b,nmL (a++b)=nmL a++nmL b:=by
 intro a b;induction a with
 |nil=>rfl
 |cons c a ih=>rw [List.cons_append,nmL,nmL,ih,List.append_assoc]
theorem v0a {l:List Nat} {k:Nat} (h:k<l.length):nmL (l.take (k+1))=nmL (l.take k)++nmC (l.getD k 0):=by
 have e:l.take (k+1)=l.take k++[l.getD k 0]:=z27 (by rw [List.getD_eq_getElem?_getD,List.getElem?_eq_getElem h];rfl);rw [e,y6n];simp [nmL]
theorem v7c (c:Nat):1<=(nmC c).length:=by unfold nmC;split<;>simp
theorem v2n:∀ l:List Nat,l.length<=(nmL l).length
 |[]=>Nat.le_refl _
 |c::l=>by rw [nmL,List.length_append,List.length_cons];have:=v2n l;have:=v7c c;omega
theorem v09 (l:List Nat) (k:Nat):(nmL (l.take k)).length<=(nmL l).length:=by
 have e:nmL l=nmL (l.take k)++nmL (l.drop k):=by rw [<- y6n,List.take_append_drop]
 rw [e,List.length_append];omega
theorem y7l {V w W:World} {R:Nat} {out:List Nat} (h:FB V w W R out) (s:ByteArray) (hl:out.length+(nmF (sl s)).length<=400000) :
  Calls Tryz.prog 117 #[.pointer (some ⟨R,0,none⟩),.string s] W fun e W'=>e=.returned (.tuple #[])/\FB V w W' R (out++nmF (sl s)):=by
 have HW:=kf (fun V X o x (hX:FB V w X R o) (ho:o.length<=1000000)=>z2b hX x ho);have HD:=kf (fun V X o c (hX:FB V w X R o) (hc:c<256) (ho:o.length<=500000)=>y3d hX c hc ho);have HDL:=kf (fun y X=>z7y y X);have HF:=kf h;obtain⟨n,hn⟩:∃ n,s.size=n:=⟨_,rfl⟩
 have HN:=kf (show(sl s).length=n from by rw [z3c,hn]);rw [nmF,List.length_cons] at hl;have hn1:n<=400000:=by have:=v2n (sl s);rw [HN.out] at this;omega
 have hle:Hid (∀ k,out.length+1+(nmL ((sl s).take k)).length<=400000):=fun k=>by have:=v09 (sl s) k;omega
 clear h;go_enter Tryz.func117,Tryz.ntmps117;go_upto_region 1 with(go_at_call 156;refine(HW.out _ _ _ 47 HF.out (by omega)).mono ?_;rintro e w1 ⟨rfl,h1⟩;have HF1:=kf h1;clear h1);obtain⟨cp,W2,hcv,hc2,hcell,hkeep⟩:=y22 w1 s HF1.out.lt;rw [hn] at hcv hcell hkeep;have HF2:=kf (HF1.out.call hc2);have HCE:=kf hkeep;have HGL:=kf (show ∀ k,(sl s).getD k 0<256 from y1u s);obtain⟨g,hg⟩:∃ g,g=w1.heap.size:=⟨_,rfl⟩
 rw [<- hg] at hcv HCE;have HKF:=kf HF2.out.kf;clear hc2 hcell hkeep hn hg;go_upto_region 2 with fail;go_loopw [13] (fun vi wr=>∃ k:Nat,k<=n/\vi=.int .i64 (k:Nat)/\Hid (FB W2 w wr R (out++[47]++nmL ((sl s).take k)))) (fun vi _=>n-(intOf vi).toNat)
 case atStart=>exact⟨0,by omega,rfl,by rw [List.take_zero,nmL,List.append_nil];exact HF2.out.here⟩
 case round =>
  obtain⟨k,hk,rfl,HT⟩:=hrel
  have hlen:(out++[47]++nmL ((sl s).take k)).length<=499000:=by
   have:=hle.out k;rw [List.length_append,List.length_append];simp only [List.length_cons,List.length_nil];omega
  obtain⟨o,ho⟩:∃ o,o=out++[47]++nmL ((sl s).take k):=⟨_,rfl⟩
  rw [<- ho] at HT hlen;have HO:=kf ho;clear ho;by_cases hlt:k<n
  ·have c0:=HCE.out k hlt wr HT.out.kf;have hc256:=HGL.out k;have HV:=kf (show out++[47]++nmL ((sl s).take (k+1))=o++nmC ((sl s).getD k 0) from by rw [HO.out,v0a (by rw [HN.out];exact hlt),<- List.append_assoc]);obtain⟨c,hc⟩:∃ c,c=(sl s).getD k 0:=⟨_,rfl⟩
   rw [<- hc] at c0 hc256 HV;clear hc;have hl2:(o++[35]).length<=500000:=by simp;omega
   have HDC:=kf (fun X=>HDL.out c X);by_cases hg:32<c/\c<127/\c≠35/\z6b c=false
   ·have HVE:=kf (show o++nmC c=o++[c] from by unfold nmC;rw [if_pos hg]);have HDC1:=kf (fun X=>HDC.out X);rw [hg.2.2.2] at HDC1;obtain⟨g1,g2,g3,_⟩:=hg;have d1:decide ((c:Int)<33)=false:=by simp;omega
    have d1':decide (c<33)=false:=by simp;omega
    have d2:decide ((126:Int)<c)=false:=by simp;omega
    have d2':decide (126<c)=false:=by simp;omega
    have d3:((c:Int)==35)=false:=by simp;omega
    have d3':(c==35)=false:=by simp;omega
    clear g1 g2 g3 HDC
    go_wp2_with first
     |(go_at_call 157;refine(HDC1.out _).mono ?_;rintro e w5 ⟨rfl,rfl⟩)
     |(go_at_call 156;with_reducible refine(HW.out _ _ _ c HT.out (by omega)).mono ?_;rintro e w3 ⟨rfl,h3⟩;have HT3:=kf h3;clear h3)
    go_roundw
    case rel=>exact⟨k+1,by omega,by go_num,by rw [HV.out,HVE.out];exact HT3.out⟩
    case measure=>simp [intOf];omega
   have HVE:=kf (show o++nmC c=o++[35]++y8p c from by unfold nmC;rw [if_neg hg];simp);by_cases h1:c<33
   ·have d1:decide ((c:Int)<33)=true:=by simp;omega
    have d1':decide (c<33)=true:=by simp;omega
    clear hg h1
    go_wp2_with first
     |(go_at_call 156;refine(HW.out _ _ _ 35 HT.out (by omega)).mono ?_;rintro e w3 ⟨rfl,h3⟩;have HT3:=kf h3;clear h3)
     |(go_at_call 158;refine(HD.out _ _ _ c HT3.out hc256 hl2).mono ?_;rintro e w4 ⟨rfl,h4⟩;have HT4:=kf h4;clear h4)
    go_roundw
    case rel=>exact⟨k+1,by omega,by go_num,by rw [HV.out,HVE.out];exact HT4.out⟩
    case measure=>simp [intOf];omega
   have d1:decide ((c:Int)<33)=false:=by simp;omega
   have d1':decide (c<33)=false:=by simp;omega
   by_cases h2:126<c
   ·have d2:decide ((126:Int)<c)=true:=by simp;omega
    have d2':decide (126<c)=true:=by simp;omega
    clear hg h1 h2
    go_wp2_with first
     |(go_at_call 156;refine(HW.out _ _ _ 35 HT.out (by omega)).mono ?_;rintro e w3 ⟨rfl,h3⟩;have HT3:=kf h3;clear h3)
     |(go_at_call 158;refine(HD.out _ _ _ c HT3.out hc256 hl2).mono ?_;rintro e w4 ⟨rfl,h4⟩;have HT4:=kf h4;clear h4)
    go_roundw
    case rel=>exact⟨k+1,by omega,by go_num,by rw [HV.out,HVE.out];exact HT4.out⟩
    case measure=>simp [intOf];omega
   have d2:decide ((126:Int)<c)=false:=by simp;omega
   have d2':decide (126<c)=false:=by simp;omega
   by_cases h3:c=35
   ·subst h3;clear hg h1 h2
    go_wp2_with first
     |(go_at_call 156;refine(HW.out _ _ _ 35 HT.out (by omega)).mono ?_;rintro e w3 ⟨rfl,h3⟩;have HT3:=kf h3;clear h3)
     |(go_at_call 158;refine(HD.out _ _ _ 35 HT3.out hc256 hl2).mono ?_;rintro e w4 ⟨rfl,h4⟩;have HT4:=kf h4;clear h4)
    go_roundw
    case rel=>exact⟨k+1,by omega,by go_num,by rw [HV.out,HVE.out];exact HT4.out⟩
    case measure=>simp [intOf];omega
   have d3:((c:Int)==35)=false:=by simp;omega
   have d3':(c==35)=false:=by simp;omega
   have hdl:z6b c=true:=by
    cases h4:z6b c with
    |true=>rfl
    |false=>exact absurd ⟨by omega,by omega,h3,h4⟩ hg
   have HDC1:=kf (fun X=>HDC.out X);rw [hdl] at HDC1;clear hg h1 h2 h3 hdl HDC
   go_wp2_with first
    |(go_at_call 157;refine(HDC1.out _).mono ?_;rintro e w5 ⟨rfl,rfl⟩)
    |(go_at_call 156;refine(HW.out _ _ _ 35 HT.out (by omega)).mono ?_;rintro e w3 ⟨rfl,h3⟩;have HT3:=kf h3;clear h3)
    |(go_at_call 158;refine(HD.out _ _ _ c HT3.out hc256 hl2).mono ?_;rintro e w4 ⟨rfl,h4⟩;have HT4:=kf h4;clear h4)
   go_roundw
   case rel=>exact⟨k+1,by omega,by go_num,by rw [HV.out,HVE.out];exact HT4.out⟩
   case measure=>simp [intOf];omega
  ·obtain rfl:k=n:=by omega
   have HV:=kf (show out++nmF (sl s)=o from by rw [HO.out,List.take_of_length_le (by rw [HN.out];exact Nat.le_refl _)];simp [nmF]);go_wp2_with fail;go_end0;exact⟨rfl,by rw [HV.out];exact HT.out.base (HKF.out.trans HT.out.kf)⟩
theorem KF.blk {R g:Nat} {V W:World} {T:TypeId} {cs:Array Value} (h:KF R V W) (hg:g≠R) (hT:T≠5) (hb:Blk V g T cs):Blk W g T cs :=
 h g _ hg (fun cs' e=>hT (Obj.cells.inj e).2.1) hb
theorem y0g {l:List Nat} (h:∀ d∈l,isD d\/d=45\/d=46):∀ d∈l,d<256:=by
 intro d hd;have hk:=h d hd;unfold isD at hk;omega
def y1l (k n:Int):List Nat:=if k=2 then z1g n else z2h n
theorem v4b (k n:Int):∀ d∈y1l k n,d<256:=by
 unfold y1l;split
 ·exact y0g (v4v n)
 ·exact y0g (v2i n)
theorem z90 {V w W:World} {R:Nat} {out:List Nat} (h:FB V w W R out) (hL:LibOk w) (k n:Int) (s:ByteArray) (A:Option Addr) (len cap:Nat) (hc:z0h k n s.size len=0) (hl:out.length+(y1l k n).length<=400000) :
  Calls Tryz.prog 115 #[.pointer (some ⟨R,0,none⟩),.agg #[.int .i64 k,.int .i64 n,.string s,.slice A len cap]] W fun e W'=>e=.returned (.tuple #[])/\FB V w W' R (out++y1l k n):=by
 have HP:=kf (fun X (hX:LibOk X)=>y66 k n s A len cap X hX);have hpr:v2k k n s.size len=(y1l k n,0):=by unfold v2k y1l;rw [if_pos hc]
 have HPR:=kf hpr;have HW:=kf (fun X (hX:FB V w X R out)=>z17 hX (y1l k n) (v4b k n) (by omega) (by omega));obtain⟨L,hLn⟩:∃ L,L=sb (y1l k n):=⟨_,rfl⟩
 have HP2:Hid (∀ X,LibOk X->Calls Tryz.prog 151 #[.agg #[.int .i64 k,.int .i64 n,.string s,.slice A len cap]] X fun e w'=>e=.returned (.tuple #[.string L,.int .i64 0])/\Chg NoS X w'):=fun X hX=>by
  refine(HP.out X hX).mono fun e w' h=>?_;unfold PrTo at h;rw [HPR.out,<- hLn] at h;exact h
 rw [<- hLn] at HW;have HF:=kf (h.alloc (.cells #[.int .i64 k,.int .i64 n,.string s,.slice A len cap] 24));have HB:=kf (Blk.new W 24 #[.int .i64 k,.int .i64 n,.string s,.slice A len cap]);have HLib:=kf hL;obtain⟨W1,hW1⟩:∃ W1,W1=W.alloc (.cells #[.int .i64 k,.int .i64 n,.string s,.slice A len cap] 24):=⟨_,rfl⟩
 obtain⟨g,hg⟩:∃ g,g=W.heap.size:=⟨_,rfl⟩
 rw [<- hW1] at HF HB;rw [<- hg] at HB;clear h hL hc hpr HPR HP hLn;go_enter Tryz.func115,Tryz.ntmps115;go_upto_region 1 with fail;rw [<- hg,<- hW1];clear hg hW1;have q0:=HB.out.cell 0;have q1:=HB.out.cell 1;have q2:=HB.out.cell 2;have q3:=HB.out.cell 3;simp at q0 q1 q2 q3
 go_wp2_with first
  |(go_at_call 151;refine(HP2.out _ (HLib.out.chg HF.out.chg)).mono ?_;rintro e w2 ⟨rfl,h2⟩;have HF2:=kf (HF.out.call h2);clear h2)
  |(go_at_call 113;refine(HW.out _ HF2.out).mono ?_;rintro e w3 ⟨rfl,h3⟩;have HF3:=kf h3;clear h3)
 go_end0;exact⟨rfl,HF3.out⟩
theorem y0o:∀ (j:Nat) (a b:List VT),z0z j (a++b)=z0z j a++z0z (if a=[] then j else 1) b:=by
 intro j a;induction a generalizing j with
 |nil=>intro b;rw [z4v,if_pos rfl];rfl
 |cons t a ih =>
  intro b;rw [List.cons_append,z3r,z3r,ih 1 b,if_neg (List.cons_ne_nil _ _)];simp only [List.append_assoc,ite_self]
theorem y4m {l:List VT} {k:Nat} {t:VT} (h:l[k]?=some t):z0z 0 (l.take (k+1))=z0z 0 (l.take k)++(List.replicate (if k=0 then 0 else 1) 32++z0u t):=by
 have e:l.take (k+1)=l.take k++[t]:=by rw [List.take_add_one,h];rfl
 have hk:=(List.getElem?_eq_some_iff.1 h).1
 have h0:(l.take k=[])=(k=0):=by
  apply propext;constructor
  ·intro h1;have h2:=congrArg List.length h1;rw [List.length_take] at h2;simp only [List.length_nil] at h2;omega
  ·rintro rfl;rfl
 rw [e,y0o,z3r,z4v,List.append_nil];simp only [h0]
theorem v0x (l:List VT) (k:Nat):(z0z 0 (l.take k)).length<=(z0z 0 l).length:=by
 have e:z0z 0 l=z0z 0 (l.take k++l.drop k):=by rw [List.take_append_drop]
 rw [e,y0o,List.length_append];omega
def PV (t:VT):Prop:=∀ (c:VC) (V w W:World) (R:Nat) (out:List Nat),LibOk w->ValIs w t c->FB V w W R out->out.length+(z0u t).length<=400000 ->
 Calls Tryz.prog 92 #[.pointer (some ⟨R,0,none⟩),c.val] W fun e W'=>e=.returned (.tuple #[])/\FB V w W' R (out++z0u t)
theorem y0p (l:List VT) (hP:∀ t∈l,PV t) (A:Option Addr) (len cap:Nat) {V w W:World} {R:Nat} {out:List Nat} (hL:LibOk w) (hl:l.length=len) (hr:RowIs w A 0 l) (hm:len<=9223372036854775807) (h:FB V w W R out) (hb:out.length+(z0z 0 l).length<=400000) :
  Calls Tryz.prog 118 #[.pointer (some ⟨R,0,none⟩),.slice A len cap] W fun e W'=>e=.returned (.tuple #[])/\FB V w W' R (out++z0z 0 l):=by
 have HW:=kf (fun V X o x (hX:FB V w X R o) (ho:o.length<=1000000)=>z2b hX x ho);have HP:=kf hP;have HLib:=kf hL;have HL:=kf hl;have HR:=kf hr;have HF:=kf h;have HBL:=kf hb;clear hP hL hl hr h hb;go_enter Tryz.func118,Tryz.ntmps118;go_upto_region 1 with fail;go_loopw [8] (fun vk wr=>∃ k:Nat,k<=len/\vk=.int .i64 (k:Nat)/\Hid (FB V w wr R (out++z0z 0 (l.take k)))/\Hid (RowIs w A k (l.drop k))) (fun vk _=>len-(intOf vk).toNat)
 case atStart=>exact⟨0,by omega,rfl,by rw [List.take_zero,z4v,List.append_nil];exact HF.out,by rw [List.drop_zero];exact HR.out⟩
 case round =>
  obtain⟨k,hk,rfl,HT,HRW⟩:=hrel;obtain⟨o,ho⟩:∃ o,o=out++z0z 0 (l.take k):=⟨_,rfl⟩
  rw [<- ho] at HT;have HO:=kf ho;clear ho;by_cases hlt:k<len
  ·obtain⟨t',ht',hdd⟩:=z0s (l:=l) (k:=k) (by rw [HL.out];exact hlt)
   obtain⟨b,off,rfl⟩:∃ b off,A=some ⟨b,off,none⟩:=by
    have h:=HR.out;cases hll:l with
    |nil=>rw [hll] at ht';simp at ht'
    |cons t0 l0=>rw [hll] at h;exact h.start
   have hrw:=HRW.out;rw [hdd] at hrw;obtain⟨ek,en,es,eA,el,ec,c0,c1,c2,c3,hv',hr'⟩:=hrw.at0 HT.out.chg;have HRN:=kf hr';have HV:=kf (show out++z0z 0 (l.take (k+1))=o++(List.replicate (if k=0 then 0 else 1) 32++z0u t') from by rw [HO.out,y4m ht',List.append_assoc])
   have hlen:o.length+(if k=0 then 0 else 1)+(z0u t').length<=400000:=by
    have h1:=v0x l (k+1);have h2:=congrArg List.length HV.out;have h3:=HBL.out;simp only [List.length_append,List.length_replicate] at h2;omega
   have HX:=kf (fun X o2 (hX:FB (wr.alloc (.cells #[.int .i64 ek,.int .i64 en,.string es,.slice eA el ec] 24)) w X R o2) (ho2:o2.length+(z0u t').length<=400000)=>HP.out t' (List.mem_of_getElem? ht') ⟨ek,en,es,eA,el,ec⟩ _ w X R o2 HLib.out hv' hX ho2);unfold VC.val at HX;simp only [] at HX;have HBX:=kf (Blk.new wr 24 #[.int .i64 ek,.int .i64 en,.string es,.slice eA el ec]);have hgR:wr.heap.size≠R:=fun e=>absurd HT.out.lt (by omega);have HFX:=kf ((HT.out.alloc (.cells #[.int .i64 ek,.int .i64 en,.string es,.slice eA el ec] 24)).here);have HKX:=kf ((HT.out.alloc (.cells #[.int .i64 ek,.int .i64 en,.string es,.slice eA el ec] 24)).kf);clear hrw hv' hr' hdd ht';obtain⟨W1,hW1⟩:∃ W1,W1=wr.alloc (.cells #[.int .i64 ek,.int .i64 en,.string es,.slice eA el ec] 24):=⟨_,rfl⟩
   obtain⟨g,hg⟩:∃ g,g=wr.heap.size:=⟨_,rfl⟩
   rw [<- hW1] at HX HBX HFX HKX;rw [<- hg] at HBX hgR;by_cases h0:k=0
   ·subst h0;simp only [if_true,Nat.add_zero] at hlen;have HVV:=kf (show o++(List.replicate (if 0=0 then 0 else 1) 32++z0u t')=o++z0u t' from rfl);simp only [Nat.zero_mul,Nat.add_zero] at c0 c1 c2 c3;go_upto_region 3 with fail;rw [<- hg,<- hW1];clear hg hW1;have q0:=HBX.out.cell 0;have q1:=HBX.out.cell 1;have q2:=HBX.out.cell 2;have q3:=HBX.out.cell 3;simp at q0 q1 q2 q3;go_wp2_with (go_at_call 92;refine(HX.out _ _ HFX.out hlen).mono ?_;rintro e w3 ⟨rfl,h3⟩;have HT3:=kf h3;clear h3);go_roundw
    case rel=>exact⟨1,by omega,by go_num,by rw [HV.out,HVV.out];exact HT3.out.base (HKX.out.trans HT3.out.kf),HRN.out⟩
    case measure=>simp [intOf];omega
   ·rw [if_neg h0] at hlen;have HVV:=kf (show o++(List.replicate (if k=0 then 0 else 1) 32++z0u t')=o++[32]++z0u t' from by rw [if_neg h0];simp);have hl2:(o++[32]).length+(z0u t').length<=400000:=by simp only [List.length_append,List.length_cons,List.length_nil];omega
    have d0:decide ((0:Int)<(k:Int))=true:=by simp;omega
    have d0':decide (0<k)=true:=by simp;omega
    clear h0;go_upto_region 3 with fail;rw [<- hg,<- hW1];clear hg hW1;go_upto_region 5 with(go_at_call 156;refine(HW.out _ _ _ 32 HFX.out (by omega)).mono ?_;rintro e w2 ⟨rfl,h2⟩;have HT2:=kf h2;clear h2);have HBY:=kf (HT2.out.kf.blk hgR (by decide) HBX.out);have q0:=HBY.out.cell 0;have q1:=HBY.out.cell 1;have q2:=HBY.out.cell 2;have q3:=HBY.out.cell 3;simp at q0 q1 q2 q3;go_wp2_with (go_at_call 92;refine(HX.out _ _ HT2.out hl2).mono ?_;rintro e w3 ⟨rfl,h3⟩;have HT3:=kf h3;clear h3);go_roundw
    case rel=>exact⟨k+1,by omega,by go_num,by rw [HV.out,HVV.out];exact HT3.out.base (HKX.out.trans HT3.out.kf),HRN.out⟩
    case measure=>simp [intOf];omega
  ·obtain rfl:k=len:=by omega
   have HV:=kf (show out++z0z 0 l=o from by rw [HO.out,List.take_of_length_le (by rw [HL.out];exact Nat.le_refl _)]);go_wp2_with fail;go_end0;exact⟨rfl,by rw [HV.out];exact HT.out⟩
theorem v58:(⟨(Lib.formatBool true).toArray⟩:ByteArray)=sb [116,114,117,101]:=by rfl
theorem v1d:(⟨(Lib.formatBool false).toArray⟩:ByteArray)=sb [102,97,108,115,101]:=by rfl
structure FV (V w W1:World) (R g:Nat) (out:List Nat) (k n:Int) (s:ByteArray) (A:Option Addr) (len cap:Nat):Prop where
 blk:Blk W1 g 24 #[.int .i64 k,.int .i64 n,.string s,.slice A len cap]
 ne:g≠R
 fb:FB W1 w W1 R out
 kf:KF R V W1
theorem FV.of {V w W:World} {R:Nat} {out:List Nat} (h:FB V w W R out) (k n:Int) (s:ByteArray) (A:Option Addr) (len cap:Nat) :
  FV V w (W.alloc (.cells #[.int .i64 k,.int .i64 n,.string s,.slice A len cap] 24)) R W.heap.size out k n s A len cap :=
 ⟨Blk.new _ _ _,fun e=>absurd h.lt (by omega),(h.alloc _).here,(h.alloc _).kf⟩
theorem FV.at_ {V w W1 X:World} {R g:Nat} {out o2:List Nat} {k n:Int} {s:ByteArray} {A:Option Addr} {len cap:Nat} (h:FV V w W1 R g out k n s A len cap) (hX:FB W1 w X R o2):Blk X g 24 #[.int .i64 k,.int .i64 n,.string s,.slice A len cap] :=
 hX.kf.blk h.ne (by decide) h.blk
theorem FV.end_ {V w W1 X:World} {R g:Nat} {out o2:List Nat} {k n:Int} {s:ByteArray} {A:Option Addr} {len cap:Nat} (h:FV V w W1 R g out k n s A len cap) (hX:FB W1 w X R o2):FB V w X R o2:=hX.base (h.kf.trans hX.kf)
theorem y7c {V w W:World} {R:Nat} {out:List Nat} (h:FB V w W R out) (hL:LibOk w) (n:Int) (s:ByteArray) (A:Option Addr) (len cap:Nat) (hl:out.length+([110,117,108,108]).length<=400000) :
  Calls Tryz.prog 92 #[.pointer (some ⟨R,0,none⟩),.agg #[.int .i64 0,.int .i64 n,.string s,.slice A len cap]] W fun e W'=>e=.returned (.tuple #[])/\FB V w W' R (out++([110,117,108,108])):=by
 have HLib:=kf hL;have HFV:=kf (FV.of h 0 n s A len cap);obtain⟨W1,hW1⟩:∃ W1,W1=W.alloc (.cells #[.int .i64 0,.int .i64 n,.string s,.slice A len cap] 24):=⟨_,rfl⟩
 obtain⟨g,hg⟩:∃ g,g=W.heap.size:=⟨_,rfl⟩
 rw [<- hW1,<- hg] at HFV;have HW0:=kf (fun X o (hX:FB W1 w X R o) (ho:o.length<=1000000)=>(show Calls Tryz.prog 113 #[.pointer (some ⟨R,0,none⟩),.string ⟨#[110,117,108,108]⟩] X fun e W'=>e=.returned (.tuple #[.int .i64 (4:Nat),.nilIface])/\FB W1 w W' R (o++[110,117,108,108]) from z17 hX [110,117,108,108] (by decide) ho (by decide)));clear h hL;go_enter Tryz.func92,Tryz.ntmps92;go_upto_region 1 with fail;rw [<- hg,<- hW1];clear hg hW1;have q0:=HFV.out.blk.cell 0;have q1:=HFV.out.blk.cell 1;have q2:=HFV.out.blk.cell 2;have q3:=HFV.out.blk.cell 3;simp at q0 q1 q2 q3;go_wp2_with (go_at_call 113;refine(HW0.out _ _ HFV.out.fb (by omega)).mono ?_;rintro e w3 ⟨rfl,h3⟩;have HT3:=kf h3;clear h3);go_end0;exact⟨rfl,HFV.out.end_ HT3.out⟩
theorem y79 {V w W:World} {R:Nat} {out:List Nat} (h:FB V w W R out) (hL:LibOk w) (s:ByteArray) (A:Option Addr) (len cap:Nat) (hl:out.length+([116,114,117,101]).length<=400000) :
  Calls Tryz.prog 92 #[.pointer (some ⟨R,0,none⟩),.agg #[.int .i64 1,.int .i64 1,.string s,.slice A len cap]] W fun e W'=>e=.returned (.tuple #[])/\FB V w W' R (out++([116,114,117,101])):=by
 have HLib:=kf hL;have HFV:=kf (FV.of h 1 1 s A len cap);obtain⟨W1,hW1⟩:∃ W1,W1=W.alloc (.cells #[.int .i64 1,.int .i64 1,.string s,.slice A len cap] 24):=⟨_,rfl⟩
 obtain⟨g,hg⟩:∃ g,g=W.heap.size:=⟨_,rfl⟩
 rw [<- hW1,<- hg] at HFV;have HW0:=kf (fun X o (hX:FB W1 w X R o) (ho:o.length<=1000000)=>(show Calls Tryz.prog 113 #[.pointer (some ⟨R,0,none⟩),.string ⟨#[116,114,117,101]⟩] X fun e W'=>e=.returned (.tuple #[.int .i64 (4:Nat),.nilIface])/\FB W1 w W' R (o++[116,114,117,101]) from z17 hX [116,114,117,101] (by decide) ho (by decide)));have HFM:=kf (fun X=>(show Calls Tryz.prog 114 #[.bool true] X fun e w'=>e=.returned (.string ⟨#[116,114,117,101]⟩)/\w'=X from by have h1:=Go.Proofs.Tryz.strconv_FormatBool true X;rw [v58] at h1;exact h1));clear h hL;go_enter Tryz.func92,Tryz.ntmps92;go_upto_region 1 with fail;rw [<- hg,<- hW1];clear hg hW1;have q0:=HFV.out.blk.cell 0;have q1:=HFV.out.blk.cell 1;have q2:=HFV.out.blk.cell 2;have q3:=HFV.out.blk.cell 3;simp at q0 q1 q2 q3;go_upto_region 5 with fail
 first
  |(go_loud (go_region_held3 (fun w'=>w'.cell? ⟨g,1,none⟩=some (.int .i64 1))
    (first|(go_keep;done)|assumption)
    (first
     |(go_at_call 114;refine(HFM.out _).mono ?_;rintro e w5 ⟨rfl,rfl⟩)
     |(go_at_call 113;refine(HW0.out _ _ HFV.out.fb.drew (by omega)).mono ?_;rintro e w3 ⟨rfl,h3⟩;have hb3:=HFV.out.at_ h3;have d1:=hb3.cell 1;simp at d1;have HT3:=kf h3;clear h3 hb3))))
  |fail "region"
 go_wp2_with fail;go_end0;exact⟨rfl,HFV.out.end_ HT3.out⟩
theorem y4i {V w W:World} {R:Nat} {out:List Nat} (h:FB V w W R out) (hL:LibOk w) (s:ByteArray) (A:Option Addr) (len cap:Nat) (hl:out.length+([102,97,108,115,101]).length<=400000) :
  Calls Tryz.prog 92 #[.pointer (some ⟨R,0,none⟩),.agg #[.int .i64 1,.int .i64 0,.string s,.slice A len cap]] W fun e W'=>e=.returned (.tuple #[])/\FB V w W' R (out++([102,97,108,115,101])):=by
 have HLib:=kf hL;have HFV:=kf (FV.of h 1 0 s A len cap);obtain⟨W1,hW1⟩:∃ W1,W1=W.alloc (.cells #[.int .i64 1,.int .i64 0,.string s,.slice A len cap] 24):=⟨_,rfl⟩
 obtain⟨g,hg⟩:∃ g,g=W.heap.size:=⟨_,rfl⟩
 rw [<- hW1,<- hg] at HFV;have HW0:=kf (fun X o (hX:FB W1 w X R o) (ho:o.length<=1000000)=>(show Calls Tryz.prog 113 #[.pointer (some ⟨R,0,none⟩),.string ⟨#[102,97,108,115,101]⟩] X fun e W'=>e=.returned (.tuple #[.int .i64 (5:Nat),.nilIface])/\FB W1 w W' R (o++[102,97,108,115,101]) from z17 hX [102,97,108,115,101] (by decide) ho (by decide)));have HFM:=kf (fun X=>(show Calls Tryz.prog 114 #[.bool false] X fun e w'=>e=.returned (.string ⟨#[102,97,108,115,101]⟩)/\w'=X from by have h1:=Go.Proofs.Tryz.strconv_FormatBool false X;rw [v1d] at h1;exact h1));clear h hL;go_enter Tryz.func92,Tryz.ntmps92;go_upto_region 1 with fail;rw [<- hg,<- hW1];clear hg hW1;have q0:=HFV.out.blk.cell 0;have q1:=HFV.out.blk.cell 1;have q2:=HFV.out.blk.cell 2;have q3:=HFV.out.blk.cell 3;simp at q0 q1 q2 q3;go_upto_region 5 with fail
 first
  |(go_loud (go_region_held3 (fun w'=>w'.cell? ⟨g,1,none⟩=some (.int .i64 0))
    (first|(go_keep;done)|assumption)
    (first
     |(go_at_call 114;refine(HFM.out _).mono ?_;rintro e w5 ⟨rfl,rfl⟩)
     |(go_at_call 113;refine(HW0.out _ _ HFV.out.fb.drew (by omega)).mono ?_;rintro e w3 ⟨rfl,h3⟩;have hb3:=HFV.out.at_ h3;have d1:=hb3.cell 1;simp at d1;have HT3:=kf h3;clear h3 hb3))))
  |fail "region"
 go_wp2_with fail;go_end0;exact⟨rfl,HFV.out.end_ HT3.out⟩
theorem v0u {V w W:World} {R:Nat} {out:List Nat} (h:FB V w W R out) (hL:LibOk w) (n:Int) (s:ByteArray) (A:Option Addr) (len cap:Nat) (hc:z0h 2 n s.size len=0) (hl:out.length+(y1l 2 n).length<=400000) :
  Calls Tryz.prog 92 #[.pointer (some ⟨R,0,none⟩),.agg #[.int .i64 2,.int .i64 n,.string s,.slice A len cap]] W fun e W'=>e=.returned (.tuple #[])/\FB V w W' R (out++(y1l 2 n)):=by
 have HLib:=kf hL;have HFV:=kf (FV.of h 2 n s A len cap);obtain⟨W1,hW1⟩:∃ W1,W1=W.alloc (.cells #[.int .i64 2,.int .i64 n,.string s,.slice A len cap] 24):=⟨_,rfl⟩
 obtain⟨g,hg⟩:∃ g,g=W.heap.size:=⟨_,rfl⟩
 rw [<- hW1,<- hg] at HFV;have HN:=kf (fun X (hX:FB W1 w X R out)=>z90 hX HLib.out 2 n s A len cap hc hl);clear hc;clear h hL;go_enter Tryz.func92,Tryz.ntmps92;go_upto_region 1 with fail;rw [<- hg,<- hW1];clear hg hW1;have q0:=HFV.out.blk.cell 0;have q1:=HFV.out.blk.cell 1;have q2:=HFV.out.blk.cell 2;have q3:=HFV.out.blk.cell 3;simp at q0 q1 q2 q3;go_wp2_with (go_at_call 115;refine(HN.out _ HFV.out.fb).mono ?_;rintro e w3 ⟨rfl,h3⟩;have HT3:=kf h3;clear h3);go_end0;exact⟨rfl,HFV.out.end_ HT3.out⟩
theorem y7b {V w W:World} {R:Nat} {out:List Nat} (h:FB V w W R out) (hL:LibOk w) (n:Int) (s:ByteArray) (A:Option Addr) (len cap:Nat) (hc:z0h 3 n s.size len=0) (hl:out.length+(y1l 3 n).length<=400000) :
  Calls Tryz.prog 92 #[.pointer (some ⟨R,0,none⟩),.agg #[.int .i64 3,.int .i64 n,.string s,.slice A len cap]] W fun e W'=>e=.returned (.tuple #[])/\FB V w W' R (out++(y1l 3 n)):=by
 have HLib:=kf hL;have HFV:=kf (FV.of h 3 n s A len cap);obtain⟨W1,hW1⟩:∃ W1,W1=W.alloc (.cells #[.int .i64 3,.int .i64 n,.string s,.slice A len cap] 24):=⟨_,rfl⟩
 obtain⟨g,hg⟩:∃ g,g=W.heap.size:=⟨_,rfl⟩
 rw [<- hW1,<- hg] at HFV;have HN:=kf (fun X (hX:FB W1 w X R out)=>z90 hX HLib.out 3 n s A len cap hc hl);clear hc;clear h hL;go_enter Tryz.func92,Tryz.ntmps92;go_upto_region 1 with fail;rw [<- hg,<- hW1];clear hg hW1;have q0:=HFV.out.blk.cell 0;have q1:=HFV.out.blk.cell 1;have q2:=HFV.out.blk.cell 2;have q3:=HFV.out.blk.cell 3;simp at q0 q1 q2 q3;go_wp2_with (go_at_call 115;refine(HN.out _ HFV.out.fb).mono ?_;rintro e w3 ⟨rfl,h3⟩;have HT3:=kf h3;clear h3);go_end0;exact⟨rfl,HFV.out.end_ HT3.out⟩
theorem y7a {V w W:World} {R:Nat} {out:List Nat} (h:FB V w W R out) (hL:LibOk w) (n:Int) (s:ByteArray) (A:Option Addr) (len cap:Nat) (hl:out.length+(txF (sl s)).length<=400000) :
  Calls Tryz.prog 92 #[.pointer (some ⟨R,0,none⟩),.agg #[.int .i64 4,.int .i64 n,.string s,.slice A len cap]] W fun e W'=>e=.returned (.tuple #[])/\FB V w W' R (out++(txF (sl s))):=by
 have HLib:=kf hL;have HFV:=kf (FV.of h 4 n s A len cap);obtain⟨W1,hW1⟩:∃ W1,W1=W.alloc (.cells #[.int .i64 4,.int .i64 n,.string s,.slice A len cap] 24):=⟨_,rfl⟩
 obtain⟨g,hg⟩:∃ g,g=W.heap.size:=⟨_,rfl⟩
 rw [<- hW1,<- hg] at HFV;have HN:=kf (fun X (hX:FB W1 w X R out)=>y7f hX s hl);clear h hL;go_enter Tryz.func92,Tryz.ntmps92;go_upto_region 1 with fail;rw [<- hg,<- hW1];clear hg hW1;have q0:=HFV.out.blk.cell 0;have q1:=HFV.out.blk.cell 1;have q2:=HFV.out.blk.cell 2;have q3:=HFV.out.blk.cell 3;simp at q0 q1 q2 q3;go_wp2_with (go_at_call 116;refine(HN.out _ HFV.out.fb).mono ?_;rintro e w3 ⟨rfl,h3⟩;have HT3:=kf h3;clear h3);go_end0;exact⟨rfl,HFV.out.end_ HT3.out⟩
theorem y7d {V w W:World} {R:Nat} {out:List Nat} (h:FB V w W R out) (hL:LibOk w) (n:Int) (s:ByteArray) (A:Option Addr) (len cap:Nat) (hl:out.length+(nmF (sl s)).length<=400000) :
  Calls Tryz.prog 92 #[.pointer (some ⟨R,0,none⟩),.agg #[.int .i64 5,.int .i64 n,.string s,.slice A len cap]] W fun e W'=>e=.returned (.tuple #[])/\FB V w W' R (out++(nmF (sl s))):=by
 have HLib:=kf hL;have HFV:=kf (FV.of h 5 n s A len cap);obtain⟨W1,hW1⟩:∃ W1,W1=W.alloc (.cells #[.int .i64 5,.int .i64 n,.string s,.slice A len cap] 24):=⟨_,rfl⟩
 obtain⟨g,hg⟩:∃ g,g=W.heap.size:=⟨_,rfl⟩
 rw [<- hW1,<- hg] at HFV;have HN:=kf (fun X (hX:FB W1 w X R out)=>y7l hX s hl);clear h hL;go_enter Tryz.func92,Tryz.ntmps92;go_upto_region 1 with fail;rw [<- hg,<- hW1];clear hg hW1;have q0:=HFV.out.blk.cell 0;have q1:=HFV.out.blk.cell 1;have q2:=HFV.out.blk.cell 2;have q3:=HFV.out.blk.cell 3;simp at q0 q1 q2 q3;go_wp2_with (go_at_call 117;refine(HN.out _ HFV.out.fb).mono ?_;rintro e w3 ⟨rfl,h3⟩;have HT3:=kf h3;clear h3);go_end0;exact⟨rfl,HFV.out.end_ HT3.out⟩
theorem y4j {V w W:World} {R:Nat} {out:List Nat} (h:FB V w W R out) (hL:LibOk w) (n:Int) (s:ByteArray) (A:Option Addr) (len cap:Nat) (l:List VT) (hP:∀ t∈l,PV t) (hll:l.length=len) (hr:RowIs w A 0 l) (hm:len<=9223372036854775807) (hl:out.length+([91]++z0z 0 l++[93]).length<=400000) :
  Calls Tryz.prog 92 #[.pointer (some ⟨R,0,none⟩),.agg #[.int .i64 6,.int .i64 n,.string s,.slice A len cap]] W fun e W'=>e=.returned (.tuple #[])/\FB V w W' R (out++([91]++z0z 0 l++[93])):=by
 have HLib:=kf hL;have HFV:=kf (FV.of h 6 n s A len cap);obtain⟨W1,hW1⟩:∃ W1,W1=W.alloc (.cells #[.int .i64 6,.int .i64 n,.string s,.slice A len cap] 24):=⟨_,rfl⟩
 obtain⟨g,hg⟩:∃ g,g=W.heap.size:=⟨_,rfl⟩
 rw [<- hW1,<- hg] at HFV;have HW0:=kf (fun X o (hX:FB W1 w X R o) (ho:o.length<=1000000)=>(show Calls Tryz.prog 113 #[.pointer (some ⟨R,0,none⟩),.string ⟨#[91]⟩] X fun e W'=>e=.returned (.tuple #[.int .i64 (1:Nat),.nilIface])/\FB W1 w W' R (o++[91]) from z17 hX [91] (by decide) ho (by decide)));have HW1:=kf (fun X o (hX:FB W1 w X R o) (ho:o.length<=1000000)=>(show Calls Tryz.prog 113 #[.pointer (some ⟨R,0,none⟩),.string ⟨#[93]⟩] X fun e W'=>e=.returned (.tuple #[.int .i64 (1:Nat),.nilIface])/\FB W1 w W' R (o++[93]) from z17 hX [93] (by decide) ho (by decide)));have hl2:(out++[91]).length+(z0z 0 l).length<=400000:=by simp only [List.length_append,List.length_cons,List.length_nil] at hl ⊢;omega
 have hl3:(out++[91]++z0z 0 l).length<=1000000:=by rw [List.length_append];omega
 have HLS:=kf (fun X (hX:FB W1 w X R (out++[91]))=>y0p l hP A len cap HLib.out hll hr hm hX hl2);have HE:=kf (show out++([91]++z0z 0 l++[93])=out++[91]++z0z 0 l++[93] from by simp only [List.append_assoc]);clear hP hll hr;clear h hL;go_enter Tryz.func92,Tryz.ntmps92;go_upto_region 1 with fail;rw [<- hg,<- hW1];clear hg hW1;have q0:=HFV.out.blk.cell 0;have q1:=HFV.out.blk.cell 1;have q2:=HFV.out.blk.cell 2;have q3:=HFV.out.blk.cell 3;simp at q0 q1 q2 q3;go_upto_region 15 with(go_at_call 113;refine(HW0.out _ _ HFV.out.fb (by omega)).mono ?_;rintro e w2 ⟨rfl,h2⟩;have HT2:=kf h2;clear h2);have hb2:=HFV.out.at_ HT2.out;have p3:=hb2.cell 3;simp at p3;clear hb2;go_upto_region 16 with(go_at_call 118;refine(HLS.out _ HT2.out).mono ?_;rintro e w3 ⟨rfl,h3⟩;have HT3:=kf h3;clear h3);go_wp2_with (go_at_call 113;refine(HW1.out _ _ HT3.out hl3).mono ?_;rintro e w4 ⟨rfl,h4⟩;have HT4:=kf h4;clear h4);go_end0;exact⟨rfl,by have h5:=HFV.out.end_ HT4.out;rw [<- HE.out] at h5;exact h5⟩
theorem y7e {V w W:World} {R:Nat} {out:List Nat} (h:FB V w W R out) (hL:LibOk w) (n:Int) (s:ByteArray) (A:Option Addr) (len cap:Nat) (l:List VT) (hP:∀ t∈l,PV t) (hll:l.length=len) (hr:RowIs w A 0 l) (hm:len<=9223372036854775807) (hl:out.length+([60,60]++z0z 0 l++[62,62]).length<=400000) :
  Calls Tryz.prog 92 #[.pointer (some ⟨R,0,none⟩),.agg #[.int .i64 7,.int .i64 n,.string s,.slice A len cap]] W fun e W'=>e=.returned (.tuple #[])/\FB V w W' R (out++([60,60]++z0z 0 l++[62,62])):=by
 have HLib:=kf hL;have HFV:=kf (FV.of h 7 n s A len cap);obtain⟨W1,hW1⟩:∃ W1,W1=W.alloc (.cells #[.int .i64 7,.int .i64 n,.string s,.slice A len cap] 24):=⟨_,rfl⟩
 obtain⟨g,hg⟩:∃ g,g=W.heap.size:=⟨_,rfl⟩
 rw [<- hW1,<- hg] at HFV;have HW0:=kf (fun X o (hX:FB W1 w X R o) (ho:o.length<=1000000)=>(show Calls Tryz.prog 113 #[.pointer (some ⟨R,0,none⟩),.string ⟨#[60,60]⟩] X fun e W'=>e=.returned (.tuple #[.int .i64 (2:Nat),.nilIface])/\FB W1 w W' R (o++[60,60]) from z17 hX [60,60] (by decide) ho (by decide)));have HW1:=kf (fun X o (hX:FB W1 w X R o) (ho:o.length<=1000000)=>(show Calls Tryz.prog 113 #[.pointer (some ⟨R,0,none⟩),.string ⟨#[62,62]⟩] X fun e W'=>e=.returned (.tuple #[.int .i64 (2:Nat),.nilIface])/\FB W1 w W' R (o++[62,62]) from z17 hX [62,62] (by decide) ho (by decide)));have hl2:(out++[60,60]).length+(z0z 0 l).length<=400000:=by simp only [List.length_append,List.length_cons,List.length_nil] at hl ⊢;omega
 have hl3:(out++[60,60]++z0z 0 l).length<=1000000:=by rw [List.length_append];omega
 have HLS:=kf (fun X (hX:FB W1 w X R (out++[60,60]))=>y0p l hP A len cap HLib.out hll hr hm hX hl2);have HE:=kf (show out++([60,60]++z0z 0 l++[62,62])=out++[60,60]++z0z 0 l++[62,62] from by simp only [List.append_assoc]);clear hP hll hr;clear h hL;go_enter Tryz.func92,Tryz.ntmps92;go_upto_region 1 with fail;rw [<- hg,<- hW1];clear hg hW1;have q0:=HFV.out.blk.cell 0;have q1:=HFV.out.blk.cell 1;have q2:=HFV.out.blk.cell 2;have q3:=HFV.out.blk.cell 3;simp at q0 q1 q2 q3;go_upto_region 19 with(go_at_call 113;refine(HW0.out _ _ HFV.out.fb (by omega)).mono ?_;rintro e w2 ⟨rfl,h2⟩;have HT2:=kf h2;clear h2);have hb2:=HFV.out.at_ HT2.out;have p3:=hb2.cell 3;simp at p3;clear hb2;go_upto_region 20 with(go_at_call 118;refine(HLS.out _ HT2.out).mono ?_;rintro e w3 ⟨rfl,h3⟩;have HT3:=kf h3;clear h3);go_wp2_with (go_at_call 113;refine(HW1.out _ _ HT3.out hl3).mono ?_;rintro e w4 ⟨rfl,h4⟩;have HT4:=kf h4;clear h4);go_end0;exact⟨rfl,by have h5:=HFV.out.end_ HT4.out;rw [<- HE.out] at h5;exact h5⟩
theorem v0t {V w W:World} {R:Nat} {out:List Nat} (h:FB V w W R out) (hL:LibOk w) (n:Int) (s:ByteArray) (A:Option Addr) (len cap:Nat) (hn1:1<=n) (hn2:n<=4096) (hl:out.length+(z1g n++[32,48,32,82]).length<=400000) :
  Calls Tryz.prog 92 #[.pointer (some ⟨R,0,none⟩),.agg #[.int .i64 8,.int .i64 n,.string s,.slice A len cap]] W fun e W'=>e=.returned (.tuple #[])/\FB V w W' R (out++(z1g n++[32,48,32,82])):=by
 have HLib:=kf hL;have HFV:=kf (FV.of h 8 n s A len cap);obtain⟨W1,hW1⟩:∃ W1,W1=W.alloc (.cells #[.int .i64 8,.int .i64 n,.string s,.slice A len cap] 24):=⟨_,rfl⟩
 obtain⟨g,hg⟩:∃ g,g=W.heap.size:=⟨_,rfl⟩
 rw [<- hW1,<- hg] at HFV;have HW0:=kf (fun X o (hX:FB W1 w X R o) (ho:o.length<=1000000)=>(show Calls Tryz.prog 113 #[.pointer (some ⟨R,0,none⟩),.string ⟨#[32,48,32,82]⟩] X fun e W'=>e=.returned (.tuple #[.int .i64 (4:Nat),.nilIface])/\FB W1 w W' R (o++[32,48,32,82]) from z17 hX [32,48,32,82] (by decide) ho (by decide)));have hl2:out.length+(y1l 2 n).length<=400000:=by rw [List.length_append] at hl;show out.length+(z1g n).length<=_;omega
 have hl3:(out++y1l 2 n).length<=1000000:=by rw [List.length_append];omega
 have HN:=kf (fun X (hX:FB W1 w X R out)=>z90 hX HLib.out 2 n ⟨#[]⟩ none 0 0 (by unfold z0h;rw [if_pos ⟨rfl,rfl,.inl ⟨rfl,by omega,by omega⟩⟩]) hl2);have HIO:=kf (fun X=>z6v n X);have HE:=kf (show out++(z1g n++[32,48,32,82])=out++y1l 2 n++[32,48,32,82] from by rw [List.append_assoc];rfl);clear hn1 hn2;clear h hL;go_enter Tryz.func92,Tryz.ntmps92;go_upto_region 1 with fail;rw [<- hg,<- hW1];clear hg hW1;have q0:=HFV.out.blk.cell 0;have q1:=HFV.out.blk.cell 1;have q2:=HFV.out.blk.cell 2;have q3:=HFV.out.blk.cell 3;simp at q0 q1 q2 q3
 go_upto_region 23 with first
  |(go_at_call 15;refine(HIO.out _).mono ?_;rintro e w2 ⟨rfl,h2⟩;have HT2:=kf (HFV.out.fb.call h2);clear h2)
  |(go_at_call 115;refine(HN.out _ HT2.out).mono ?_;rintro e w3 ⟨rfl,h3⟩;have HT3:=kf h3;clear h3)
 go_wp2_with (go_at_call 113;refine(HW0.out _ _ HT3.out hl3).mono ?_;rintro e w4 ⟨rfl,h4⟩;have HT4:=kf h4;clear h4);go_end0;exact⟨rfl,by have h5:=HFV.out.end_ HT4.out;rw [<- HE.out] at h5;exact h5⟩
theorem v71:∀ (N:Nat) (t:VT),z1h t<=N->z0e t=0->PV t:=by
 intro N;induction N using Nat.strongRecOn with
 |_ N ih =>
  intro t hN hf c V w W R out hL hv h hl;obtain⟨k,n,s,l⟩:=t;rw [z0f] at hN;obtain⟨ck,cn,cs,A,len,cap⟩:=c;obtain⟨e1,e2,e3,hg,hll,hr⟩:=hv.inv;simp only [] at e1 e2 e3 hll hr;subst e1 e2 e3;have hlm:=hg.len;simp only [] at hlm;unfold maxLen at hlm
  have hin:ck=6\/ck=7->∀ x∈l,PV x:=fun hk x hx=>by
   have hfx:=v12 hk hf x hx;obtain⟨i,hi,rfl⟩:=List.mem_iff_getElem.1 hx;have:=z2u (List.getElem?_eq_getElem hi);exact ih (N-1) (by omega) _ (by omega) hfx
  have ho:=y2x hf;unfold VC.val;simp only [];rcases v4r ho with rfl|rfl|rfl|rfl|rfl|rfl|rfl|rfl|rfl
  ·rw [v7w] at hl ⊢;exact y7c h hL cn cs A len cap hl
  ·rw [z4o] at ho;split at ho
   ·next hh =>
    rcases hh.2.2 with rfl|rfl
    ·rw [v2q,if_neg (by decide)] at hl ⊢;exact y4i h hL cs A len cap hl
    ·rw [v2q,if_pos rfl] at hl ⊢;exact y79 h hL cs A len cap hl
   ·cases ho
  ·rw [y0d,hll] at ho;rw [y7j] at hl ⊢;exact v0u h hL cn cs A len cap ho hl
  ·rw [y1h,hll] at ho;rw [v7v] at hl ⊢;exact y7b h hL cn cs A len cap ho hl
  ·rw [v7u] at hl ⊢;exact y7a h hL cn cs A len cap hl
  ·rw [v7t] at hl ⊢;exact y7d h hL cn cs A len cap hl
  ·have e:z0u (.mk 6 cn cs l)=[91]++z0z 0 l++[93]:=by rw [v7s];rfl
   rw [e] at hl ⊢;exact y4j h hL cn cs A len cap l (hin (.inl rfl)) hll hr hlm hl
  ·have e:z0u (.mk 7 cn cs l)=[60,60]++z0z 0 l++[62,62]:=by rw [v7r];rfl
   rw [e] at hl ⊢;exact y7e h hL cn cs A len cap l (hin (.inr rfl)) hll hr hlm hl
  ·rw [z5f] at ho;split at ho
   ·next hh =>
    rw [v7q] at hl ⊢;exact v0t h hL cn cs A len cap hh.2.2.1 hh.2.2.2 hl
   ·cases ho
theorem v7b {s:List Nat} (h:∀ c∈s,c<256):∀ d∈nmF s,d<256:=by
 intro d hd;rw [nmF] at hd;rcases List.mem_cons.1 hd with rfl|hd
 ·decide
 induction s with
 |nil=>cases hd
 |cons c s ih =>
  rw [nmL] at hd;rcases List.mem_append.1 hd with h1|h1
  ·have hc:=h c (List.mem_cons_self ..);unfold nmC at h1;split at h1
   ·rw [List.mem_singleton] at h1;omega
   ·rcases List.mem_cons.1 h1 with rfl|h1
    ·decide
    ·exact y76 hc d h1
  ·exact ih (fun x hx=>h x (List.mem_cons_of_mem _ hx)) (List.mem_cons_of_mem _ h1) h1
theorem v7z {s:List Nat} (h:∀ c∈s,c<256):∀ d∈esL s,d<256:=by
 intro d hd;induction s with
 |nil=>cases hd
 |cons c s ih =>
  rw [esL] at hd;rcases List.mem_append.1 hd with h1|h1
  ·exact v81 (h c (List.mem_cons_self ..)) d h1
  ·exact ih (fun x hx=>h x (List.mem_cons_of_mem _ hx)) h1
theorem v7j {s:List Nat} (h:∀ c∈s,c<256):∀ d∈hxL s,d<256:=by
 intro d hd;induction s with
 |nil=>cases hd
 |cons c s ih =>
  rw [hxL] at hd;rcases List.mem_append.1 hd with h1|h1
  ·exact y76 (h c (List.mem_cons_self ..)) d h1
  ·exact ih (fun x hx=>h x (List.mem_cons_of_mem _ hx)) h1
theorem v6g {s:List Nat} (h:∀ c∈s,c<256):∀ d∈txF s,d<256:=by
 intro d hd;unfold txF at hd;split at hd
 ·rcases List.mem_cons.1 hd with rfl|hd
  ·decide
  rcases List.mem_append.1 hd with h1|h1
  ·exact v7z h d h1
  ·rw [List.mem_singleton] at h1;omega
 ·rcases List.mem_cons.1 hd with rfl|hd
  ·decide
  rcases List.mem_append.1 hd with h1|h1
  ·exact v7j h d h1
  ·rw [List.mem_singleton] at h1;omega
mutual
theorem y7i:∀ (t:VT),∀ d∈z0u t,d<256
 |.mk k n s l=>by
  intro d hd;have h32:∀ (x:List Nat),(∀ y∈x,y<256)->d∈x->d<256:=fun x hx hd=>hx d hd;rw [z0u] at hd;split at hd
  ·exact h32 _ (by decide) hd
  split at hd
  ·split at hd
   ·exact h32 _ (by decide) hd
   ·exact h32 _ (by decide) hd
  split at hd
  ·exact y0g (v4v n) d hd
  split at hd
  ·exact y0g (v2i n) d hd
  split at hd
  ·exact v6g (y9a s) d hd
  split at hd
  ·exact v7b (y9a s) d hd
  split at hd
  ·rcases List.mem_append.1 hd with hd|hd
   ·exact y0g (v4v n) d hd
   ·exact h32 _ (by decide) hd
  split at hd
  ·rcases List.mem_cons.1 hd with rfl|hd
   ·decide
   rcases List.mem_append.1 hd with hd|hd
   ·exact z8z 0 l d hd
   ·exact h32 _ (by decide) hd
  ·rcases List.mem_cons.1 hd with rfl|hd
   ·decide
   rcases List.mem_cons.1 hd with rfl|hd
   ·decide
   rcases List.mem_append.1 hd with hd|hd
   ·exact z8z 0 l d hd
   ·exact h32 _ (by decide) hd
theorem z8z:∀ (j:Nat) (l:List VT),∀ d∈z0z j l,d<256
 |j,[]=>fun d hd=>by rw [z4v] at hd;cases hd
 |j,t::l=>fun d hd=>by
  rw [z3r] at hd;rcases List.mem_append.1 hd with hd|hd
  ·have:=List.eq_of_mem_replicate hd;omega
  rcases List.mem_append.1 hd with hd|hd
  ·exact y7i t d hd
  ·exact z8z 1 l d hd
end
noncomputable def z5z (t:VT):List Nat:=if z0w t=0 then z0u t else []
theorem v0z {t:VT} (h:z0w t=0):z0e t=0:=by
 unfold z0w at h;split at h
 ·cases h
 ·exact h
theorem y9f (t:VT) (c:VC) (w:World) (hL:LibOk w) (hv:ValIs w t c) (hs:z1h t<=1000000) (hl:z0w t=0->(z0u t).length<=400000) :
  Calls Tryz.prog 69 #[c.val] w fun e w'=>e=.returned (.tuple #[.string (sb (z5z t)),.int .i64 (z0w t)])/\Chg NoS w w':=by
 have HLib:=kf hL;have HV:=kf hv;have HCK:=kf (fun X (hX:Chg NoS w X)=>z78 t c X (hv.chg hX) hs);have HFV:=kf (fun(hf:z0e t=0) X R (hX:FB w w X R []) (h2:([]:List Nat).length+(z0u t).length<=400000)=>v71 _ t (Nat.le_refl _) hf c w w X R [] hL hv hX h2);have HSH:=kf (show z5z t=if z0w t=0 then z0u t else [] from rfl);obtain⟨ck,cn,cs,A,len,cap⟩:=c;unfold VC.val at HCK HFV ⊢;simp only [] at HCK HFV ⊢;have HB:=kf (Blk.new w 24 #[.int .i64 ck,.int .i64 cn,.string cs,.slice A len cap]);have HC0:=kf ((Chg.refl NoS w).alloc (.cells #[.int .i64 ck,.int .i64 cn,.string cs,.slice A len cap] 24));obtain⟨W1,hW1⟩:∃ W1,W1=w.alloc (.cells #[.int .i64 ck,.int .i64 cn,.string cs,.slice A len cap] 24):=⟨_,rfl⟩
 obtain⟨g,hg⟩:∃ g,g=w.heap.size:=⟨_,rfl⟩
 rw [<- hW1] at HB HC0;rw [<- hg] at HB;obtain⟨z,hz⟩:∃ z,z=z0w t:=⟨_,rfl⟩
 rw [<- hz] at HCK HSH hl ⊢;have HZ:=kf hz;clear hL hv hz;by_cases h0:z=0
 ·subst h0;have hlen:=hl rfl;have HE:=kf (show z5z t=z0u t from by rw [HSH.out,if_pos rfl]);have hf:=v0z HZ.out.symm;have HFF:=kf (HFV.out hf);have HLT:=kf (y7i t);clear hl hf HSH;go_enter Tryz.func69,Tryz.ntmps69;go_upto_region 1 with fail;rw [<- hg,<- hW1];clear hg hW1;have q0:=HB.out.cell 0;have q1:=HB.out.cell 1;have q2:=HB.out.cell 2;have q3:=HB.out.cell 3;simp at q0 q1 q2 q3;go_upto_region 4 with(go_at_call 18;refine(HCK.out _ HC0.out).mono ?_;rintro e w2 ⟨rfl,h2⟩;have HC2:=kf (HC0.out.trans h2 (fun _ _ e=>e));have HB2:=kf (HB.out.chg h2 (fun h=>h));clear h2);have HST:=kf (FB.start w w2 HC2.out);have HB3:=kf (HB2.out.alloc (.cells #[.pointer none,.slice none 0 0] 132));obtain⟨W3,hW3⟩:∃ W3,W3=w2.alloc (.cells #[.pointer none,.slice none 0 0] 132):=⟨_,rfl⟩
  obtain⟨R,hR⟩:∃ R,R=w2.heap.size:=⟨_,rfl⟩
  rw [<- hW3] at HST HB3;rw [<- hR] at HST;clear q0 q1 q2 q3;go_upto_region 5 with fail;rw [<- hW3,<- hR];clear hW3 hR;have q0:=HB3.out.cell 0;have q1:=HB3.out.cell 1;have q2:=HB3.out.cell 2;have q3:=HB3.out.cell 3;simp at q0 q1 q2 q3
  go_wp2_with first
   |(go_at_call 92;refine(HFF.out _ _ HST.out (by simpa using hlen)).mono ?_;rintro e w4 ⟨rfl,h4⟩;have HF4:=kf h4;clear h4)
   |(go_at_call 93;refine(y0n HF4.out (by rw [List.nil_append];exact HLT.out) (by rw [List.nil_append];omega)).mono ?_;rintro e w5 ⟨rfl,h5⟩;have HC5:=kf h5;clear h5)
  go_ret2;exact⟨by rw [HE.out];rfl,HC5.out⟩
 ·have HE:=kf (show z5z t=[] from by rw [HSH.out,if_neg h0]);have d0:(z==0)=false:=by simpa using h0
  have d0':(z != 0)=true:=by simpa using h0
  clear hl h0 HSH HFV;go_enter Tryz.func69,Tryz.ntmps69;go_upto_region 1 with fail;rw [<- hg,<- hW1];clear hg hW1;have q0:=HB.out.cell 0;have q1:=HB.out.cell 1;have q2:=HB.out.cell 2;have q3:=HB.out.cell 3;simp at q0 q1 q2 q3;go_wp2_with (go_at_call 18;refine(HCK.out _ HC0.out).mono ?_;rintro e w2 ⟨rfl,h2⟩;have HC2:=kf (HC0.out.trans h2 (fun _ _ e=>e));clear h2);go_ret2;exact⟨by rw [HE.out];rfl,HC2.out⟩
structure LB (w0:World) (b:Nat) (out:List UInt8) (W:World):Prop where
 buf:LibA.IsBuffer 53 (fun _=>none) 5 w0.heap.size b 0 (Lib.byteCells out) W
 bel:Below w0.heap.size w0 W
theorem LB.call {w0 W W':World} {b:Nat} {out:List UInt8} (h:LB w0 b out W) (hc:Chg NoS W W'):LB w0 b out W' :=
 ⟨h.buf.old hc.no_below,h.bel.trans (hc.below h.bel.size (fun _ _ e=>e))⟩
theorem LB.chg {w0 W:World} {b:Nat} {out:List UInt8} (h:LB w0 b out W):Chg NoS w0 W:=Chg.of_below h.bel
theorem LB.start (w0 W:World) (hc:Chg NoS w0 W):LB w0 W.heap.size [] (W.alloc (.cells #[.slice none 0 0,.int .i64 0,.int .i8 0] 53)) :=
 ⟨LibA.zero_isBuffer hc.size (LibA.three_whole (Blk.new W _ _)),(hc.alloc _).no_below⟩
abbrev KO (b:Nat) (W W':World):Prop:=Lib.OthersKept 5 (some b) W W'
theorem KO.blk {b g:Nat} {W W':World} {t:TypeId} {cs:Array Value} (h:KO b W W') (hb:Blk W g t cs) (hne:g≠b) (ht:t≠5):Blk W' g t cs :=
 h g _ hb (fun e=>hne (Option.some.inj e)) (fun c fz e=>by injection e with _ e2 _;exact ht e2)
theorem KO.of {b:Nat} {W W':World} (h:Chg NoS W W'):KO b W W':=fun k o hk _ _=>(h.block k (Array.getElem?_eq_some_iff.1 hk).1 (fun e=>e)).trans hk
theorem KO.tr {b:Nat} {a c d:World} (h:KO b a c) (k:KO b c d):KO b a d:=Lib.OthersKept.trans h k
def txA (ss:List ByteArray):List UInt8:=ss.flatMap fun s=>s.data.toList
theorem y7m {w0 W:World} {b G m:Nat} {out:List UInt8} (ss:List ByteArray) (h:LB w0 b out W) (hG:Blk W G 9 (ss.map Value.string).toArray) (hm:m=ss.length) (hlim:out.length+(txA ss).length+1<=1000000) (hm9:m<=1000) :
  Calls Tryz.prog 44 #[.pointer (some ⟨b,0,none⟩),.slice (some ⟨G,0,none⟩) m m] W fun e W'=>e=.returned (.tuple #[])/\LB w0 b (out++txA ss++[10]) W'/\KO b W W':=by
 have HGE:=kf (fun(k:Nat) (hk:k<m) W' (hb:Blk W' G 9 (ss.map Value.string).toArray)=>(show W'.cell? ⟨G,k,none⟩=some (.string (ss.getD k ⟨#[]⟩)) from by
  rw [hb.cell k];simp [List.getElem?_eq_getElem (show k<ss.length by omega),List.getD_eq_getElem?_getD]))
 have HNB:Hid (G≠b):=by
  show G≠b;intro e;obtain⟨_,v,lr,h3,_⟩:=h.buf;have h4:=h3.tag (e ▸ hG);exact absurd h4 (by decide)
 have HWS:=kf (fun W' (o:List UInt8) (s:ByteArray) (h2:LB w0 b o W') (hl:o.length+s.size<=1000000)=>(show Calls Tryz.prog 67 #[.pointer (some ⟨b,0,none⟩),.string s] W' fun e w'=>e=.returned (.tuple #[.int .i64 s.size,.nilIface])/\LB w0 b (o++s.data.toList) w'/\KO b W' w' from by
  refine(Tryz.Buffer_WriteString_at 53 (fun _=>none) w0.heap.size b 0 (Lib.byteCells o) s W' h2.buf h2.bel.size (Lib.byteCells_one _) (by rw [Lib.byteCells_length];omega)).mono ?_;rintro e w' ⟨rfl,h3,h4,h5⟩;rw [<- Lib.byteCells_append] at h3;exact⟨rfl,⟨h3,h2.bel.trans h4⟩,h5⟩))
 have HWB:=kf (fun W' (o:List UInt8) (h2:LB w0 b o W') (hl:o.length+1<=1000000)=>(show Calls Tryz.prog 68 #[.pointer (some ⟨b,0,none⟩),.int .u8 10] W' fun e w'=>e=.returned .nilIface/\LB w0 b (o++[10]) w'/\KO b W' w' from by
  refine(Tryz.Buffer_WriteByte_at 53 (fun _=>none) w0.heap.size b 0 (Lib.byteCells o) 10 W' h2.buf h2.bel.size (Lib.byteCells_one _) (by rw [Lib.byteCells_length];omega)).mono ?_;rintro e w' ⟨rfl,h3,h4,h5⟩;rw [show Lib.byteCells o++[Value.int .u8 10]=Lib.byteCells (o++[10]) from by simp [Lib.byteCells]] at h3;exact⟨rfl,⟨h3,h2.bel.trans h4⟩,h5⟩))
 have HTX:=kf (fun(k:Nat) (hk:k<m)=>(show txA (ss.take (k+1))=txA (ss.take k)++(ss.getD k ⟨#[]⟩).data.toList from by
  have hk':k<ss.length:=by omega
  unfold txA;rw [List.take_add_one,List.getElem?_eq_getElem hk',List.getD_eq_getElem?_getD,List.getElem?_eq_getElem hk',List.flatMap_append];simp only [Option.toList_some,Option.getD_some,List.flatMap_cons,List.flatMap_nil,List.append_nil]))
 have HTL:=kf (fun(k:Nat)=>(show(txA (ss.take k)).length<=(txA ss).length from by
  have e:txA ss=txA (ss.take k)++txA (ss.drop k):=by unfold txA;rw [<- List.flatMap_append,List.take_append_drop]
  rw [e,List.length_append];omega))
 have HTA:=kf (show txA (ss.take m)=txA ss from by rw [hm,List.take_length]);have HH:=kf h;have HG:=kf hG;have HLM:=kf hlim;have HSZ:=kf (fun(s:ByteArray)=>(show s.data.toList.length=s.size from Array.length_toList));clear h hG hlim hm;go_enter Tryz.func44,Tryz.ntmps44;go_upto_region 1 with fail;go_loopw [8] (fun vi wr=>∃ k:Nat,k<=m/\vi=.int .i64 (k:Nat)/\Hid (LB w0 b (out++txA (ss.take k)) wr)/\Hid (Blk wr G 9 (ss.map Value.string).toArray)/\Hid (KO b W wr)) (fun vi _=>m-(intOf vi).toNat)
 case atStart=>exact⟨0,by omega,by go_num,by rw [List.take_zero];show LB _ _ (out++[]) _;rw [List.append_nil];exact HH.out,HG.out,Lib.OthersKept.refl _ _ _⟩
 case round =>
  obtain⟨k,hk,rfl,HL,HB,HK⟩:=hrel;by_cases hlt:k<m
  ·have i1:(k:Int)<m:=by omega
   have c1:=HGE.out k hlt wr HB.out;have HT1:=kf (HTX.out k hlt);obtain⟨s,hs⟩:∃ s,s=ss.getD k ⟨#[]⟩:=⟨_,rfl⟩
   rw [<- hs] at c1 HT1;clear hs
   have HW1:=kf (HWS.out wr _ s HL.out (by
    have h1:=HTL.out (k+1);have h2:=HT1.out;have h3:=HLM.out;have h4:=HSZ.out s;rw [h2,List.length_append] at h1;rw [List.length_append];omega))
   go_wp2_with (go_at_call 67;refine HW1.out.mono ?_;rintro e w2 ⟨rfl,h2,h3⟩;have HL2:=kf h2;have HK2:=kf (KO.tr HK.out h3);have HB2:=kf (KO.blk h3 HB.out HNB.out (by decide));clear h2 h3);go_roundw
   case rel=>exact⟨k+1,by omega,by go_num,by rw [HT1.out,<- List.append_assoc];exact HL2.out,HB2.out,HK2.out⟩
   case measure=>simp [intOf];omega
  ·obtain rfl:k=m:=by omega
   have hl:=HL.out;rw [HTA.out] at hl;have HW2:=kf (HWB.out wr _ hl (by rw [List.length_append];have:=HLM.out;omega));clear hl;go_wp2_with (go_at_call 68;refine HW2.out.mono ?_;rintro e w2 ⟨rfl,h2,h3⟩;have HL2:=kf h2;have HK2:=kf (KO.tr HK.out h3);clear h2 h3);first|go_end0|go_ret|go_ret2
   exact⟨rfl,HL2.out,HK2.out⟩
theorem y0q (t:VT) (c:VC) (w:World) (hL:LibOk w) (hv:ValIs w t c) (hs:z1h t<=1000000) (hl:z0w t=0->(z0u t).length<=400000) :
  Calls Tryz.prog 45 #[c.val] w fun e w'=>e=.returned (.string (sb (z5z t)))/\Chg NoS w w':=by
 have HS:=kf (fun W (h:Chg NoS w W)=>y9f t c W (hL.chg h) (hv.chg h) hs hl);obtain⟨k,n,s,A,len,cap⟩:=c;unfold VC.val at HS ⊢;simp only [] at HS ⊢;have HB:=kf (Blk.new w 24 #[.int .i64 k,.int .i64 n,.string s,.slice A len cap]);have HC:=kf ((Chg.refl NoS w).alloc (.cells #[.int .i64 k,.int .i64 n,.string s,.slice A len cap] 24));obtain⟨W1,hW1⟩:∃ W1,W1=w.alloc (.cells #[.int .i64 k,.int .i64 n,.string s,.slice A len cap] 24):=⟨_,rfl⟩
 obtain⟨g,hg⟩:∃ g,g=w.heap.size:=⟨_,rfl⟩
 rw [<- hW1] at HB HC;rw [<- hg] at HB;clear hv hL hs hl;go_enter Tryz.func45,Tryz.ntmps45;go_upto_region 1 with fail;rw [<- hg,<- hW1];clear hg hW1;obtain⟨q0,q1,q2,q3,_,_,_,_⟩:=HB.out.cl4;go_wp2_with (go_at_call 69;refine(HS.out _ HC.out).mono ?_;rintro e w2 ⟨rfl,h2⟩;have HC2:=kf (HC.out.trans h2 (fun _ _ e=>e));clear h2);go_ret;exact⟨rfl,HC2.out⟩
section
variable {b:List Nat} {k:Nat} {last:Bool}
theorem v4m {bs:List Nat} {s:FS} (hs:z5r bs.length s):z5r bs.length (nlS bs last s):=by
 have h1:=y3m (last:=last) (n:=1) (by omega) hs;have h2:=y3m (last:=last) (n:=1) (by omega) h1
 have key:∀ (x:FS) (c:Bool),z5r bs.length x->z5r bs.length (x.1,z3i x.2 c):=fun x c hx=>by
  rcases hx with h|h
  ·left;rw [z7a h];exact h
  ·right;exact h
 unfold nlS;split
 ·exact key _ _ h2
 ·exact key _ _ h1
theorem v55 {t:VT} {e:Int} (h:e≠0):z7h t e=e:=by
 unfold z7h;rw [z7a h,z7a h,z7a h]
end
def wkB:List Nat:=[53,32,48,32,111,98,106,10,60,60,47,76,101,110,103,116,104,32,50,62,62,10,115,116,114,101,97,109,10,97,98,10,101,110,100,115,116,114,101,97,109,10,101,110,100,111,98,106,10]
def wkL:List VT:=[nmT z02,.mk 2 2 ⟨#[]⟩ []]
theorem v67:z7g z02 (nmT z02):=by unfold z7g nmT;exact⟨rfl,rfl⟩
theorem y50:z0n z02 wkL=some 0:=z1b v67
theorem v8v {key:ByteArray} (h:key≠z02):z0n key wkL=none:=by
 unfold wkL;rw [z0n,if_neg (by unfold z7g nmT;exact fun h2=>h h2.2.symm),z16];rfl
theorem v2w:z1p wkL=wkL:=by
 have h:=y4r (acc:=[]) (n:=nmT z02) (v:=.mk 2 2 ⟨#[]⟩ []) rfl;rw [List.nil_append] at h;unfold wkL;rw [h];unfold z9f;rw [show z1p []=[] from rfl,z16];simp only [];rw [z6c];rfl
theorem v65:z4i wkB false (7:Int) []=(0,.mk 7 0 ⟨#[]⟩ wkL,21):=by
 have s1:z32 wkB false (z0a wkB 7 false) []=.next 10 [(7,[])]:=by rfl
 have s2:z32 wkB false (z0a wkB ((10:Nat):Int) false) [(7,[])]=.next 17 [(7,[nmT z02])]:=by rfl
 have s3:z32 wkB false (z0a wkB ((17:Nat):Int) false) [(7,[nmT z02])]=.next 19 [(7,wkL)]:=by rfl
 have n4:z0a wkB ((19:Nat):Int) false=(0,⟨5,19,21,0,0,[],[]⟩):=by rfl
 have s4:z32 wkB false (z0a wkB ((19:Nat):Int) false) [(7,wkL)]=.done 0 (.mk 7 0 ⟨#[]⟩ wkL) 21:=by
  rw [n4]
  have hp:z8s [((7:Int),wkL)] 7=(0,.mk 7 0 ⟨#[]⟩ wkL):=by
   unfold z8s;simp only [ne_eq,not_true_eq_false,if_false,if_true];unfold z97;rw [v2w,if_neg (by decide),if_neg (by omega)]
  unfold z32;simp only [hp];rfl
 rw [(z1k s1).1,(z1k s2).1,(z1k s3).1,z0q s4]
theorem y4z:z1a 7 wkL z02=(.mk 2 2 ⟨#[]⟩ [],true):=by unfold z1a;rw [if_pos rfl,y50];rfl
theorem z8a {key:ByteArray} (h:key≠z02):z1a 7 wkL key=(z1i,false):=by unfold z1a;rw [if_pos rfl,v8v h]
theorem v2v:z2q (z2q (.mk 7 0 ⟨#[]⟩ wkL) z02) z0g=.mk 7 0 ⟨#[]⟩ []:=by
 rw [z96 (q:=0) (show z1c 7 wkL z02=((0:Nat):Int) by unfold z1c;rw [if_pos rfl,y50];first|done|rfl)];rw [y1x (by unfold z1c;rw [if_pos rfl];rw [show wkL.take 0++wkL.drop (0+2)=[] from rfl,z16];first|done|decide)];rfl
theorem v94:z2f≠z02:=by decide
theorem v3p:z0g≠z02:=by decide
theorem wk_hdr:y1k wkB false 1 4096 (0,0)=(5,(1,0))/\y1t wkB false 0=(7,0):=⟨by rfl,by rfl⟩
theorem v2c:z3x wkB false (7,0)=(.mk 7 0 ⟨#[]⟩ wkL,(21,0)):=by
 unfold z3x;rw [if_neg (by simp),v65];rfl
theorem v6a:z79 wkB false (21,0)=(sStream,(28,0)):=by rfl
theorem v68:z7h (.mk 7 0 ⟨#[]⟩ wkL) 0=0:=by
 unfold z7h;show z3i (z3i (z3i 0 (decide ((z1a 7 wkL z02).1.kind=2)&&(decide (0<=(z1a 7 wkL z02).1.num)&&decide ((z1a 7 wkL z02).1.num<=16777216)))) (!(z1a 7 wkL z2f).2)) (!(z1a 7 wkL z0g).2 || y1w (z1a 7 wkL z0g).1)=0;rw [y4z,z8a v94,z8a v3p];rfl
theorem v64:y3z wkB false (.mk 7 0 ⟨#[]⟩ wkL) (28,0)=([97,98],(48,0)):=by
 have e1:(z1a (VT.mk 7 0 ⟨#[]⟩ wkL).kind (VT.mk 7 0 ⟨#[]⟩ wkL).row z0g).2=false:=by show(z1a 7 wkL z0g).2=false;rw [z8a v3p]
 have e2:(z1a (VT.mk 7 0 ⟨#[]⟩ wkL).kind (VT.mk 7 0 ⟨#[]⟩ wkL).row z02).1.num=2:=by show(z1a 7 wkL z02).1.num=2;rw [y4z];rfl
 unfold y3z;rw [e1,if_neg (by simp),e2];simp only [v68];rfl
theorem v66:y13 wkB false (7,0)=(⟨.mk 7 0 ⟨#[]⟩ [],true,[97,98]⟩,(48,0)):=by
 unfold y13;rw [v2c];simp only [];rw [v6a];simp only [];rw [if_pos True.intro,v64,v2v]
theorem v69:v8r wkB 0 false=⟨5,⟨.mk 7 0 ⟨#[]⟩ [],true,[97,98]⟩,48,0⟩:=by
 unfold v8r;rw [wk_hdr.2,v66,wk_hdr.1];rfl
end Go.Proofs.YtmibnkddappgiaaGreatDoor
