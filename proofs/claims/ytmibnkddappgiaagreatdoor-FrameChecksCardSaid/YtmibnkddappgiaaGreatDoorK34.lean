import Derived.Test.YtmibnkddappgiaaGreatDoorK25
import Derived.Test.YtmibnkddappgiaaGreatDoorK29
set_option linter.unusedVariables false
set_option maxHeartbeats 64000000
set_option maxRecDepth 100000
set_option linter.unusedSimpArgs false
namespace Go.Proofs.YtmibnkddappgiaaGreatDoor
open Go.RowKit
theorem y94 (k m:Int) (s:ByteArray) (tl:List VT) (A:Option Addr) (l c:Nat) (w:World) (hv:ValIs w (.mk k m s tl) ⟨k,m,s,A,l,c⟩) (hsz:z1n tl<=1000000) :
  Calls Tryz.prog 19 #[.agg #[.int .i64 k,.int .i64 m,.string s,.slice A l c]] w fun e w'=>e=.returned (.bool (z9o k tl))/\Chg NoS w w':=by
 have HG:=kf (fun W (h:Chg NoS w W) (key:ByteArray)=>y78 ⟨k,m,s,A,l,c⟩ tl key W (hv.chg h) (by show z1n tl<=_;omega));have HG1:=kf (fun W h=>HG.out W h z02);have HG2:=kf (fun W h=>HG.out W h z0g);have HG3:=kf (fun W h=>HG.out W h z2f);unfold z9o v61;obtain⟨G1,hG1⟩:∃ G,G=z1a k tl z02:=⟨_,rfl⟩
 obtain⟨G2,hG2⟩:∃ G,G=z1a k tl z0g:=⟨_,rfl⟩
 obtain⟨G3,hG3⟩:∃ G,G=z1a k tl z2f:=⟨_,rfl⟩
 simp only [] at HG1 HG2 HG3;rw [<- hG1] at HG1;rw [<- hG2] at HG2;rw [<- hG3] at HG3;rw [<- hG1,<- hG2,<- hG3];obtain⟨u1,b1⟩:=G1;obtain⟨u2,b2⟩:=G2;obtain⟨u3,b3⟩:=G3;unfold GetTo VC.val at HG1 HG2 HG3;unfold z02 at HG1;unfold z0g at HG2;unfold z2f at HG3;simp only [] at HG1 HG2 HG3 ⊢;clear HG hG1 hG2 hG3 hv hsz;have HB:=kf (Blk.new w 24 #[.int .i64 k,.int .i64 m,.string s,.slice A l c]);have HC:=kf ((Chg.refl NoS w).alloc (.cells #[.int .i64 k,.int .i64 m,.string s,.slice A l c] 24));obtain⟨W1,hW1⟩:∃ W1,W1=w.alloc (.cells #[.int .i64 k,.int .i64 m,.string s,.slice A l c] 24):=⟨_,rfl⟩
 obtain⟨g,hg⟩:∃ g,g=w.heap.size:=⟨_,rfl⟩
 rw [<- hW1] at HB HC;rw [<- hg] at HB;obtain⟨p7,h7⟩:∃ p,(k==7)=p:=⟨_,rfl⟩
 have h7':decide (k=7)=p7:=h7;rw [h7'];have ix0:∀ W:World,(Instr.index 75 (.agg #[.string ⟨#[76,101,110,103,116,104]⟩,.string ⟨#[70,105,108,116,101,114]⟩,.string ⟨#[68,101,99,111,100,101,80,97,114,109,115]⟩]) (.int .i64 0)).run Tryz.prog W=.ok (.string ⟨#[76,101,110,103,116,104]⟩) W:=fun _=>by kernel_rfl
 have ix1:∀ W:World,(Instr.index 75 (.agg #[.string ⟨#[76,101,110,103,116,104]⟩,.string ⟨#[70,105,108,116,101,114]⟩,.string ⟨#[68,101,99,111,100,101,80,97,114,109,115]⟩]) (.int .i64 1)).run Tryz.prog W=.ok (.string ⟨#[70,105,108,116,101,114]⟩) W:=fun _=>by kernel_rfl
 have ix2:∀ W:World,(Instr.index 75 (.agg #[.string ⟨#[76,101,110,103,116,104]⟩,.string ⟨#[70,105,108,116,101,114]⟩,.string ⟨#[68,101,99,111,100,101,80,97,114,109,115]⟩]) (.int .i64 2)).run Tryz.prog W=.ok (.string ⟨#[68,101,99,111,100,101,80,97,114,109,115]⟩) W:=fun _=>by kernel_rfl
 go_enter Tryz.func19,Tryz.ntmps19;go_upto_region 2 with fail;rw [<- hg,<- hW1];clear hg hW1;go_loopw [8] (fun vk wr=>∃ j:Nat,j<=3/\vk=.int .i64 (j:Nat)/\Hid ((1<=j->b1=false)/\(2<=j->b2=false)/\(3<=j->b3=false))/\Hid (Chg NoS W1 wr)) (fun vk _=>3-(intOf vk).toNat)
 case atStart=>exact⟨0,by omega,by go_num,⟨fun h=>absurd h (by omega),fun h=>absurd h (by omega),fun h=>absurd h (by omega)⟩,Chg.refl NoS W1⟩
 case round =>
  obtain⟨j,hj,rfl,HT,HCW⟩:=hrel;have HCA:=kf (HC.out.trans HCW.out (fun _ _ e=>e));obtain⟨q0,q1,q2,q3⟩:=q0t (HB.out.chg HCW.out (fun h=>h));obtain rfl|rfl|rfl|rfl:j=0\/j=1\/j=2\/j=3:=by omega
  ·cases b1 with
   |true =>
    go_wp2_with (go_at_call 39;refine(HG1.out _ HCA.out).mono ?_;rintro e w3 ⟨⟨ck,cn,cs,cA,cl,cc⟩,rfl,hv3,hc3⟩;have HC3:=kf (HCA.out.trans hc3 (fun _ _ e=>e));clear hv3 hc3;simp only []);go_ret;exact⟨by simp,HC3.out.alloc _⟩
   |false =>
    go_wp2_with (go_at_call 39;refine(HG1.out _ HCA.out).mono ?_;rintro e w3 ⟨⟨ck,cn,cs,cA,cl,cc⟩,rfl,hv3,hc3⟩;have HC3:=kf (HCW.out.trans hc3 (fun _ _ e=>e));clear hv3 hc3;simp only []);go_roundw
    case rel=>exact⟨1,by omega,by go_num,⟨fun _=>trivial,fun h=>absurd h (by omega),fun h=>absurd h (by omega)⟩,HC3.out.alloc _⟩
    case measure=>simp [intOf]
  ·cases b2 with
   |true =>
    go_wp2_with (go_at_call 39;refine(HG2.out _ HCA.out).mono ?_;rintro e w3 ⟨⟨ck,cn,cs,cA,cl,cc⟩,rfl,hv3,hc3⟩;have HC3:=kf (HCA.out.trans hc3 (fun _ _ e=>e));clear hv3 hc3;simp only []);go_ret;exact⟨by simp,HC3.out.alloc _⟩
   |false =>
    go_wp2_with (go_at_call 39;refine(HG2.out _ HCA.out).mono ?_;rintro e w3 ⟨⟨ck,cn,cs,cA,cl,cc⟩,rfl,hv3,hc3⟩;have HC3:=kf (HCW.out.trans hc3 (fun _ _ e=>e));clear hv3 hc3;simp only []);go_roundw
    case rel=>exact⟨2,by omega,by go_num,⟨fun _=>HT.out.1 (by omega),fun h=>trivial,fun h=>absurd h (by omega)⟩,HC3.out.alloc _⟩
    case measure=>simp [intOf]
  ·cases b3 with
   |true =>
    go_wp2_with (go_at_call 39;refine(HG3.out _ HCA.out).mono ?_;rintro e w3 ⟨⟨ck,cn,cs,cA,cl,cc⟩,rfl,hv3,hc3⟩;have HC3:=kf (HCA.out.trans hc3 (fun _ _ e=>e));clear hv3 hc3;simp only []);go_ret;exact⟨by simp,HC3.out.alloc _⟩
   |false =>
    go_wp2_with (go_at_call 39;refine(HG3.out _ HCA.out).mono ?_;rintro e w3 ⟨⟨ck,cn,cs,cA,cl,cc⟩,rfl,hv3,hc3⟩;have HC3:=kf (HCW.out.trans hc3 (fun _ _ e=>e));clear hv3 hc3;simp only []);go_roundw
    case rel=>exact⟨3,by omega,by go_num,⟨fun _=>HT.out.1 (by omega),fun h=>HT.out.2.1 (by omega),fun h=>trivial⟩,HC3.out.alloc _⟩
    case measure=>simp [intOf]
  ·have e1:=HT.out.1 (by omega);have e2:=HT.out.2.1 (by omega);have e3:=HT.out.2.2 (by omega);subst e1 e2 e3;cases p7
   all_goals
    go_wp2_with fail;go_ret;exact⟨by simp,HCA.out⟩
theorem v19 (t:VT) (k m:Int) (s:ByteArray) (A:Option Addr) (l c:Nat) (st:Bool) (d:ByteArray) (w:World) (hv:ValIs w t ⟨k,m,s,A,l,c⟩) (hsz:z1h t<=1000000) (hd:d.size<=16777216) :
  Calls Tryz.prog 6 #[z1u ⟨k,m,s,A,l,c⟩ st d] w fun e w'=>e=.returned (.int .i64 (v8f t st d.size))/\Chg NoS w w':=by
 obtain⟨tk,tm,ts,tl⟩:=t;obtain⟨e1,e2,e3,_⟩:=hv.inv;simp only [] at e1 e2 e3;subst e1 e2 e3;have HK:=kf (fun W (h:Chg NoS w W)=>z78 (.mk k m s tl) ⟨k,m,s,A,l,c⟩ W (hv.chg h) hsz);have HSU:=kf (fun W (h:Chg NoS w W)=>y94 k m s tl A l c W (hv.chg h) (by rw [z0f] at hsz;omega));unfold v8f;obtain⟨ck,hck⟩:∃ z,z=z0w (.mk k m s tl):=⟨_,rfl⟩
 rw [<- hck] at HK ⊢;obtain⟨su,hsu⟩:∃ z,z=z9o k tl:=⟨_,rfl⟩
 rw [show z9o (VT.mk k m s tl).kind (VT.mk k m s tl).row=su from hsu.symm];rw [<- hsu] at HSU;unfold VC.val at HK;simp only [] at HK;clear hv hsz hck hsu;have HB:=kf (Blk.new w 26 (obA ⟨k,m,s,A,l,c⟩ st d));have HC:=kf ((Chg.refl NoS w).alloc (.cells (obA ⟨k,m,s,A,l,c⟩ st d) 26));unfold z1u;obtain⟨W1,hW1⟩:∃ W1,W1=w.alloc (.cells (obA ⟨k,m,s,A,l,c⟩ st d) 26):=⟨_,rfl⟩
 obtain⟨g,hg⟩:∃ g,g=w.heap.size:=⟨_,rfl⟩
 rw [<- hW1] at HB HC;rw [<- hg] at HB;unfold obA at HB hW1 ⊢;simp only [] at HB hW1 ⊢;by_cases h0:ck=0
 ·subst h0;cases st with
  |false =>
   by_cases hd0:d.size=0
   ·obtain rfl:=y34 hd0;clear hd hd0;go_enter Tryz.func6,Tryz.ntmps6;go_upto_region 1 with fail;rw [<- hg,<- hW1];clear hg hW1;obtain⟨q0,q1,q2,q3,q4,q5,_,_,_,_,_,_⟩:=HB.out.cl6
    go_wp2_with first
     |(go_at_call 18;(with_reducible refine(HK.out _ HC.out).mono ?_);rintro e w2 ⟨rfl,h2⟩;have HC2:=kf (HC.out.trans h2 (fun _ _ e=>e));have HB2:=kf (HB.out.chg h2 (fun e=>e));clear q0 q1 q2 q3 q4 q5;obtain⟨q0,q1,q2,q3,q4,q5,_,_,_,_,_,_⟩:=HB2.out.cl6;clear h2)
     |(go_at_call 19;(with_reducible refine(HSU.out _ HC2.out).mono ?_);rintro e w3 ⟨rfl,h3⟩;have HC3:=kf (HC2.out.trans h3 (fun _ _ e=>e));have HB3:=kf (HB2.out.chg h3 (fun e=>e));clear q0 q1 q2 q3 q4 q5;obtain⟨q0,q1,q2,q3,q4,q5,_,_,_,_,_,_⟩:=HB3.out.cl6;clear h3)
    go_ret
    first
     |exact⟨by simp,HC6.out⟩
     |exact⟨by simp,HC5.out⟩
     |exact⟨by simp,HC4.out⟩
     |exact⟨by simp,HC3.out⟩
     |exact⟨by simp,HC2.out⟩
   ·have dl:=y35 hd0;clear hd;go_enter Tryz.func6,Tryz.ntmps6;go_upto_region 1 with fail;rw [<- hg,<- hW1];clear hg hW1;obtain⟨q0,q1,q2,q3,q4,q5,_,_,_,_,_,_⟩:=HB.out.cl6
    go_wp2_with first
     |(go_at_call 18;(with_reducible refine(HK.out _ HC.out).mono ?_);rintro e w2 ⟨rfl,h2⟩;have HC2:=kf (HC.out.trans h2 (fun _ _ e=>e));have HB2:=kf (HB.out.chg h2 (fun e=>e));clear q0 q1 q2 q3 q4 q5;obtain⟨q0,q1,q2,q3,q4,q5,_,_,_,_,_,_⟩:=HB2.out.cl6;clear h2)
     |(go_at_call 19;(with_reducible refine(HSU.out _ HC2.out).mono ?_);rintro e w3 ⟨rfl,h3⟩;have HC3:=kf (HC2.out.trans h3 (fun _ _ e=>e));have HB3:=kf (HB2.out.chg h3 (fun e=>e));clear q0 q1 q2 q3 q4 q5;obtain⟨q0,q1,q2,q3,q4,q5,_,_,_,_,_,_⟩:=HB3.out.cl6;clear h3)
    go_ret
    first
     |exact⟨by simp,HC6.out⟩
     |exact⟨by simp,HC5.out⟩
     |exact⟨by simp,HC4.out⟩
     |exact⟨by simp,HC3.out⟩
     |exact⟨by simp,HC2.out⟩
  |true =>
   obtain⟨n,hn⟩:∃ n,d.size=n:=⟨_,rfl⟩
   rw [hn] at hd;have dd:decide (16777216<n)=false:=by simp;omega
   have dd':decide ((16777216:Int)<n)=false:=by simp;omega
   clear hd;cases su
   all_goals
    go_enter Tryz.func6,Tryz.ntmps6;go_upto_region 1 with fail;rw [<- hg,<- hW1];clear hg hW1;obtain⟨q0,q1,q2,q3,q4,q5,_,_,_,_,_,_⟩:=HB.out.cl6
    go_wp2_with first
     |(go_at_call 18;(with_reducible refine(HK.out _ HC.out).mono ?_);rintro e w2 ⟨rfl,h2⟩;have HC2:=kf (HC.out.trans h2 (fun _ _ e=>e));have HB2:=kf (HB.out.chg h2 (fun e=>e));clear q0 q1 q2 q3 q4 q5;obtain⟨q0,q1,q2,q3,q4,q5,_,_,_,_,_,_⟩:=HB2.out.cl6;clear h2)
     |(go_at_call 19;(with_reducible refine(HSU.out _ HC2.out).mono ?_);rintro e w3 ⟨rfl,h3⟩;have HC3:=kf (HC2.out.trans h3 (fun _ _ e=>e));have HB3:=kf (HB2.out.chg h3 (fun e=>e));clear q0 q1 q2 q3 q4 q5;obtain⟨q0,q1,q2,q3,q4,q5,_,_,_,_,_,_⟩:=HB3.out.cl6;clear h3)
    go_ret
    first
     |exact⟨by simp,HC6.out⟩
     |exact⟨by simp,HC5.out⟩
     |exact⟨by simp,HC4.out⟩
     |exact⟨by simp,HC3.out⟩
     |exact⟨by simp,HC2.out⟩
 ·have d0:(ck==0)=false:=by simpa using h0
  have d0n:(ck != 0)=true:=by simpa using h0
  clear hd;go_enter Tryz.func6,Tryz.ntmps6;go_upto_region 1 with fail;rw [<- hg,<- hW1];clear hg hW1;obtain⟨q0,q1,q2,q3,q4,q5,_,_,_,_,_,_⟩:=HB.out.cl6
  go_wp2_with first
   |(go_at_call 18;(with_reducible refine(HK.out _ HC.out).mono ?_);rintro e w2 ⟨rfl,h2⟩;have HC2:=kf (HC.out.trans h2 (fun _ _ e=>e));have HB2:=kf (HB.out.chg h2 (fun e=>e));clear q0 q1 q2 q3 q4 q5;obtain⟨q0,q1,q2,q3,q4,q5,_,_,_,_,_,_⟩:=HB2.out.cl6;clear h2)
   |(go_at_call 19;(with_reducible refine(HSU.out _ HC2.out).mono ?_);rintro e w3 ⟨rfl,h3⟩;have HC3:=kf (HC2.out.trans h3 (fun _ _ e=>e));have HB3:=kf (HB2.out.chg h3 (fun e=>e));clear q0 q1 q2 q3 q4 q5;obtain⟨q0,q1,q2,q3,q4,q5,_,_,_,_,_,_⟩:=HB3.out.cl6;clear h3)
  go_ret
  first
   |exact⟨by simp [h0],HC6.out⟩
   |exact⟨by simp [h0],HC5.out⟩
   |exact⟨by simp [h0],HC4.out⟩
   |exact⟨by simp [h0],HC3.out⟩
   |exact⟨by simp [h0],HC2.out⟩
theorem v3o {a b:List Nat} (ha:∀ d∈a,d<256) (hb:∀ d∈b,d<256) (h:sb a=sb b):a=b:=by
 rw [<- z8j a ha,<- z8j b hb,h]
theorem y4o (A:Option Addr) (n c:Nat) (a:Int) (last:Bool) (w:World) :
  Calls Tryz.prog 106 #[.agg #[.slice A n c,.int .i64 a,.bool last]] w fun e w'=>e=.returned (.int .i64 (y7x last))/\Chg NoS w w':=by
 cases last with
 |true =>
  go_enter Tryz.func106,Tryz.ntmps106;go_wp2_with fail;go_ret;exact⟨rfl,(Chg.refl NoS w).alloc _⟩
 |false =>
  go_enter Tryz.func106,Tryz.ntmps106;go_wp2_with fail;go_ret;exact⟨rfl,(Chg.refl NoS w).alloc _⟩
def q14 (w0:World) (bs:List Nat) (A:Option Addr) (c R:Nat) (last:Bool) (w:World) (l:List Nat) (s:FS) (e:Ending) (w':World):Prop :=
 ∃ (A':Option Addr) (m c':Nat),e=.returned (.slice A' m c')/\m=l.length/\RSrc w0 l A' c'/\RB w0 bs A c R last s w'/\Chg (z9g R) w w'
theorem y2m (w0:World):RSrc w0 [] none 0:=⟨⟨rfl,fun _=>⟨rfl,rfl⟩,fun ad h=>(by cases h)⟩,by simp,Nat.le_refl _,fun x hx=>(by cases hx)⟩
theorem y9i {w0:World} {bs:List Nat} {A:Option Addr} {c:Nat} (h:RSrc w0 bs A c) (p m:Nat) (hp:p+m<=bs.length):RSrc w0 ((bs.drop p).take m) (y14 A p c) (c-p)/\((bs.drop p).take m).length=m:=by
 have hl:((bs.drop p).take m).length=m:=by rw [List.length_take,List.length_drop];omega
 have h1:=y2f (lo:=p) (m:=m) h.src h.cap hp;have e:((z09 bs).drop p).take m=z09 ((bs.drop p).take m):=by unfold z09;rw [List.map_take,List.map_drop]
 rw [e] at h1;refine⟨⟨by rw [hl];exact h1,by rw [hl];have:=h.len;omega,by rw [hl];have:=h.cap;omega,fun x hx=>h.byt x (List.mem_of_mem_drop (List.mem_of_mem_take hx))⟩,hl⟩
theorem z95 {w0 w:World} {bs:List Nat} {A:Option Addr} {c R:Nat} {last:Bool} {s:FS} (hB:RSrc w0 bs A c) (h:RB w0 bs A c R last s w) (n:Int) (hf:z5r bs.length s) (hn:s.2=0->0<=n/\n<=16777216) :
  Calls Tryz.prog 77 #[.pointer (some ⟨R,0,none⟩),.int .i64 n] w (q14 w0 bs A c R last w (z2k bs last n s).1 (z2k bs last n s).2):=by
 obtain⟨a,e⟩:=s;have HR:=kf h;have HB:=kf hB;obtain⟨q0,q1,q2,q3,z1,z3⟩:=h.cells;have hlen:=hB.len;have hcap:=hB.cap;simp only [] at q1 q3 hn;clear h hB;by_cases he:e=0
 ·subst he;obtain⟨h0,h1⟩:=hf.resolve_left (fun h=>h rfl);obtain⟨h2,h3⟩:=hn rfl;simp only [] at h0 h1;obtain⟨p,rfl⟩:∃ p:Nat,a=(p:Nat):=⟨a.toNat,by omega⟩
  obtain⟨m,rfl⟩:∃ m:Nat,n=(m:Nat):=⟨n.toNat,by omega⟩
  clear hf hn h0 h2;by_cases hlt:(bs.length:Int)-(p:Nat)<(m:Nat)
  ·have HZ:=kf (show z2k bs last (m:Nat) ((p:Nat),0)=(([],(((p:Nat):Int),y7x last)):List Nat × FS) from by unfold z2k;rw [if_neg (by simp),if_pos hlt]);have HE:=kf (fun W=>y4o A bs.length c (p:Nat) last W);rw [HZ.out];simp only [];obtain⟨k,hk⟩:∃ k,k=bs.length:=⟨_,rfl⟩
   rw [<- hk] at hlt hlen hcap q0 HE h1;have d1:decide ((k:Int)-(p:Int)<(m:Int))=true:=by simpa using hlt
   have d2:decide ((m:Int)<=(k:Int)-(p:Int))=false:=by simp;omega
   have HEE:Hid (y7x last≠0):=by show y7x last≠0;unfold y7x;cases last<;>simp
   obtain⟨ee,hee⟩:∃ ee,ee=y7x last:=⟨_,rfl⟩
   rw [<- hee] at HE HEE ⊢;clear hee hk hlt;have r1:(ee==0)=false:=by simpa using HEE.out
   have r2:(ee != 0)=true:=by simpa using HEE.out
   go_enter Tryz.func77,Tryz.ntmps77;go_upto_region 1 with fail;go_quiet (fail);go_upto_region 3 with(go_at_call 106;refine(HE.out _).mono ?_;rintro e w2 ⟨rfl,hc2⟩;have HC2:=kf hc2;have HR2:=kf ((HR.out.call ((Chg.refl NoS w).drewN nq)).call hc2);obtain⟨x0,x1,x2,x3,y1,y3⟩:=HR2.out.cells;simp only [] at x1 x3;clear hc2);have HR3:=kf (HR2.out.setE ee);obtain⟨v0,v1,v2,v3,_,_⟩:=HR3.out.cells;go_wp2_with fail;go_ret;exact⟨none,0,0,rfl,rfl,y2m _,HR3.out,z01 (z0c (((Chg.refl NoS w).drewN nq).trans HC2.out (fun _ _ e=>e))) (z0m _ _ _ _)⟩
  ·have hle:p+m<=bs.length:=by omega
   obtain⟨h5,h6⟩:=y9i HB.out p m hle;have HCUT:=kf h5;have HZ:=kf (show z2k bs last (m:Nat) ((p:Nat),0)=(((bs.drop p).take m,((p:Int)+(m:Int),0)):List Nat × FS) from by unfold z2k;rw [if_neg (by simp),if_neg hlt];rfl);rw [HZ.out];simp only [];have HL6:=kf h6;obtain⟨l,hl⟩:∃ l,l=(bs.drop p).take m:=⟨_,rfl⟩
   rw [<- hl] at HCUT HL6 ⊢;obtain⟨k,hk⟩:∃ k,k=bs.length:=⟨_,rfl⟩
   rw [<- hk] at hlt hlen hcap q0 hle h1;have d1:decide ((k:Int)-(p:Int)<(m:Int))=false:=by simpa using hlt
   have d2:decide ((m:Int)<=(k:Int)-(p:Int))=true:=by simp;omega
   obtain⟨q,hq⟩:∃ q:Nat,q=p+m:=⟨_,rfl⟩
   have eq1:(p:Int)+(m:Int)=(q:Nat):=by omega
   have hqk:q<=c:=by omega
   have hpq:p<=q:=by omega
   have hqm:q-p=m:=by omega
   have hsl:∀ W:World,(Instr.sliceAt 37 (.slice A k c) (some (.int .i64 (p:Nat))) (some (.int .i64 (q:Nat))) none).run Tryz.prog W=.ok (.slice (y14 A p c) m (c-p)) W:=fun W=>by rw [q02 A k c p q hpq hqk W,hqm]
   have HQM:=kf hqm;have HQ:=kf eq1;have b1:(q:Int)<=400000:=by omega
   clear hk hlt hl h5 h6 hq hqm;go_enter Tryz.func77,Tryz.ntmps77;go_upto_region 1 with fail;go_quiet (fail);have HRq:=kf (HR.out.call ((Chg.refl NoS w).drewN nq));clear q0 q1 q2 q3 z1 z3;obtain⟨q0,q1,q2,q3,z1,z3⟩:=HRq.out.cells;simp only [] at q1 q3;have HCq:=kf ((Chg.refl NoS w).drewN nq);obtain⟨W,hW⟩:∃ W,W=w.drewN nq:=⟨_,rfl⟩
   rw [<- hW] at HRq HCq q0 q1 q2 q3 z1 z3 ⊢;clear hW;go_upto_region 7 with fail;try rw [HQ.out]
   have HR3:=kf (HRq.out.setA (q:Nat));have HO3:=kf (z01 (z0c HCq.out) (z0m W R 1 (.int .i64 (q:Nat))));obtain⟨W3,hW3⟩:∃ W3,W3=W.setCell ⟨R,1,none⟩ (.int .i64 (q:Nat)):=⟨_,rfl⟩
   rw [<- hW3] at HR3 HO3 ⊢;clear hW3 q0 q1 q2 q3 z1 z3;obtain⟨q0,q1,q2,q3,z1,z3⟩:=HR3.out.cells;simp only [] at q1 q3;by_cases hcp:c=p
   ·subst hcp;go_quiet (fail);go_wp2_with fail;go_ret;try rw [HQ.out]
    have hc5:=HCUT.out;have hq5:=HQM.out;have hr5:=HR3.out.call ((Chg.refl NoS _).drewN nq);refine⟨_,m,_,?_,HL6.out.symm,hc5,hr5,z01 HO3.out (z0c ((Chg.refl NoS _).drewN _))⟩;simp [y14,hq5];omega
   ·have ncp:(c==p)=false:=by simpa using hcp
    go_quiet (fail);go_wp2_with fail;go_ret;try rw [HQ.out]
    have hc5:=HCUT.out;have hq5:=HQM.out;have hr5:=HR3.out.call ((Chg.refl NoS _).drewN nq);refine⟨_,m,_,?_,HL6.out.symm,hc5,hr5,z01 HO3.out (z0c ((Chg.refl NoS _).drewN _))⟩;simp [y14,hq5,hcp]
 ·have e1:(e==0)=false:=by simpa using he
  have e2:(e != 0)=true:=by simpa using he
  have HZ:=kf (show z2k bs last n (a,e)=([],(a,e)) from by unfold z2k;rw [if_pos he]);clear he hf hn;rw [HZ.out];simp only [];go_enter Tryz.func77,Tryz.ntmps77;go_upto_region 1 with fail;go_quiet (fail);go_wp2_with fail;go_ret;exact⟨none,0,0,rfl,rfl,y2m _,HR.out.call ((Chg.refl NoS _).drewN _),z0c ((Chg.refl NoS _).drewN _)⟩
theorem v8j {bs:List Nat} {last:Bool} {a:Int} {er:Int} {tk tf tt_ tvk:Nat} {tvn:Int} {tvs ts:List Nat} (h:z0a bs a last=(er,⟨tk,tf,tt_,tvk,tvn,tvs,ts⟩)):z79 bs last (a,0)=(sb ts,((tt_:Nat):Int),z3i (if er=0/\tk=0 then 10 else er) (decide (tk=6)&&(decide (sb ts=sEndobj) || decide (sb ts=sStream)))):=by
 unfold z79;rw [if_neg (by simp)];simp only [h]
theorem v0c {bs:List Nat} {last:Bool} {a:Int} (h:(z0a bs a last).1≠0):(z0a bs a last).2.kind=0:=by
 unfold z0a at h ⊢;split
 ·rfl
 ·next h2 =>
  rw [if_neg h2] at h;rcases z1s bs a.toNat last (by omega) with h3|h3
  ·exact h3.1
  ·exact absurd h3.1 h
theorem RB.held {w0 W:World} {bs:List Nat} {A:Option Addr} {c R:Nat} {last:Bool} {s:FS} (h:RB w0 bs A c R last s W):W.cell? ⟨R,0,none⟩=some (.slice A bs.length c)/\W.cell? ⟨R,1,none⟩=some (.int .i64 s.1)/\W.cell? ⟨R,2,none⟩=some (.bool last):=⟨h.cells.1,h.cells.2.1,h.cells.2.2.1⟩
theorem v1a {w0 w:World} {bs:List Nat} {A:Option Addr} {c R:Nat} {last:Bool} {s:FS} (hB:RSrc w0 bs A c) (h:RB w0 bs A c R last s w) :
  Calls Tryz.prog 51 #[.pointer (some ⟨R,0,none⟩)] w (RTo w0 bs A c R last w (.string (z79 bs last s).1) (z79 bs last s).2):=by
 obtain⟨a,e⟩:=s;have HR:=kf h;have HD:=kf (h.call ((Chg.refl NoS w).drew));have HDA:=kf (h.call (((Chg.refl NoS w).drew).alloc (.cells #[.int .i64 0,.int .i64 0,.int .i64 0,.int .i64 0,.int .i64 0,.string ⟨#[]⟩,.slice none 0 0,.string ⟨#[]⟩] 111)));have HBA:=kf (show Blk (w.drew.alloc (.cells #[.int .i64 0,.int .i64 0,.int .i64 0,.int .i64 0,.int .i64 0,.string ⟨#[]⟩,.slice none 0 0,.string ⟨#[]⟩] 111)) w.heap.size 111 #[.int .i64 0,.int .i64 0,.int .i64 0,.int .i64 0,.int .i64 0,.string ⟨#[]⟩,.slice none 0 0,.string ⟨#[]⟩] from Blk.new w.drew _ _);have HK:=kf (fun W (hW:Chg NoS w0 W)=>y0a bs A c a last W (Src.below (w0:=w0) hB.src hW) hB.len hB.cap hB.byt);have HBD:=kf (v0c (bs:=bs) (last:=last) (a:=a));obtain⟨P,hP⟩:∃ P,P=z0a bs a last:=⟨_,rfl⟩
 rw [<- hP] at HK HBD;obtain⟨er,tk,tf,tt_,tvk,tvn,tvs,ts⟩:=P;have HN2:=kf (v8j hP.symm);have HBD2:=kf (fun h=>HBD.out h);simp only [] at HBD2;clear HBD;unfold y8m z9l at HK;simp only [] at HK;obtain⟨S6,hS6⟩:∃ S6,S6=sb tvs:=⟨_,rfl⟩
 obtain⟨S7,hS7⟩:∃ S7,S7=sb ts:=⟨_,rfl⟩
 rw [<- hS6,<- hS7] at HK;rw [<- hS7] at HN2;obtain⟨q0,q1,q2,q3,z1,z3⟩:=h.cells;have HLT:Hid (R<w.heap.size):=h.lt;have HW0:Hid (w0.heap.size<=w.heap.size):=h.chg.size;have n1:R≠w.heap.size:=by have:=HLT.out;omega
 have n2:w.heap.size≠R:=Ne.symm n1;simp only [] at q1 q3;clear h hP hB hS6 hS7;by_cases he:e=0
 ·subst he;go_enter Tryz.func51,Tryz.ntmps51;go_upto_region 3 with fail;go_cut [3,4] from 10 to 28 (fun s3 s4 wx=>∃ g3,s3=.pointer (some ⟨g3,0,none⟩)/\s4=.int .i64 er/\Hid (Blk wx g3 111 #[.int .i64 (tk:Nat),.int .i64 (tf:Nat),.int .i64 (tt_:Nat),.int .i64 (tvk:Nat),.int .i64 tvn,.string S6,.slice none 0 0,.string S7]/\Chg NoS w wx/\RB w0 bs A c R last (a,0) wx/\R≠g3))
  case first =>
   refine z3b (fun w'=>w'.cell? ⟨R,0,none⟩=some (.slice A bs.length c)/\w'.cell? ⟨R,1,none⟩=some (.int .i64 a)/\w'.cell? ⟨R,2,none⟩=some (.bool last)) 21 (by kernel_rfl) HD.out.held (fun hHeld=>?_);refine z06 (i:=0) (oi:={ dst:=some 11,op:=Go.Op.move (Go.Operand.tmp 0),type:=56,pos:=_,after:=_,guard:=none }) (v:=?_) rfl (by kernel_rfl) (by kernel_rfl) (by kernel_rfl) (by kernel_rfl) (fun _ _ _ h=>h) (Or.inl ⟨by rfl,?_⟩) (by assumption) ?_;rotate_left
   ·intro w hSw;(try dsimp only at hSw);(try obtain⟨s0,s1,s2,s3,s4,s5⟩:=hSw);(first|(go_simp;done)|(go_simp;with_reducible rfl))
   try simp only [pkA]
   refine z06 (i:=1) (oi:={ dst:=some 12,op:=Go.Op.nilCheck (Go.Operand.tmp 11),type:=0,pos:=_,after:=_,guard:=none }) (v:=?_) rfl (by kernel_rfl) (by kernel_rfl) (by kernel_rfl) (by kernel_rfl) (fun _ _ _ h=>h) (Or.inl ⟨by rfl,?_⟩) (by assumption) ?_;rotate_left
   ·intro w hSw;(try dsimp only at hSw);(try obtain⟨s0,s1,s2,s3,s4,s5⟩:=hSw);(first|(go_simp;done)|(go_simp;with_reducible rfl))
   try simp only [pkA]
   refine z06 (i:=2) (oi:={ dst:=some 13,op:=Go.Op.fieldAddr 60 (Go.Operand.tmp 12) 0,type:=0,pos:=_,after:=_,guard:=none }) (v:=?_) rfl (by kernel_rfl) (by kernel_rfl) (by kernel_rfl) (by kernel_rfl) (fun _ _ _ h=>h) (Or.inl ⟨by rfl,?_⟩) (by assumption) ?_;rotate_left
   ·intro w hSw;(try dsimp only at hSw);(try obtain⟨s0,s1,s2,s3,s4,s5⟩:=hSw);(first|(go_simp;done)|(go_simp;with_reducible rfl))
   try simp only [pkA]
   refine z06 (i:=3) (oi:={ dst:=some 14,op:=Go.Op.fieldAddr 58 (Go.Operand.tmp 13) 0,type:=0,pos:=_,after:=_,guard:=none }) (v:=?_) rfl (by kernel_rfl) (by kernel_rfl) (by kernel_rfl) (by kernel_rfl) (fun _ _ _ h=>h) (Or.inl ⟨by rfl,?_⟩) (by assumption) ?_;rotate_left
   ·intro w hSw;(try dsimp only at hSw);(try obtain⟨s0,s1,s2,s3,s4,s5⟩:=hSw);(first|(go_simp;done)|(go_simp;with_reducible rfl))
   try simp only [pkA]
   refine z06 (i:=4) (oi:={ dst:=some 15,op:=Go.Op.load 37 (Go.Operand.tmp 14),type:=37,pos:=_,after:=_,guard:=none }) (v:=?_) rfl (by kernel_rfl) (by kernel_rfl) (by kernel_rfl) (by kernel_rfl) (fun _ _ _ h=>h) (Or.inl ⟨by rfl,?_⟩) (by assumption) ?_;rotate_left
   ·intro w hSw;(try dsimp only at hSw);(try obtain⟨s0,s1,s2,s3,s4,s5⟩:=hSw);(first|(go_simp;done)|(go_simp;with_reducible rfl))
   try simp only [pkA]
   refine z06 (i:=5) (oi:={ dst:=some 16,op:=Go.Op.move (Go.Operand.tmp 0),type:=56,pos:=_,after:=_,guard:=none }) (v:=?_) rfl (by kernel_rfl) (by kernel_rfl) (by kernel_rfl) (by kernel_rfl) (fun _ _ _ h=>h) (Or.inl ⟨by rfl,?_⟩) (by assumption) ?_;rotate_left
   ·intro w hSw;(try dsimp only at hSw);(try obtain⟨s0,s1,s2,s3,s4,s5⟩:=hSw);(first|(go_simp;done)|(go_simp;with_reducible rfl))
   try simp only [pkA]
   refine z06 (i:=6) (oi:={ dst:=some 17,op:=Go.Op.nilCheck (Go.Operand.tmp 16),type:=0,pos:=_,after:=_,guard:=none }) (v:=?_) rfl (by kernel_rfl) (by kernel_rfl) (by kernel_rfl) (by kernel_rfl) (fun _ _ _ h=>h) (Or.inl ⟨by rfl,?_⟩) (by assumption) ?_;rotate_left
   ·intro w hSw;(try dsimp only at hSw);(try obtain⟨s0,s1,s2,s3,s4,s5⟩:=hSw);(first|(go_simp;done)|(go_simp;with_reducible rfl))
   try simp only [pkA]
   refine z06 (i:=7) (oi:={ dst:=some 18,op:=Go.Op.fieldAddr 60 (Go.Operand.tmp 17) 0,type:=0,pos:=_,after:=_,guard:=none }) (v:=?_) rfl (by kernel_rfl) (by kernel_rfl) (by kernel_rfl) (by kernel_rfl) (fun _ _ _ h=>h) (Or.inl ⟨by rfl,?_⟩) (by assumption) ?_;rotate_left
   ·intro w hSw;(try dsimp only at hSw);(try obtain⟨s0,s1,s2,s3,s4,s5⟩:=hSw);(first|(go_simp;done)|(go_simp;with_reducible rfl))
   try simp only [pkA]
   refine z06 (i:=8) (oi:={ dst:=some 19,op:=Go.Op.fieldAddr 58 (Go.Operand.tmp 18) 1,type:=0,pos:=_,after:=_,guard:=none }) (v:=?_) rfl (by kernel_rfl) (by kernel_rfl) (by kernel_rfl) (by kernel_rfl) (fun _ _ _ h=>h) (Or.inl ⟨by rfl,?_⟩) (by assumption) ?_;rotate_left
   ·intro w hSw;(try dsimp only at hSw);(try obtain⟨s0,s1,s2,s3,s4,s5⟩:=hSw);(first|(go_simp;done)|(go_simp;with_reducible rfl))
   try simp only [pkA]
   refine z06 (i:=9) (oi:={ dst:=some 20,op:=Go.Op.load 3 (Go.Operand.tmp 19),type:=3,pos:=_,after:=_,guard:=none }) (v:=?_) rfl (by kernel_rfl) (by kernel_rfl) (by kernel_rfl) (by kernel_rfl) (fun _ _ _ h=>h) (Or.inl ⟨by rfl,?_⟩) (by assumption) ?_;rotate_left
   ·intro w hSw;(try dsimp only at hSw);(try obtain⟨s0,s1,s2,s3,s4,s5⟩:=hSw);(first|(go_simp;done)|(go_simp;with_reducible rfl))
   try simp only [pkA]
   refine z06 (i:=10) (oi:={ dst:=some 21,op:=Go.Op.move (Go.Operand.tmp 0),type:=56,pos:=_,after:=_,guard:=none }) (v:=?_) rfl (by kernel_rfl) (by kernel_rfl) (by kernel_rfl) (by kernel_rfl) (fun _ _ _ h=>h) (Or.inl ⟨by rfl,?_⟩) (by assumption) ?_;rotate_left
   ·intro w hSw;(try dsimp only at hSw);(try obtain⟨s0,s1,s2,s3,s4,s5⟩:=hSw);(first|(go_simp;done)|(go_simp;with_reducible rfl))
   try simp only [pkA]
   refine z06 (i:=11) (oi:={ dst:=some 22,op:=Go.Op.nilCheck (Go.Operand.tmp 21),type:=0,pos:=_,after:=_,guard:=none }) (v:=?_) rfl (by kernel_rfl) (by kernel_rfl) (by kernel_rfl) (by kernel_rfl) (fun _ _ _ h=>h) (Or.inl ⟨by rfl,?_⟩) (by assumption) ?_;rotate_left
   ·intro w hSw;(try dsimp only at hSw);(try obtain⟨s0,s1,s2,s3,s4,s5⟩:=hSw);(first|(go_simp;done)|(go_simp;with_reducible rfl))
   try simp only [pkA]
   refine z06 (i:=12) (oi:={ dst:=some 23,op:=Go.Op.fieldAddr 60 (Go.Operand.tmp 22) 0,type:=0,pos:=_,after:=_,guard:=none }) (v:=?_) rfl (by kernel_rfl) (by kernel_rfl) (by kernel_rfl) (by kernel_rfl) (fun _ _ _ h=>h) (Or.inl ⟨by rfl,?_⟩) (by assumption) ?_;rotate_left
   ·intro w hSw;(try dsimp only at hSw);(try obtain⟨s0,s1,s2,s3,s4,s5⟩:=hSw);(first|(go_simp;done)|(go_simp;with_reducible rfl))
   try simp only [pkA]
   refine z06 (i:=13) (oi:={ dst:=some 24,op:=Go.Op.fieldAddr 58 (Go.Operand.tmp 23) 2,type:=0,pos:=_,after:=_,guard:=none }) (v:=?_) rfl (by kernel_rfl) (by kernel_rfl) (by kernel_rfl) (by kernel_rfl) (fun _ _ _ h=>h) (Or.inl ⟨by rfl,?_⟩) (by assumption) ?_;rotate_left
   ·intro w hSw;(try dsimp only at hSw);(try obtain⟨s0,s1,s2,s3,s4,s5⟩:=hSw);(first|(go_simp;done)|(go_simp;with_reducible rfl))
   try simp only [pkA]
   refine z06 (i:=14) (oi:={ dst:=some 25,op:=Go.Op.load 4 (Go.Operand.tmp 24),type:=4,pos:=_,after:=_,guard:=none }) (v:=?_) rfl (by kernel_rfl) (by kernel_rfl) (by kernel_rfl) (by kernel_rfl) (fun _ _ _ h=>h) (Or.inl ⟨by rfl,?_⟩) (by assumption) ?_;rotate_left
   ·intro w hSw;(try dsimp only at hSw);(try obtain⟨s0,s1,s2,s3,s4,s5⟩:=hSw);(first|(go_simp;done)|(go_simp;with_reducible rfl))
   try simp only [pkA]
   refine v9z (i:=15) (j:=19) (o:={ dst:=some 26,op:=Go.Op.call { callee:=Go.Callee.value (Go.Operand.func 74),args:=#[Go.Operand.tmp 15,Go.Operand.tmp 20,Go.Operand.tmp 25],argTypes:=#[37,3,4] },type:=112,pos:=_,after:=_,guard:=none }) (o':={ dst:=some 3,op:=Go.Op.alloc 111,type:=0,pos:=_,after:=_,guard:=none }) (by kernel_rfl) rfl rfl (by decide) (by decide) (fun K hK=>?_) (fun K hK=>?_)
   ·go_simp;(go_at_call 74;refine(HK.out _ HD.out.chg).mono ?_;rintro e w2 ⟨rfl,hc2⟩;have HC2:=kf ((Chg.refl NoS w).drew.trans hc2 (fun _ _ e=>e));have HR2:=kf (HD.out.call hc2);have m1:R≠w2.heap.size:=(by have:=HR2.out.lt;omega);have m2:w2.heap.size≠R:=Ne.symm m1;clear hc2)
    refine hK.out _ _ HR2.out.held (fun hHeld=>?_);clear hK K;try simp only [pkA]
    refine z06 (i:=16) (oi:={ dst:=some 10,op:=Go.Op.move (Go.Operand.tmp 26),type:=112,pos:=_,after:=_,guard:=none }) (v:=?_) rfl (by kernel_rfl) (by kernel_rfl) (by kernel_rfl) (by kernel_rfl) (fun _ _ _ h=>h) (Or.inl ⟨by rfl,?_⟩) (by assumption) ?_;rotate_left
    ·intro w hSw;(try dsimp only at hSw);(try obtain⟨s0,s1,s2,s3,s4,s5⟩:=hSw);(first|(go_simp;done)|(go_simp;with_reducible rfl))
    try simp only [pkA]
    refine z06 (i:=17) (oi:={ dst:=some 27,op:=Go.Op.extract (Go.Operand.tmp 10) 0,type:=111,pos:=_,after:=_,guard:=none }) (v:=?_) rfl (by kernel_rfl) (by kernel_rfl) (by kernel_rfl) (by kernel_rfl) (fun _ _ _ h=>h) (Or.inl ⟨by rfl,?_⟩) (by assumption) ?_;rotate_left
    ·intro w hSw;(try dsimp only at hSw);(try obtain⟨s0,s1,s2,s3,s4,s5⟩:=hSw);(first|(go_simp;done)|(go_simp;with_reducible rfl))
    try simp only [pkA]
    refine z06 (i:=18) (oi:={ dst:=some 28,op:=Go.Op.extract (Go.Operand.tmp 10) 1,type:=29,pos:=_,after:=_,guard:=none }) (v:=?_) rfl (by kernel_rfl) (by kernel_rfl) (by kernel_rfl) (by kernel_rfl) (fun _ _ _ h=>h) (Or.inl ⟨by rfl,?_⟩) (by assumption) ?_;rotate_left
    ·intro w hSw;(try dsimp only at hSw);(try obtain⟨s0,s1,s2,s3,s4,s5⟩:=hSw);(first|(go_simp;done)|(go_simp;with_reducible rfl))
    try simp only [pkA]
    refine z5i (i:=19) (o:={ dst:=some 3,op:=Go.Op.alloc 111,type:=0,pos:=_,after:=_,guard:=none }) (by kernel_rfl) rfl (by decide) (fun K hK=>?_);go_simp;refine hK.out _ _ (HR2.out.call ((Chg.refl NoS w2).alloc _)).held (fun hHeld=>?_);clear hK K;try simp only [pkA]
    refine z5i (i:=20) (o:={ dst:=none,op:=Go.Op.store 111 (Go.Operand.tmp 3) (Go.Operand.tmp 27),type:=0,pos:=_,after:=_,guard:=none }) (by kernel_rfl) rfl (by decide) (fun K hK=>?_);(first|(have hb9:=HB9.out)|(have hb9:=Blk.new w2 111 #[.int .i64 0,.int .i64 0,.int .i64 0,.int .i64 0,.int .i64 0,.string ⟨#[]⟩,.slice none 0 0,.string ⟨#[]⟩]));obtain⟨b0,b1,b2,b3,b4,b5,b6,b7,d0,d1,d2,d3,d4,d5,d6,d7⟩:=hb9.cl8;clear hb9;go_simp
    refine hK.out _ _ (HR2.out.call ((Chg.refl NoS w2).alloc _)).held (fun hHeld=>?_);clear hK K;try simp only [pkA]
    refine z60 (o:={ dst:=some 4,op:=Go.Op.assign (Go.Operand.tmp 28),type:=29,pos:=_,after:=_,guard:=none }) (by kernel_rfl) rfl (by kernel_rfl) (fun K hK=>?_);go_simp;refine hK.out _ _ ?_;clear hK K;try simp only [pkA]
    go_wp2_with fail;go_meet
    first
     |(have hbx:=HB9.out;exact⟨w.heap.size,rfl,rfl,kf ⟨Blk.set8 hbx _ _ _ _ _ _ _ _,HC2.out.trans (z1d w2 w.heap.size _ _ _ _ _ _ _ _) (fun i hi e=>by rw [e] at hi;exact absurd hi (Nat.lt_irrefl _)),HR2.out.far (z1d w2 w.heap.size _ _ _ _ _ _ _ _) n1 (fun i hi e=>by have:=HW0.out;rw [e] at hi;exact absurd hi (Nat.not_lt.2 this)),n1⟩⟩)
     |exact⟨w2.heap.size,rfl,rfl,kf ⟨Blk.new w2 _ _,HC2.out.alloc _,HR2.out.call ((Chg.refl NoS w2).alloc _),m1⟩⟩
   ·go_simp;refine hK.out _ _ HDA.out.held (fun hHeld=>?_);clear hK K;try simp only [pkA]
    refine z5i (i:=15) (o:={ dst:=some 26,op:=Go.Op.call { callee:=Go.Callee.value (Go.Operand.func 74),args:=#[Go.Operand.tmp 15,Go.Operand.tmp 20,Go.Operand.tmp 25],argTypes:=#[37,3,4] },type:=112,pos:=_,after:=_,guard:=none }) (by kernel_rfl) rfl (by decide) (fun K hK=>?_);go_simp;(go_at_call 74;refine(HK.out _ HDA.out.chg).mono ?_;rintro e w2 ⟨rfl,hc2⟩;have HC2:=kf (((Chg.refl NoS w).drew.alloc _).trans hc2 (fun _ _ e=>e));have HR2:=kf (HDA.out.call hc2);have HB9:=kf (HBA.out.chg hc2 (fun e=>e));clear hc2)
    refine hK.out _ _ HR2.out.held (fun hHeld=>?_);clear hK K;try simp only [pkA]
    refine z06 (i:=16) (oi:={ dst:=some 10,op:=Go.Op.move (Go.Operand.tmp 26),type:=112,pos:=_,after:=_,guard:=none }) (v:=?_) rfl (by kernel_rfl) (by kernel_rfl) (by kernel_rfl) (by kernel_rfl) (fun _ _ _ h=>h) (Or.inl ⟨by rfl,?_⟩) (by assumption) ?_;rotate_left
    ·intro w hSw;(try dsimp only at hSw);(try obtain⟨s0,s1,s2,s3,s4,s5⟩:=hSw);(first|(go_simp;done)|(go_simp;with_reducible rfl))
    try simp only [pkA]
    refine z06 (i:=17) (oi:={ dst:=some 27,op:=Go.Op.extract (Go.Operand.tmp 10) 0,type:=111,pos:=_,after:=_,guard:=none }) (v:=?_) rfl (by kernel_rfl) (by kernel_rfl) (by kernel_rfl) (by kernel_rfl) (fun _ _ _ h=>h) (Or.inl ⟨by rfl,?_⟩) (by assumption) ?_;rotate_left
    ·intro w hSw;(try dsimp only at hSw);(try obtain⟨s0,s1,s2,s3,s4,s5⟩:=hSw);(first|(go_simp;done)|(go_simp;with_reducible rfl))
    try simp only [pkA]
    refine z06 (i:=18) (oi:={ dst:=some 28,op:=Go.Op.extract (Go.Operand.tmp 10) 1,type:=29,pos:=_,after:=_,guard:=none }) (v:=?_) rfl (by kernel_rfl) (by kernel_rfl) (by kernel_rfl) (by kernel_rfl) (fun _ _ _ h=>h) (Or.inl ⟨by rfl,?_⟩) (by assumption) ?_;rotate_left
    ·intro w hSw;(try dsimp only at hSw);(try obtain⟨s0,s1,s2,s3,s4,s5⟩:=hSw);(first|(go_simp;done)|(go_simp;with_reducible rfl))
    try simp only [pkA]
    refine z5i (i:=20) (o:={ dst:=none,op:=Go.Op.store 111 (Go.Operand.tmp 3) (Go.Operand.tmp 27),type:=0,pos:=_,after:=_,guard:=none }) (by kernel_rfl) rfl (by decide) (fun K hK=>?_);(first|(have hb9:=HB9.out)|(have hb9:=Blk.new w2 111 #[.int .i64 0,.int .i64 0,.int .i64 0,.int .i64 0,.int .i64 0,.string ⟨#[]⟩,.slice none 0 0,.string ⟨#[]⟩]));obtain⟨b0,b1,b2,b3,b4,b5,b6,b7,d0,d1,d2,d3,d4,d5,d6,d7⟩:=hb9.cl8;clear hb9;go_simp
    refine hK.out _ _ (HR2.out.far (z1d w2 w.heap.size _ _ _ _ _ _ _ _) n1 (fun i hi e=>by have:=HW0.out;rw [e] at hi;exact absurd hi (Nat.not_lt.2 this))).held (fun hHeld=>?_);clear hK K;try simp only [pkA]
    refine z60 (o:={ dst:=some 4,op:=Go.Op.assign (Go.Operand.tmp 28),type:=29,pos:=_,after:=_,guard:=none }) (by kernel_rfl) rfl (by kernel_rfl) (fun K hK=>?_);go_simp;refine hK.out _ _ ?_;clear hK K;try simp only [pkA]
    go_wp2_with fail;go_meet
    first
     |(have hbx:=HB9.out;exact⟨w.heap.size,rfl,rfl,kf ⟨Blk.set8 hbx _ _ _ _ _ _ _ _,HC2.out.trans (z1d w2 w.heap.size _ _ _ _ _ _ _ _) (fun i hi e=>by rw [e] at hi;exact absurd hi (Nat.lt_irrefl _)),HR2.out.far (z1d w2 w.heap.size _ _ _ _ _ _ _ _) n1 (fun i hi e=>by have:=HW0.out;rw [e] at hi;exact absurd hi (Nat.not_lt.2 this)),n1⟩⟩)
     |exact⟨w2.heap.size,rfl,rfl,kf ⟨Blk.new w2 _ _,HC2.out.alloc _,HR2.out.call ((Chg.refl NoS w2).alloc _),m1⟩⟩
  case rest =>
   obtain⟨g3,rfl,rfl,hx⟩:=hcut;obtain⟨hx1,hx2,hx3,hx4⟩:=hx.out;have HB2:=kf hx1;have HC3:=kf hx2;have HR3:=kf hx3;have HNE:=kf hx4;clear hx hx1 hx2 hx3 hx4 q0 q1 q2 q3 z1 z3;obtain⟨W3,hW3⟩:∃ W3,W3=wc:=⟨_,rfl⟩
   subst hW3;obtain⟨p0,p1,p2,p3,p4,p5,p6,p7,_,_,_,_,_,_,_,_⟩:=HB2.out.cl8;obtain⟨x0,x1,x2,x3,y1,y3⟩:=HR3.out.cells;simp only [] at x1 x3;by_cases her:er=0
   ·subst her;by_cases hk0:tk=0
    ·subst hk0;have HZ:=kf (HN2.out.trans (show _=(S7,(((tt_:Nat):Int),z3i 10 false)) from by rfl));clear HN2 HBD2;go_upto_region 7 with fail;have HR5:Hid (RB w0 bs A c R last (((tt_:Nat):Int),10) ((W3.setCell ⟨R,1,none⟩ (.int .i64 (tt_:Nat))).setCell ⟨R,3,none⟩ (.int .i64 10))):=(HR3.out.setA (tt_:Nat)).setE 10;have HO5:Hid (Chg (z9g R) w ((W3.setCell ⟨R,1,none⟩ (.int .i64 (tt_:Nat))).setCell ⟨R,3,none⟩ (.int .i64 10))):=z01 (z01 (z0c HC3.out) (z0m _ _ _ _)) (z0m _ _ _ _);have HB5:=kf ((HB2.out.far (p:=⟨R,1,none⟩) (fun e=>HNE.out e.symm) (.int .i64 (tt_:Nat))).far (p:=⟨R,3,none⟩) (fun e=>HNE.out e.symm) (.int .i64 10));obtain⟨W5,hW5⟩:∃ W5,W5=(W3.setCell ⟨R,1,none⟩ (.int .i64 (tt_:Nat))).setCell ⟨R,3,none⟩ (.int .i64 10):=⟨_,rfl⟩
     rw [<- hW5] at HR5 HO5 HB5 ⊢;clear hW5 p0 p1 p2 p3 p4 p5 p6 p7 x0 x1 x2 x3 y1 y3;have HA:=kf (z1z HR5.out false);obtain⟨p0,p1,p2,p3,p4,p5,p6,p7,_,_,_,_,_,_,_,_⟩:=HB5.out.cl8;go_wp2_with (go_at_call 48;refine HA.out.mono ?_;rintro e w6 ⟨rfl,hr6,hc6⟩;have HR6:=kf hr6;have HC6:=kf (z01 HO5.out hc6);have hb6:=HB5.out.chg hc6 (fun e=>HNE.out e.symm);clear p0 p1 p2 p3 p4 p5 p6 p7;obtain⟨p0,p1,p2,p3,p4,p5,p6,p7,_,_,_,_,_,_,_,_⟩:=hb6.cl8;clear hr6 hc6 hb6);go_ret;rw [HZ.out];exact⟨rfl,HR6.out,HC6.out⟩
    by_cases hk6:tk=6
    ·subst hk6;by_cases h1:S7=sEndobj
     ·subst h1;have HZ:=kf (HN2.out.trans (show _=(sEndobj,(((tt_:Nat):Int),z3i 0 true)) from by rfl));clear HN2 HBD2;have s1:(sEndobj.toList==[101,110,100,111,98,106])=true:=by kernel_rfl
      have s2:sEndobj.toList=[101,110,100,111,98,106]:=by kernel_rfl
      go_upto_region 7 with fail;have HR5:Hid (RB w0 bs A c R last (((tt_:Nat):Int),0) ((W3.setCell ⟨R,1,none⟩ (.int .i64 (tt_:Nat))).setCell ⟨R,3,none⟩ (.int .i64 0))):=(HR3.out.setA (tt_:Nat)).setE 0;have HO5:Hid (Chg (z9g R) w ((W3.setCell ⟨R,1,none⟩ (.int .i64 (tt_:Nat))).setCell ⟨R,3,none⟩ (.int .i64 0))):=z01 (z01 (z0c HC3.out) (z0m _ _ _ _)) (z0m _ _ _ _);have HB5:=kf ((HB2.out.far (p:=⟨R,1,none⟩) (fun e=>HNE.out e.symm) (.int .i64 (tt_:Nat))).far (p:=⟨R,3,none⟩) (fun e=>HNE.out e.symm) (.int .i64 0));obtain⟨W5,hW5⟩:∃ W5,W5=(W3.setCell ⟨R,1,none⟩ (.int .i64 (tt_:Nat))).setCell ⟨R,3,none⟩ (.int .i64 0):=⟨_,rfl⟩
      rw [<- hW5] at HR5 HO5 HB5 ⊢;clear hW5 p0 p1 p2 p3 p4 p5 p6 p7 x0 x1 x2 x3 y1 y3;have HA:=kf (z1z HR5.out true);obtain⟨p0,p1,p2,p3,p4,p5,p6,p7,_,_,_,_,_,_,_,_⟩:=HB5.out.cl8;go_wp2_with (go_at_call 48;refine HA.out.mono ?_;rintro e w6 ⟨rfl,hr6,hc6⟩;have HR6:=kf hr6;have HC6:=kf (z01 HO5.out hc6);have hb6:=HB5.out.chg hc6 (fun e=>HNE.out e.symm);clear p0 p1 p2 p3 p4 p5 p6 p7;obtain⟨p0,p1,p2,p3,p4,p5,p6,p7,_,_,_,_,_,_,_,_⟩:=hb6.cl8;clear hr6 hc6 hb6);go_ret;rw [HZ.out];exact⟨rfl,HR6.out,HC6.out⟩
     by_cases h2:S7=sStream
     ·subst h2;have HZ:=kf (HN2.out.trans (show _=(sStream,(((tt_:Nat):Int),z3i 0 true)) from by rfl));clear HN2 HBD2;have s1:(sStream.toList==[101,110,100,111,98,106])=false:=by kernel_rfl
      have s2:¬sStream.toList=[101,110,100,111,98,106]:=by simpa using s1
      have t1:(sStream.toList==[115,116,114,101,97,109])=true:=by kernel_rfl
      have t2:sStream.toList=[115,116,114,101,97,109]:=by kernel_rfl
      go_upto_region 7 with fail;have HR5:Hid (RB w0 bs A c R last (((tt_:Nat):Int),0) ((W3.setCell ⟨R,1,none⟩ (.int .i64 (tt_:Nat))).setCell ⟨R,3,none⟩ (.int .i64 0))):=(HR3.out.setA (tt_:Nat)).setE 0;have HO5:Hid (Chg (z9g R) w ((W3.setCell ⟨R,1,none⟩ (.int .i64 (tt_:Nat))).setCell ⟨R,3,none⟩ (.int .i64 0))):=z01 (z01 (z0c HC3.out) (z0m _ _ _ _)) (z0m _ _ _ _);have HB5:=kf ((HB2.out.far (p:=⟨R,1,none⟩) (fun e=>HNE.out e.symm) (.int .i64 (tt_:Nat))).far (p:=⟨R,3,none⟩) (fun e=>HNE.out e.symm) (.int .i64 0));obtain⟨W5,hW5⟩:∃ W5,W5=(W3.setCell ⟨R,1,none⟩ (.int .i64 (tt_:Nat))).setCell ⟨R,3,none⟩ (.int .i64 0):=⟨_,rfl⟩
      rw [<- hW5] at HR5 HO5 HB5 ⊢;clear hW5 p0 p1 p2 p3 p4 p5 p6 p7 x0 x1 x2 x3 y1 y3;have HA:=kf (z1z HR5.out true);obtain⟨p0,p1,p2,p3,p4,p5,p6,p7,_,_,_,_,_,_,_,_⟩:=HB5.out.cl8;go_wp2_with (go_at_call 48;refine HA.out.mono ?_;rintro e w6 ⟨rfl,hr6,hc6⟩;have HR6:=kf hr6;have HC6:=kf (z01 HO5.out hc6);have hb6:=HB5.out.chg hc6 (fun e=>HNE.out e.symm);clear p0 p1 p2 p3 p4 p5 p6 p7;obtain⟨p0,p1,p2,p3,p4,p5,p6,p7,_,_,_,_,_,_,_,_⟩:=hb6.cl8;clear hr6 hc6 hb6);go_ret;rw [HZ.out];exact⟨rfl,HR6.out,HC6.out⟩
     have HZ:=kf (HN2.out.trans (show _=(S7,(((tt_:Nat):Int),z3i 0 false)) from by rw [if_neg (by simp),decide_eq_false h1,decide_eq_false h2];rfl));clear HN2 HBD2;have s1:(S7.toList==[101,110,100,111,98,106])=false:=by have h:=z10 h1;rw [show(sEndobj:ByteArray).toList=[101,110,100,111,98,106] from by kernel_rfl] at h;simpa using h
     have s2:¬S7.toList=[101,110,100,111,98,106]:=by simpa using s1
     have t1:(S7.toList==[115,116,114,101,97,109])=false:=by have h:=z10 h2;rw [show(sStream:ByteArray).toList=[115,116,114,101,97,109] from by kernel_rfl] at h;simpa using h
     have t2:¬S7.toList=[115,116,114,101,97,109]:=by simpa using t1
     clear h1 h2;go_upto_region 7 with fail;have HR5:Hid (RB w0 bs A c R last (((tt_:Nat):Int),0) ((W3.setCell ⟨R,1,none⟩ (.int .i64 (tt_:Nat))).setCell ⟨R,3,none⟩ (.int .i64 0))):=(HR3.out.setA (tt_:Nat)).setE 0;have HO5:Hid (Chg (z9g R) w ((W3.setCell ⟨R,1,none⟩ (.int .i64 (tt_:Nat))).setCell ⟨R,3,none⟩ (.int .i64 0))):=z01 (z01 (z0c HC3.out) (z0m _ _ _ _)) (z0m _ _ _ _);have HB5:=kf ((HB2.out.far (p:=⟨R,1,none⟩) (fun e=>HNE.out e.symm) (.int .i64 (tt_:Nat))).far (p:=⟨R,3,none⟩) (fun e=>HNE.out e.symm) (.int .i64 0));obtain⟨W5,hW5⟩:∃ W5,W5=(W3.setCell ⟨R,1,none⟩ (.int .i64 (tt_:Nat))).setCell ⟨R,3,none⟩ (.int .i64 0):=⟨_,rfl⟩
     rw [<- hW5] at HR5 HO5 HB5 ⊢;clear hW5 p0 p1 p2 p3 p4 p5 p6 p7 x0 x1 x2 x3 y1 y3;have HA:=kf (z1z HR5.out false);obtain⟨p0,p1,p2,p3,p4,p5,p6,p7,_,_,_,_,_,_,_,_⟩:=HB5.out.cl8;go_wp2_with (go_at_call 48;refine HA.out.mono ?_;rintro e w6 ⟨rfl,hr6,hc6⟩;have HR6:=kf hr6;have HC6:=kf (z01 HO5.out hc6);have hb6:=HB5.out.chg hc6 (fun e=>HNE.out e.symm);clear p0 p1 p2 p3 p4 p5 p6 p7;obtain⟨p0,p1,p2,p3,p4,p5,p6,p7,_,_,_,_,_,_,_,_⟩:=hb6.cl8;clear hr6 hc6 hb6);go_ret;rw [HZ.out];exact⟨rfl,HR6.out,HC6.out⟩
    have HZ:=kf (HN2.out.trans (show _=(S7,(((tt_:Nat):Int),z3i 0 false)) from by rw [if_neg (fun h=>hk0 h.2),decide_eq_false hk6];rfl));clear HN2 HBD2;have k0:((tk:Int)==0)=false:=by simp;omega
    have k6:((tk:Int)==6)=false:=by simp;omega
    clear hk0 hk6;go_upto_region 7 with fail;have HR5:Hid (RB w0 bs A c R last (((tt_:Nat):Int),0) ((W3.setCell ⟨R,1,none⟩ (.int .i64 (tt_:Nat))).setCell ⟨R,3,none⟩ (.int .i64 0))):=(HR3.out.setA (tt_:Nat)).setE 0;have HO5:Hid (Chg (z9g R) w ((W3.setCell ⟨R,1,none⟩ (.int .i64 (tt_:Nat))).setCell ⟨R,3,none⟩ (.int .i64 0))):=z01 (z01 (z0c HC3.out) (z0m _ _ _ _)) (z0m _ _ _ _);have HB5:=kf ((HB2.out.far (p:=⟨R,1,none⟩) (fun e=>HNE.out e.symm) (.int .i64 (tt_:Nat))).far (p:=⟨R,3,none⟩) (fun e=>HNE.out e.symm) (.int .i64 0));obtain⟨W5,hW5⟩:∃ W5,W5=(W3.setCell ⟨R,1,none⟩ (.int .i64 (tt_:Nat))).setCell ⟨R,3,none⟩ (.int .i64 0):=⟨_,rfl⟩
    rw [<- hW5] at HR5 HO5 HB5 ⊢;clear hW5 p0 p1 p2 p3 p4 p5 p6 p7 x0 x1 x2 x3 y1 y3;have HA:=kf (z1z HR5.out false);obtain⟨p0,p1,p2,p3,p4,p5,p6,p7,_,_,_,_,_,_,_,_⟩:=HB5.out.cl8;go_wp2_with (go_at_call 48;refine HA.out.mono ?_;rintro e w6 ⟨rfl,hr6,hc6⟩;have HR6:=kf hr6;have HC6:=kf (z01 HO5.out hc6);have hb6:=HB5.out.chg hc6 (fun e=>HNE.out e.symm);clear p0 p1 p2 p3 p4 p5 p6 p7;obtain⟨p0,p1,p2,p3,p4,p5,p6,p7,_,_,_,_,_,_,_,_⟩:=hb6.cl8;clear hr6 hc6 hb6);go_ret;rw [HZ.out];exact⟨rfl,HR6.out,HC6.out⟩
   obtain rfl:tk=0:=HBD2.out her;have HZ:=kf (HN2.out.trans (show _=(S7,(((tt_:Nat):Int),z3i er false)) from by rw [if_neg (fun h=>her h.1)];rfl));clear HN2 HBD2;have r1:(er==0)=false:=by simpa using her
   have r2:(er != 0)=true:=by simpa using her
   clear her;go_upto_region 7 with fail;have HR5:Hid (RB w0 bs A c R last (((tt_:Nat):Int),er) ((W3.setCell ⟨R,1,none⟩ (.int .i64 (tt_:Nat))).setCell ⟨R,3,none⟩ (.int .i64 er))):=(HR3.out.setA (tt_:Nat)).setE er;have HO5:Hid (Chg (z9g R) w ((W3.setCell ⟨R,1,none⟩ (.int .i64 (tt_:Nat))).setCell ⟨R,3,none⟩ (.int .i64 er))):=z01 (z01 (z0c HC3.out) (z0m _ _ _ _)) (z0m _ _ _ _);have HB5:=kf ((HB2.out.far (p:=⟨R,1,none⟩) (fun e=>HNE.out e.symm) (.int .i64 (tt_:Nat))).far (p:=⟨R,3,none⟩) (fun e=>HNE.out e.symm) (.int .i64 er));obtain⟨W5,hW5⟩:∃ W5,W5=(W3.setCell ⟨R,1,none⟩ (.int .i64 (tt_:Nat))).setCell ⟨R,3,none⟩ (.int .i64 er):=⟨_,rfl⟩
   rw [<- hW5] at HR5 HO5 HB5 ⊢;clear hW5 p0 p1 p2 p3 p4 p5 p6 p7 x0 x1 x2 x3 y1 y3;have HA:=kf (z1z HR5.out false);obtain⟨p0,p1,p2,p3,p4,p5,p6,p7,_,_,_,_,_,_,_,_⟩:=HB5.out.cl8;go_wp2_with (go_at_call 48;refine HA.out.mono ?_;rintro e w6 ⟨rfl,hr6,hc6⟩;have HR6:=kf hr6;have HC6:=kf (z01 HO5.out hc6);have hb6:=HB5.out.chg hc6 (fun e=>HNE.out e.symm);clear p0 p1 p2 p3 p4 p5 p6 p7;obtain⟨p0,p1,p2,p3,p4,p5,p6,p7,_,_,_,_,_,_,_,_⟩:=hb6.cl8;clear hr6 hc6 hb6);go_ret;rw [HZ.out];exact⟨rfl,HR6.out,HC6.out⟩
 ·have e1:(e==0)=false:=by simpa using he
  have e2:(e != 0)=true:=by simpa using he
  have HZ:=kf (show z79 bs last (a,e)=(⟨#[]⟩,(a,e)) from if_pos he);clear HN2 HBD2 he;rw [HZ.out];go_enter Tryz.func51,Tryz.ntmps51;go_wp2_with fail;go_ret;exact⟨rfl,HR.out,Chg.refl _ _⟩
end Go.Proofs.YtmibnkddappgiaaGreatDoor
