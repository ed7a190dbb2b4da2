/- Merged by program. -/
import Derived.Test.YthejpkflcgjdoaaGreatDoorD18
import Derived.Test.YthejpkflcgjdoaaGreatDoorD20
set_option linter.unusedVariables false
set_option linter.unusedSimpArgs false
namespace Go.Proofs.YthejpkflcgjdoaaGreatDoor
open Go.RowKit
set_option maxHeartbeats 1000000 in
theorem pvalued_any (k:Nat) (n er:Int) (s:ByteArray) (w:World):Calls Tryz.prog 183 #[.agg #[.int .i64 (k:Nat),.int .i64 n,.string s,.slice none 0 0],.int .i64 er] w
  fun e w'=>e=.returned (.tuple #[.agg #[.int .i64 1,.int .i64 0,.int .i64 0,.int .i64 (k:Nat),.int .i64 n,.string s,.slice none 0 0,.string ⟨#[]⟩],.int .i64 er])/\Chg NoS w w':=by
 go_enter Tryz.func183,Tryz.ntmps183
 go_wp2_with fail
 refine bodyPost_ret (v:=.tuple #[.agg #[.int .i64 1,.int .i64 0,.int .i64 0,.int .i64 (k:Nat),.int .i64 n,.string s,.slice none 0 0,.string ⟨#[]⟩],.int .i64 er]) (by simp [results,Tryz.results183,go_sem]) rfl ?_
 exact⟨rfl,((Chg.refl _ _).alloc _).alloc _⟩
def PTk (V w:World) (R:Nat) (r:Int × Tkn) (e:Ending) (W:World):Prop :=
 ∃ (t:Tkn) (p:Nat),e=.returned (.tuple #[tknV t,.int .i64 r.1])/\(r.1=0->t=⟨r.2.kind,0,0,r.2.vk,r.2.vn,r.2.vs,r.2.s⟩/\p=r.2.to)/\RE V w W R p
def noK:Tkn:=⟨0,0,0,0,0,[],[]⟩
theorem noK_V:tknV noK=.agg #[.int .i64 0,.int .i64 0,.int .i64 0,.int .i64 0,.int .i64 0,.string ⟨#[]⟩,.slice none 0 0,.string ⟨#[]⟩]:=rfl
theorem PTk.err {V w:World} {R p:Nat} {r:Int × Tkn} {er:Int} {W:World} (h:r.1=er) (he:er≠0) (hR:RE V w W R p):PTk V w R r (.returned (.tuple #[.agg #[.int .i64 0,.int .i64 0,.int .i64 0,.int .i64 0,.int .i64 0,.string ⟨#[]⟩,.slice none 0 0,.string ⟨#[]⟩],.int .i64 er])) W :=
 ⟨noK,p,by rw [h,noK_V],fun e=>absurd (h.symm.trans e) he,hR⟩
def dictR (last:Bool) (f p:Nat) (l:List Nat):Int × Tkn:=if l.head?=some 62 then(0,⟨5,f,p+1,0,0,[],[]⟩) else if l=[]/\last=false then(6,noT f) else(11,noT f)
set_option maxHeartbeats 1000000 in
theorem pclosed_any {V w W:World} {A:Option Addr} {bs:List Nat} {c R p:Nat} {last:Bool} {out:List Nat} (h:RD V w W A bs.length c last R p out) (hS:Src w 1 A bs.length c (lcells bs)) (hl:bs.length<=1000000) (hc:bs.length<=c) (hp:p<=bs.length) (f:Nat) :
  Calls Tryz.prog 187 #[.pointer (some ⟨R,0,none⟩)] W (PTk V w R (dictR last f p (bs.drop p))):=by
 have HKB:=kf h.kb
 have HR0:=kf h.here
 have hRW:=h.lt
 have hwW:=h.chg.size
 obtain⟨g,hg⟩:∃ g,g=W.heap.size:=⟨_,rfl⟩
 have HG:=kf hg
 have hgR:g≠R:=by omega
 have hgW:W.heap.size<=g:=by omega
 have hgw:w.heap.size<=g:=by omega
 have HBW:=kf (show Blk (W.alloc (.cells #[.int .i64 0,.int .i64 0,.int .i64 0,.int .i64 0,.int .i64 0,.string ⟨#[]⟩,.slice none 0 0,.string ⟨#[]⟩] 131)) g 131 #[.int .i64 0,.int .i64 0,.int .i64 0,.int .i64 0,.int .i64 0,.string ⟨#[]⟩,.slice none 0 0,.string ⟨#[]⟩] from by rw [hg];exact Blk.new _ _ _)
 have HPE:=kf (fun X (hX:RD X w X A bs.length c last R bs.length out)=>ppass_end hX 62)
 have HPN:=kf (fun X x (hX:RD X w X A bs.length c last R p out) (hx:bs[p]?=some x) (hy:x≠62)=>ppass_no hX hS hl hc hx 62 hy)
 have HPA:=kf (fun X (hX:RD X w X A bs.length c last R p out) (hx:bs[p]?=some 62)=>ppass_at hX hS hl hc hx)
 have HCU:=kf (fun X k (hX:RD X w X A bs.length c last R k out)=>pcut_any hX 11)
 have HW1:=kf (HR0.out.alloc (.cells #[.int .i64 0,.int .i64 0,.int .i64 0,.int .i64 0,.int .i64 0,.string ⟨#[]⟩,.slice none 0 0,.string ⟨#[]⟩] 131))
 obtain⟨W1,hW1⟩:∃ W1,W1=W.alloc (.cells #[.int .i64 0,.int .i64 0,.int .i64 0,.int .i64 0,.int .i64 0,.string ⟨#[]⟩,.slice none 0 0,.string ⟨#[]⟩] 131):=⟨_,rfl⟩
 rw [<- hW1] at HW1 HBW
 have HWW:=kf hW1
 clear h hS hg hwW hRW hW1
 by_cases hpn:p=bs.length
 ·have HD:=kf (show dictR last f p (bs.drop p)=if last=false then(6,noT f) else(11,noT f) from by
   rw [hpn,List.drop_of_length_le (Nat.le_refl _)];unfold dictR
   rw [if_neg (by simp)]
   cases last<;>simp)
  have HCU1:=kf (fun X hX=>HCU.out X p hX)
  have HPE1:=kf (show ∀ X,RD X w X A bs.length c last R p out->Calls Tryz.prog 185 #[.pointer (some ⟨R,0,none⟩),.int .u8 (62:Nat)] X fun e W'=>e=.returned (.bool false)/\RD X w W' A bs.length c last R p out from fun X hX=>by rw [hpn] at hX ⊢;exact HPE.out X hX)
  have k2:((p:Int)==bs.length)=true:=by simp;omega
  have k3:(p==bs.length)=true:=by simp;omega
  obtain⟨er,her⟩:∃ er,er=(if last then(11:Int) else 6):=⟨_,rfl⟩
  have HER:=kf (show(dictR last f p (bs.drop p)).1=er/\er≠0 from by rw [HD.out,her];cases last<;>exact⟨rfl,by decide⟩)
  rw [<- her] at HCU1
  clear hpn her
  go_enter Tryz.func187,Tryz.ntmps187
  go_upto_region 1 with fail
  rw [<- HWW.out,<- HG.out]
  go_upto_region 3 with(go_at_call 185;refine(HPE1.out _ HW1.out.here).mono ?_;rintro e w3 ⟨rfl,h3⟩;obtain⟨c2,c3,c4,f3⟩:=h3.cells;have HB3:=kf (h3.kb _ _ _ hgR (by decide) HBW.out);have HR3:=kf (h3.base (HW1.out.kb.trans h3.kb));clear h3)
  go_quiet (fail)
  obtain⟨r0,r1,r2,r3,r4,r5,r6,r7,z0,z1,z2,z3,z4,z5,z6,z7⟩:=(HB3.out.drewN nq).cl8
  go_wp2_with (go_at_call 182;refine(HCU1.out _ (HR3.out.drewN nq).here).mono ?_;rintro e w4 ⟨rfl,rfl⟩)
  refine bodyPost_ret (v:=.tuple #[.agg #[.int .i64 0,.int .i64 0,.int .i64 0,.int .i64 0,.int .i64 0,.string ⟨#[]⟩,.slice none 0 0,.string ⟨#[]⟩],.int .i64 er]) (by simp [results,Tryz.results187,go_sem,r0,r1,r2,r3,r4,r5,r6,r7]) rfl ?_
  exact PTk.err HER.out.1 HER.out.2 (((HR3.out.drewN nq).re.set8 hgR hgW hgw _ _ _ _ _ _ _ _).back HKB.out)
 obtain⟨x,hx,hd⟩:=drop_at (bs:=bs) (k:=p) (by omega)
 by_cases h62:x=62
 ·subst h62
  have HD:=kf (show dictR last f p (bs.drop p)=(0,⟨5,f,p+1,0,0,[],[]⟩) from by rw [hd];exact if_pos rfl)
  have HPA1:=kf (fun X hX=>HPA.out X hX hx)
  clear hx hd hpn
  go_enter Tryz.func187,Tryz.ntmps187
  go_upto_region 1 with fail
  rw [<- HWW.out,<- HG.out]
  go_wp2_with (go_at_call 185;refine(HPA1.out _ HW1.out.here).mono ?_;rintro e w3 ⟨rfl,h3⟩;have HB3:=kf (h3.kb _ _ _ hgR (by decide) HBW.out);have HR3:=kf (h3.base (HW1.out.kb.trans h3.kb));clear h3;obtain⟨r0,r1,r2,r3,r4,r5,r6,r7,z0,z1,z2,z3,z4,z5,z6,z7⟩:=HB3.out.cl8)
  refine bodyPost_ret (v:=.tuple #[.agg #[.int .i64 5,.int .i64 0,.int .i64 0,.int .i64 0,.int .i64 0,.string ⟨#[]⟩,.slice none 0 0,.string ⟨#[]⟩],.int .i64 0]) (by simp [results,Tryz.results187,go_sem,r0,r1,r2,r3,r4,r5,r6,r7]) rfl ?_
  exact⟨⟨5,0,0,0,0,[],[]⟩,p+1,by rw [HD.out];rfl,fun _=>by rw [HD.out];exact⟨rfl,rfl⟩,(HR3.out.re.set8 hgR hgW hgw _ _ _ _ _ _ _ _).back HKB.out⟩
 ·have HD:=kf (show(dictR last f p (bs.drop p)).1=11 from by rw [hd];unfold dictR;rw [if_neg (by simpa using h62),if_neg (by simp)])
  have HPN1:=kf (fun X hX=>HPN.out X x hX hx h62)
  have k2:((p:Int)==bs.length)=false:=by simp;omega
  have k3:(p==bs.length)=false:=by simp;omega
  clear hx hd hpn
  go_enter Tryz.func187,Tryz.ntmps187
  go_upto_region 1 with fail
  rw [<- HWW.out,<- HG.out]
  go_upto_region 3 with(go_at_call 185;refine(HPN1.out _ HW1.out.here).mono ?_;rintro e w3 ⟨rfl,h3⟩;obtain⟨c2,c3,c4,f3⟩:=h3.cells;have HB3:=kf (h3.kb _ _ _ hgR (by decide) HBW.out);have HR3:=kf (h3.base (HW1.out.kb.trans h3.kb));clear h3)
  go_quiet (fail)
  obtain⟨r0,r1,r2,r3,r4,r5,r6,r7,z0,z1,z2,z3,z4,z5,z6,z7⟩:=(HB3.out.drewN nq).cl8
  go_wp2_with fail
  refine bodyPost_ret (v:=.tuple #[.agg #[.int .i64 0,.int .i64 0,.int .i64 0,.int .i64 0,.int .i64 0,.string ⟨#[]⟩,.slice none 0 0,.string ⟨#[]⟩],.int .i64 11]) (by simp [results,Tryz.results187,go_sem,r0,r1,r2,r3,r4,r5,r6,r7]) rfl ?_
  exact PTk.err HD.out (by decide) (((HR3.out.drewN nq).re.set8 hgR hgW hgw _ _ _ _ _ _ _ _).back HKB.out)
def bareR (last:Bool) (f p x:Nat) (l:List Nat):Int × Tkn :=
 if runE last l≠0 then(6,noT f)
 else if isNm x then
  if (numOf (l.take (rgs l))).1≠0 then((numOf (l.take (rgs l))).1,noT f) else(0,⟨1,f,p+rgs l,(numOf (l.take (rgs l))).2.1,(numOf (l.take (rgs l))).2.2,[],[]⟩)
 else(0,⟨6,f,p+rgs l,0,0,[],l.take (rgs l)⟩)
set_option maxHeartbeats 2000000 in
set_option maxRecDepth 100000 in
theorem pbare_any {V w W:World} {A:Option Addr} {bs:List Nat} {c R p x:Nat} {last:Bool} (h:RD V w W A bs.length c last R p []) (hS:Src w 1 A bs.length c (lcells bs)) (hl:bs.length<=500000) (hc:bs.length<=c) (hb:∀ d∈bs,d<256) (hx:bs[p]?=some x) (hr:isRg x=true) (f:Nat) :
  Calls Tryz.prog 189 #[.pointer (some ⟨R,0,none⟩)] W (PTk V w R (bareR last f p x (bs.drop p))):=by
 have hp:p<bs.length:=(List.getElem?_eq_some_iff.1 hx).1
 have hx256:x<256:=hb x (List.mem_of_getElem? hx)
 have HRU:=kf (fun X (hX:RD X w X A bs.length c last R p [])=>prun_any hX hS hl hc (by omega) (by omega))
 have HCR:=kf (fun X=>crune_any x hx256 X)
 have HVA:=kf (fun k n er X=>pvalued_any k n er ⟨#[]⟩ X)
 have HKB:=kf h.kb
 have HR0:=kf h.here
 have hRW:=h.lt
 have hwW:=h.chg.size
 obtain⟨g,hg⟩:∃ g,g=W.heap.size:=⟨_,rfl⟩
 have HG:=kf hg
 have hgR:g≠R:=by omega
 have hgW:W.heap.size<=g:=by omega
 have hgw:w.heap.size<=g:=by omega
 have HBW:=kf (show Blk (W.alloc (.cells #[.int .i64 0,.int .i64 0,.int .i64 0,.int .i64 0,.int .i64 0,.string ⟨#[]⟩,.slice none 0 0,.string ⟨#[]⟩] 131)) g 131 #[.int .i64 0,.int .i64 0,.int .i64 0,.int .i64 0,.int .i64 0,.string ⟨#[]⟩,.slice none 0 0,.string ⟨#[]⟩] from by rw [hg];exact Blk.new _ _ _)
 have HW1:=kf (HR0.out.alloc (.cells #[.int .i64 0,.int .i64 0,.int .i64 0,.int .i64 0,.int .i64 0,.string ⟨#[]⟩,.slice none 0 0,.string ⟨#[]⟩] 131))
 obtain⟨W1,hW1⟩:∃ W1,W1=W.alloc (.cells #[.int .i64 0,.int .i64 0,.int .i64 0,.int .i64 0,.int .i64 0,.string ⟨#[]⟩,.slice none 0 0,.string ⟨#[]⟩] 131):=⟨_,rfl⟩
 rw [<- hW1] at HW1 HBW
 have HWW:=kf hW1
 obtain⟨l,hl0⟩:∃ l,l=bs.drop p:=⟨_,rfl⟩
 obtain⟨m,hm⟩:∃ m,l=x::m:=by
  obtain⟨y,hy,hd⟩:=drop_at (bs:=bs) hp
  rw [hx] at hy
  injection hy with hy
  exact⟨bs.drop (p+1),by rw [hl0,hd,hy]⟩
 have hlb:∀ d∈l,d<256:=fun d hd=>hb d (by rw [hl0] at hd;exact List.mem_of_mem_drop hd)
 have hll:l.length<=500000:=by rw [hl0,List.length_drop];omega
 obtain⟨ws,hws⟩:∃ ws,ws=l.take (rgs l):=⟨_,rfl⟩
 have hwsx:ws=x::m.take (rgs m):=by rw [hws,hm,rgs_go hr,List.take_succ_cons]
 have hwsb:∀ d∈ws,d<256:=fun d hd=>hlb d (by rw [hws] at hd;exact List.mem_of_mem_take hd)
 have hwsl:ws.length<=500000:=by rw [hws,List.length_take];omega
 have hsl:=sl_sb ws hwsb
 have hsz:=sb_size ws
 have HPA:=kf (fun X=>parse_any (sb ws) X (by rw [sb_size];exact hwsl))
 rw [hsl] at HPA
 obtain⟨L,hL⟩:∃ L,L=p+rgs l:=⟨_,rfl⟩
 have HB:=kf (show bareR last f p x l=if runE last l≠0 then(6,noT f) else if isNm x then(if (numOf ws).1≠0 then((numOf ws).1,noT f) else(0,⟨1,f,L,(numOf ws).2.1,(numOf ws).2.2,[],[]⟩)) else(0,⟨6,f,L,0,0,[],ws⟩) from by unfold bareR;rw [hws,hL])
 rw [<- hl0] at HRU ⊢
 rw [<- hws,<- hL] at HRU
 obtain⟨t,ht⟩:∃ t,sb ws=t:=⟨_,rfl⟩
 have HTS:=kf ht
 rw [ht] at HRU HPA hsl hsz
 have g0:∀ k:0<t.size,(t[0]'k).toNat=x:=fun k=>by rw [sl_at,hsl,hwsx];rfl
 obtain⟨N,hN⟩:∃ N,t.size=N:=⟨_,rfl⟩
 have hN0:0<N:=by rw [<- hN,hsz,hwsx];exact Nat.zero_lt_succ _
 have hN1:(0:Int)<N:=by omega
 obtain⟨er0,K,n,hNu⟩:∃ er0 K n,numOf ws=(er0,K,n):=⟨_,_,_,rfl⟩
 rw [hNu] at HB
 have HPA1:=kf (fun X=>(show Calls Tryz.prog 213 #[.string t] X fun e w'=>e=.returned (.tuple #[.agg #[.int .i64 (K:Nat),.int .i64 n,.string ⟨#[]⟩,.slice none 0 0],.int .i64 er0])/\Chg NoS X w' from by
  have h9:=HPA.out X
  unfold PaTo at h9
  rw [hNu] at h9
  exact h9))
 have hw32:IntKind.i32.wrap (x:Int)=(x:Int):=by rw [IntKind.wrap_i32];omega
 clear h hS hg hwW hRW hW1 hl0 hm hlb hll hws hwsx hwsb hwsl hsl hsz hL ht hb hx hNu HPA hl hc hp
 rcases runE_two last l with hE|hE
 case inr =>
  rw [hE] at HRU HB
  clear hE
  have HB2:=kf (HB.out.trans (if_pos (show(6:Int)≠0 by decide)))
  go_enter Tryz.func189,Tryz.ntmps189
  go_upto_region 1 with fail
  rw [<- HWW.out,<- HG.out]
  go_wp2_with (go_at_call 209;refine(HRU.out _ HW1.out.here).mono ?_;rintro e w3 ⟨rfl,h3⟩;have HB3:=kf (h3.kb _ _ _ hgR (by decide) HBW.out);have HR3:=kf (h3.base (HW1.out.kb.trans h3.kb));clear h3;obtain⟨r0,r1,r2,r3,r4,r5,r6,r7,z0,z1,z2,z3,z4,z5,z6,z7⟩:=HB3.out.cl8)
  refine bodyPost_ret (v:=.tuple #[.agg #[.int .i64 0,.int .i64 0,.int .i64 0,.int .i64 0,.int .i64 0,.string ⟨#[]⟩,.slice none 0 0,.string ⟨#[]⟩],.int .i64 6]) (by simp [results,Tryz.results189,go_sem,r0,r1,r2,r3,r4,r5,r6,r7]) rfl ?_
  exact PTk.err (by rw [HB2.out]) (by decide) ((HR3.out.re.set8 hgR hgW hgw _ _ _ _ _ _ _ _).back HKB.out)
 rw [hE] at HRU HB
 clear hE
 have HB1:=kf (HB.out.trans (if_neg (fun h9=>h9 rfl)))
 cases hNm:isNm x with
 |false =>
  rw [hNm] at HCR HB1
  have HB2:=kf (HB1.out.trans (if_neg (by decide)))
  clear hNm
  go_enter Tryz.func189,Tryz.ntmps189
  go_upto_region 1 with fail
  rw [<- HWW.out,<- HG.out]
  go_wp2_with first
   |(go_at_call 209;refine(HRU.out _ HW1.out.here).mono ?_;rintro e w3 ⟨rfl,h3⟩;have HB3:=kf (h3.kb _ _ _ hgR (by decide) HBW.out);have HR3:=kf (h3.base (HW1.out.kb.trans h3.kb));clear h3)
   |(go_at_call 212;refine(HCR.out _).mono ?_;rintro e w4 ⟨rfl,hc4⟩;have HR4:=kf (HR3.out.call hc4);have HB4:=kf (HB3.out.chg hc4 (fun h=>h));clear hc4;obtain⟨r0,r1,r2,r3,r4,r5,r6,r7,z0,z1,z2,z3,z4,z5,z6,z7⟩:=HB4.out.cl8)
  refine bodyPost_ret (v:=.tuple #[.agg #[.int .i64 6,.int .i64 0,.int .i64 0,.int .i64 0,.int .i64 0,.string ⟨#[]⟩,.slice none 0 0,.string t],.int .i64 0]) (by simp [results,Tryz.results189,go_sem,r0,r1,r2,r3,r4,r5,r6,r7]) rfl ?_
  exact⟨⟨6,0,0,0,0,[],ws⟩,L,by rw [HB2.out,<- HTS.out];rfl,fun _=>by rw [HB2.out];exact⟨rfl,rfl⟩,(HR4.out.re.set8 hgR hgW hgw _ _ _ _ _ _ _ _).back HKB.out⟩
 |true =>
  rw [hNm] at HCR HB1
  have HB2:=kf (HB1.out.trans (if_pos rfl))
  clear hNm
  go_enter Tryz.func189,Tryz.ntmps189
  go_upto_region 1 with fail
  rw [<- HWW.out,<- HG.out]
  go_wp2_with first
   |(go_at_call 209;refine(HRU.out _ HW1.out.here).mono ?_;rintro e w3 ⟨rfl,h3⟩;have HB3:=kf (h3.kb _ _ _ hgR (by decide) HBW.out);have HR3:=kf (h3.base (HW1.out.kb.trans h3.kb));clear h3)
   |(go_at_call 212;refine(HCR.out _).mono ?_;rintro e w4 ⟨rfl,hc4⟩;have HR4:=kf (HR3.out.call hc4);have HB4:=kf (HB3.out.chg hc4 (fun h=>h));clear hc4)
   |(go_at_call 213;refine(HPA1.out _).mono ?_;rintro e w5 ⟨rfl,hc5⟩;have HR5:=kf (HR4.out.call hc5);have HB5:=kf (HB4.out.chg hc5 (fun h=>h));clear hc5)
   |(go_at_call 183;refine(HVA.out _ _ _ _).mono ?_;rintro e w6 ⟨rfl,hc6⟩;have HR6:=kf (HR5.out.call hc6);have HB6:=kf (HB5.out.chg hc6 (fun h=>h));clear hc6;obtain⟨r0,r1,r2,r3,r4,r5,r6,r7,z0,z1,z2,z3,z4,z5,z6,z7⟩:=HB6.out.cl8)
  refine bodyPost_ret (v:=.tuple #[.agg #[.int .i64 1,.int .i64 0,.int .i64 0,.int .i64 (K:Nat),.int .i64 n,.string ⟨#[]⟩,.slice none 0 0,.string ⟨#[]⟩],.int .i64 er0]) (by simp [results,Tryz.results189,go_sem,r0,r1,r2,r3,r4,r5,r6,r7]) rfl ?_
  have HRF:=kf ((HR6.out.re.set8 hgR hgW hgw (.int .i64 1) (.int .i64 0) (.int .i64 0) (.int .i64 (K:Nat)) (.int .i64 n) (.string ⟨#[]⟩) (.slice none 0 0) (.string ⟨#[]⟩)).back HKB.out)
  by_cases he:er0=0
  ·have HB3:=kf (HB2.out.trans (if_neg (fun h9=>h9 he)))
   exact⟨⟨1,0,0,K,n,[],[]⟩,L,by rw [HB3.out,he];rfl,fun _=>by rw [HB3.out];exact⟨rfl,rfl⟩,HRF.out⟩
  ·have HB3:=kf (HB2.out.trans (if_pos he))
   exact⟨⟨1,0,0,K,n,[],[]⟩,L,by rw [HB3.out];rfl,fun h9=>absurd (by rw [HB3.out] at h9;exact h9) he,HRF.out⟩
end Go.Proofs.YthejpkflcgjdoaaGreatDoor
