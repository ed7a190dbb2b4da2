import Derived.Test.YtmibnkddappgiaaGreatDoorK14
set_option linter.unusedVariables false
set_option maxHeartbeats 64000000
set_option maxRecDepth 100000
set_option linter.unusedSimpArgs false
namespace Go.Proofs.YtmibnkddappgiaaGreatDoor
open Go.RowKit
theorem PTo.open_ {V w:World} {R kind:Nat} {r:Int × List Nat × Nat} {e:Ending} {W:World} (h:PTo V w R kind r e W) :
  ∃ (K:Nat) (vs:List Nat) (S:ByteArray) (p:Nat),Hid (S=sb vs)/\e=.returned (.tuple #[.agg #[.int .i64 (K:Nat),.int .i64 0,.string S,.slice none 0 0],.int .i64 r.1])/\Hid (r.1=0->K=kind/\vs=r.2.1/\p=r.2.2)/\RE V w W R p:=by
 obtain⟨he,p,hp,hR⟩:=h;by_cases h0:r.1=0
 ·refine⟨kind,r.2.1,sb r.2.1,p,rfl,?_,fun _=>⟨rfl,rfl,hp h0⟩,hR⟩;rw [he];unfold TkV;rw [if_pos h0]
 ·refine⟨0,[],⟨#[]⟩,p,rfl,?_,fun h9=>absurd h9 h0,hR⟩;rw [he];unfold TkV;rw [if_neg h0];rfl
theorem PTk.value {V w:World} {R f kind K p:Nat} {r:Int × List Nat × Nat} {q:Int × Tkn} {vs:List Nat} {S:ByteArray} {W:World} (h:q=if r.1≠0 then(r.1,noT f) else(0,⟨1,f,r.2.2,kind,0,r.2.1,[]⟩)) (hS:Hid (S=sb vs)) (hk:Hid (r.1=0->K=kind/\vs=r.2.1/\p=r.2.2)) (hR:RE V w W R p) :
  PTk V w R q (.returned (.tuple #[.agg #[.int .i64 1,.int .i64 0,.int .i64 0,.int .i64 (K:Nat),.int .i64 0,.string S,.slice none 0 0,.string ⟨#[]⟩],.int .i64 r.1])) W:=by
 by_cases h0:r.1=0
 ·obtain⟨rfl,rfl,rfl⟩:=hk.out h0;rw [if_neg (fun e=>e h0)] at h;subst h;exact⟨⟨1,0,0,K,0,r.2.1,[]⟩,r.2.2,by rw [h0,hS.out];rfl,fun _=>⟨rfl,rfl⟩,hR⟩
 ·rw [if_pos h0] at h;subst h;exact⟨⟨1,0,0,K,0,vs,[]⟩,p,by rw [hS.out];rfl,fun e=>absurd e h0,hR⟩
def tkR (last:Bool) (p:Nat):List Nat->Int × Tkn
 |[]=>(if last then 0 else 6,noT p)
 |x::l=>z2t last p x l
theorem v2d {last:Bool} {p:Nat} {l:List Nat} (h:¬l.head?=some 60):z2t last p 60 l=if (z2l last [] (p+1) l).1≠0 then((z2l last [] (p+1) l).1,noT p) else(0,⟨1,p,(z2l last [] (p+1) l).2.2,4,0,(z2l last [] (p+1) l).2.1,[]⟩):=v3e last p l h
theorem v3c (last:Bool) (p:Nat) (l:List Nat):z2t last p 62 l=z7m last p (p+1) l:=by
 unfold z7m;by_cases h:l.head?=some 62
 ·rw [y90 h,if_pos h]
 ·rw [if_neg h];by_cases h2:l=[]/\last=false
  ·rw [if_pos h2,v3a h2.1 h2.2]
  ·rw [if_neg h2,v3b h h2]
theorem v3d (last:Bool) (p:Nat) (l:List Nat):z2t last p 47 l=if (y8o last (p+1) l).1≠0 then((y8o last (p+1) l).1,noT p) else(0,⟨1,p,(y8o last (p+1) l).2.2,5,0,(y8o last (p+1) l).2.1,[]⟩):=by
 rw [v6j];unfold y8o z9e;by_cases h:rgs l=l.length/\last=false
 ·rw [if_pos h,if_pos h,if_pos (show(6:Int)≠0 by decide),if_pos (show(6:Int)≠0 by decide)]
 ·rw [if_neg h,if_neg h,if_neg (show ¬(0:Int)≠0 by decide)]
theorem y8z {last:Bool} {p x:Nat} {l:List Nat} (hr:y0h x=true):z2t last p x l=y4v last p p x (x::l):=by
 have hd:z6b x=false:=by
  unfold y0h at hr;cases h:z6b x with
  |false=>rfl
  |true=>rw [h] at hr;cases h2:z5u x<;>rw [h2] at hr<;>cases hr
 have hne:∀ k,z6b k=true->x≠k:=fun k hk e=>by rw [e,hk] at hd;cases hd
 rw [y2b (hne 91 rfl) (hne 93 rfl) (hne 60 rfl) (hne 62 rfl) (hne 40 rfl) (hne 47 rfl),hd];rw [if_neg (show ¬(false=true) by decide)];by_cases h:rgs l=l.length/\last=false
 ·have hE:z9e last (x::l)=6:=by unfold z9e;rw [y03 hr];exact if_pos ⟨by simp only [List.length_cons];omega,h.2⟩
  rw [if_pos h];exact(if_pos (show z9e last (x::l)≠0 from by rw [hE];decide)).symm
 ·have hE:z9e last (x::l)=0:=by unfold z9e;rw [y03 hr];exact if_neg (fun e=>h ⟨by have:=e.1;simp only [List.length_cons] at this;omega,e.2⟩)
  rw [if_neg h];refine Eq.trans ?_ (if_neg (show ¬z9e last (x::l)≠0 from fun e=>e hE)).symm;rw [y03 hr,show p+(rgs l+1)=p+1+rgs l by omega]
theorem y49 {V w W:World} {A:Option Addr} {bs:List Nat} {c R p:Nat} {last:Bool} (h:RD V w W A bs.length c last R p []) (hS:Src w 1 A bs.length c (z09 bs)) (hl:bs.length<=500000) (hc:bs.length<=c) (hp:p<=bs.length) (hb:∀ d∈bs,d<256) (hns:∀ x,bs[p]?=some x->z5u x=false/\x≠37) :
  Calls Tryz.prog 104 #[.pointer (some ⟨R,0,none⟩)] W (PTk V w R (tkR last p (bs.drop p))):=by
 have hl6:bs.length<=1000000:=by omega
 have hp9:p<=500000:=by omega
 have HTE:=kf (fun X (hX:RD X w X A bs.length c last R bs.length [])=>z6p hX);have HTA:=kf (fun X k x (hX:RD X w X A bs.length c last R k []) (hx:bs[k]?=some x)=>z8o hX hS hl6 hc hx);have HPE:=kf (fun X (hX:RD X w X A bs.length c last R bs.length [])=>z6q hX 60);have HPN:=kf (fun X k x (hX:RD X w X A bs.length c last R k []) (hx:bs[k]?=some x) (hy:x≠60)=>z8p hX hS hl6 hc hx 60 hy);have HPA:=kf (fun X k (hX:RD X w X A bs.length c last R k []) (hx:bs[k]?=some 60)=>z8q hX hS hl6 hc hx);have HCU:=kf (fun X k (hX:RD X w X A bs.length c last R k [])=>z4l hX 0);have HTX:=kf (fun X k (hX:RD X w X A bs.length c last R k []) (hk:k<=bs.length)=>y64 hX hS hl hc hk hb);have HHX:=kf (fun X k (hX:RD X w X A bs.length c last R k []) (hk:k<=bs.length)=>y9x hX hS hl hc hk hb);have HNM:=kf (fun X k (hX:RD X w X A bs.length c last R k []) (hk:k<=bs.length) (h0:0<bs.length)=>y6a hX hS hl hc hk hb h0);have HCD:=kf (fun X k f (hX:RD X w X A bs.length c last R k []) (hk:k<=bs.length)=>y1f hX hS hl6 hc hk f);have HBA:=kf (fun X k x f (hX:RD X w X A bs.length c last R k []) (hx:bs[k]?=some x) (hr:y0h x=true)=>y6c hX hS hl hc hb hx hr f);have HVA:=kf (fun k n er s X=>z6o k n er s X);have HKB:=kf h.kb;have HR0:=kf h.here;have hRW:=h.lt;have hwW:=h.chg.size;obtain⟨g,hg⟩:∃ g,g=W.heap.size:=⟨_,rfl⟩
 have HG:=kf hg;have hgR:g≠R:=by omega
 have hgW:W.heap.size<=g:=by omega
 have hgw:w.heap.size<=g:=by omega
 have HBW:=kf (show Blk (W.alloc (.cells #[.int .i64 0,.int .i64 0,.int .i64 0,.int .i64 0,.int .i64 0,.string ⟨#[]⟩,.slice none 0 0,.string ⟨#[]⟩] 111)) g 111 #[.int .i64 0,.int .i64 0,.int .i64 0,.int .i64 0,.int .i64 0,.string ⟨#[]⟩,.slice none 0 0,.string ⟨#[]⟩] from by rw [hg];exact Blk.new _ _ _);have HW1:=kf (HR0.out.alloc (.cells #[.int .i64 0,.int .i64 0,.int .i64 0,.int .i64 0,.int .i64 0,.string ⟨#[]⟩,.slice none 0 0,.string ⟨#[]⟩] 111));obtain⟨W1,hW1⟩:∃ W1,W1=W.alloc (.cells #[.int .i64 0,.int .i64 0,.int .i64 0,.int .i64 0,.int .i64 0,.string ⟨#[]⟩,.slice none 0 0,.string ⟨#[]⟩] 111):=⟨_,rfl⟩
 rw [<- hW1] at HW1 HBW;have HWW:=kf hW1;clear h hS hg hwW hRW hW1 hb hl hc hl6;by_cases hpn:p=bs.length
 ·have HD:=kf (show tkR last p (bs.drop p)=(if last then 0 else 6,noT p) from by rw [hpn,List.drop_of_length_le (Nat.le_refl _)];rfl);have HTE1:=kf (show ∀ X,RD X w X A bs.length c last R p []->Calls Tryz.prog 130 #[.pointer (some ⟨R,0,none⟩)] X fun e W'=>e=.returned (.tuple #[.int .u8 0,.bool false])/\RD X w W' A bs.length c last R p [] from fun X hX=>by rw [hpn] at hX ⊢;exact HTE.out X hX);have HCU1:=kf (fun X hX=>HCU.out X p hX);obtain⟨er,her⟩:∃ er,er=(if last then(0:Int) else 6):=⟨_,rfl⟩
  rw [<- her] at HD HCU1;clear hpn her hns;go_enter Tryz.func104,Tryz.ntmps104;go_upto_region 1 with fail;rw [<- HWW.out,<- HG.out]
  go_wp2_with first
   |(go_at_call 130;refine(HTE1.out _ HW1.out.here).mono ?_;rintro e w3 ⟨rfl,h3⟩;have HB3:=kf (h3.kb _ _ _ hgR (by decide) HBW.out);have HR3:=kf (h3.base (HW1.out.kb.trans h3.kb));clear h3;obtain⟨r0,r1,r2,r3,r4,r5,r6,r7,z0,z1,z2,z3,z4,z5,z6,z7⟩:=HB3.out.cl8)
   |(go_at_call 131;refine(HCU1.out _ HR3.out.here).mono ?_;rintro e w4 ⟨rfl,rfl⟩)
  refine bodyPost_ret (v:=.tuple #[.agg #[.int .i64 0,.int .i64 0,.int .i64 0,.int .i64 0,.int .i64 0,.string ⟨#[]⟩,.slice none 0 0,.string ⟨#[]⟩],.int .i64 er]) (by simp [results,Tryz.results104,go_sem,r0,r1,r2,r3,r4,r5,r6,r7]) rfl ?_;exact⟨noK,p,by rw [HD.out];rfl,fun _=>by rw [HD.out];exact⟨rfl,rfl⟩,(HR3.out.re.set8 hgR hgW hgw _ _ _ _ _ _ _ _).back HKB.out⟩
 obtain⟨x,hx,hd⟩:=z1f (bs:=bs) (k:=p) (by omega);have hk1:p+1<=bs.length:=by omega
 have h0:0<bs.length:=by omega
 have HX:=kf hx;obtain⟨hsp,h37⟩:=hns x hx;have HT:=kf (show tkR last p (bs.drop p)=z2t last p x (bs.drop (p+1)) from by rw [hd];rfl);clear hx hd hns hpn;by_cases h91:x=91
 ·subst h91;have HD:=kf (HT.out.trans v6i);go_enter Tryz.func104,Tryz.ntmps104;go_upto_region 1 with fail;rw [<- HWW.out,<- HG.out];go_wp2_with (go_at_call 130;refine(HTA.out _ _ _ HW1.out.here HX.out).mono ?_;rintro e w3 ⟨rfl,h3⟩;have HB3:=kf (h3.kb _ _ _ hgR (by decide) HBW.out);have HR3:=kf (h3.base (HW1.out.kb.trans h3.kb));clear h3;obtain⟨r0,r1,r2,r3,r4,r5,r6,r7,z0,z1,z2,z3,z4,z5,z6,z7⟩:=HB3.out.cl8);refine bodyPost_ret (v:=.tuple #[.agg #[.int .i64 2,.int .i64 0,.int .i64 0,.int .i64 0,.int .i64 0,.string ⟨#[]⟩,.slice none 0 0,.string ⟨#[]⟩],.int .i64 0]) (by simp [results,Tryz.results104,go_sem,r0,r1,r2,r3,r4,r5,r6,r7]) rfl ?_;exact⟨⟨2,0,0,0,0,[],[]⟩,p+1,by rw [HD.out];rfl,fun _=>by rw [HD.out];exact⟨rfl,rfl⟩,(HR3.out.re.set8 hgR hgW hgw _ _ _ _ _ _ _ _).back HKB.out⟩
 have e91:((x:Int)==91)=false:=by simp;omega
 by_cases h93:x=93
 ·subst h93;have HD:=kf (HT.out.trans v6h);go_enter Tryz.func104,Tryz.ntmps104;go_upto_region 1 with fail;rw [<- HWW.out,<- HG.out];go_wp2_with (go_at_call 130;refine(HTA.out _ _ _ HW1.out.here HX.out).mono ?_;rintro e w3 ⟨rfl,h3⟩;have HB3:=kf (h3.kb _ _ _ hgR (by decide) HBW.out);have HR3:=kf (h3.base (HW1.out.kb.trans h3.kb));clear h3;obtain⟨r0,r1,r2,r3,r4,r5,r6,r7,z0,z1,z2,z3,z4,z5,z6,z7⟩:=HB3.out.cl8);refine bodyPost_ret (v:=.tuple #[.agg #[.int .i64 3,.int .i64 0,.int .i64 0,.int .i64 0,.int .i64 0,.string ⟨#[]⟩,.slice none 0 0,.string ⟨#[]⟩],.int .i64 0]) (by simp [results,Tryz.results104,go_sem,r0,r1,r2,r3,r4,r5,r6,r7]) rfl ?_;exact⟨⟨3,0,0,0,0,[],[]⟩,p+1,by rw [HD.out];rfl,fun _=>by rw [HD.out];exact⟨rfl,rfl⟩,(HR3.out.re.set8 hgR hgW hgw _ _ _ _ _ _ _ _).back HKB.out⟩
 have e93:((x:Int)==93)=false:=by simp;omega
 by_cases h40:x=40
 ·subst h40;have HD:=kf (HT.out.trans v6k);obtain⟨r,hr⟩:∃ r,r=z13 last 1 [] (p+1) (bs.drop (p+1)):=⟨_,rfl⟩
  have HTX1:=kf (fun X hX=>HTX.out X (p+1) hX hk1);rw [<- hr] at HD HTX1;clear hr;go_enter Tryz.func104,Tryz.ntmps104;go_upto_region 1 with fail;rw [<- HWW.out,<- HG.out]
  go_wp2_with first
   |(go_at_call 130;refine(HTA.out _ _ _ HW1.out.here HX.out).mono ?_;rintro e w3 ⟨rfl,h3⟩;have HB3:=kf (h3.kb _ _ _ hgR (by decide) HBW.out);have HR3:=kf (h3.base (HW1.out.kb.trans h3.kb));clear h3)
   |(go_at_call 133;refine(HTX1.out _ HR3.out.here).mono ?_;rintro e w4 h4;obtain⟨K,vs,S,p4,hS4,rfl,hk4,hre⟩:=h4.open_;have HB4:=kf (hre.kb _ _ _ hgR (by decide) HB3.out);have HR4:=kf (hre.back HR3.out.kb);clear hre h4)
   |(go_at_call 132;refine(HVA.out _ _ _ _ _).mono ?_;rintro e w6 ⟨rfl,hc6⟩;have HR6:=kf (HR4.out.call hc6);have HB6:=kf (HB4.out.chg hc6 (fun h=>h));clear hc6;obtain⟨r0,r1,r2,r3,r4,r5,r6,r7,z0,z1,z2,z3,z4,z5,z6,z7⟩:=HB6.out.cl8)
  refine bodyPost_ret (v:=.tuple #[.agg #[.int .i64 1,.int .i64 0,.int .i64 0,.int .i64 (K:Nat),.int .i64 0,.string S,.slice none 0 0,.string ⟨#[]⟩],.int .i64 r.1]) (by simp [results,Tryz.results104,go_sem,r0,r1,r2,r3,r4,r5,r6,r7]) rfl ?_;have HRF:=kf ((HR6.out.set8 hgR hgW hgw (.int .i64 1) (.int .i64 0) (.int .i64 0) (.int .i64 (K:Nat)) (.int .i64 0) (.string S) (.slice none 0 0) (.string ⟨#[]⟩)).back HKB.out);exact PTk.value HD.out hS4 hk4 HRF.out
 have e40:((x:Int)==40)=false:=by simp;omega
 by_cases h60:x=60
 ·subst h60;clear e91 e93 h91 h93 h40 e40;by_cases hz:p+1=bs.length
  ·have HZ:=kf (show bs.drop (p+1)=[] from List.drop_of_length_le (by omega));have HPE1:=kf (show ∀ X,RD X w X A bs.length c last R (p+1) []->Calls Tryz.prog 134 #[.pointer (some ⟨R,0,none⟩),.int .u8 (60:Nat)] X fun e W'=>e=.returned (.bool false)/\RD X w W' A bs.length c last R (p+1) [] from fun X hX=>by rw [hz] at hX ⊢;exact HPE.out X hX);have HD:=kf (HT.out.trans (v2d (by rw [HZ.out];simp)));obtain⟨r,hr⟩:∃ r,r=z2l last [] (p+1) (bs.drop (p+1)):=⟨_,rfl⟩
   have HHX1:=kf (fun X hX=>HHX.out X (p+1) hX hk1);rw [<- hr] at HD HHX1;clear hr hz;go_enter Tryz.func104,Tryz.ntmps104;go_upto_region 1 with fail;rw [<- HWW.out,<- HG.out];go_wp2_with first
   |(go_at_call 130;refine(HTA.out _ _ _ HW1.out.here HX.out).mono ?_;rintro e w3 ⟨rfl,h3⟩;have HB3:=kf (h3.kb _ _ _ hgR (by decide) HBW.out);have HR3:=kf (h3.base (HW1.out.kb.trans h3.kb));clear h3)
   |(go_at_call 134;refine(HPE1.out _ HR3.out.here).mono ?_;rintro e w5 ⟨rfl,h5⟩;have HB5:=kf (h5.kb _ _ _ hgR (by decide) HB3.out);have HR5:=kf (h5.base (HR3.out.kb.trans h5.kb));clear h5)
   |(go_at_call 135;refine(HHX1.out _ HR5.out.here).mono ?_;rintro e w4 h4;obtain⟨K,vs,S,p4,hS4,rfl,hk4,hre⟩:=h4.open_;have HB4:=kf (hre.kb _ _ _ hgR (by decide) HB5.out);have HR4:=kf (hre.back HR5.out.kb);clear hre h4)
   |(go_at_call 132;refine(HVA.out _ _ _ _ _).mono ?_;rintro e w6 ⟨rfl,hc6⟩;have HR6:=kf (HR4.out.call hc6);have HB6:=kf (HB4.out.chg hc6 (fun h=>h));clear hc6;obtain⟨r0,r1,r2,r3,r4,r5,r6,r7,z0,z1,z2,z3,z4,z5,z6,z7⟩:=HB6.out.cl8)
   refine bodyPost_ret (v:=.tuple #[.agg #[.int .i64 1,.int .i64 0,.int .i64 0,.int .i64 (K:Nat),.int .i64 0,.string S,.slice none 0 0,.string ⟨#[]⟩],.int .i64 r.1]) (by simp [results,Tryz.results104,go_sem,r0,r1,r2,r3,r4,r5,r6,r7]) rfl ?_;have HRF:=kf ((HR6.out.set8 hgR hgW hgw (.int .i64 1) (.int .i64 0) (.int .i64 0) (.int .i64 (K:Nat)) (.int .i64 0) (.string S) (.slice none 0 0) (.string ⟨#[]⟩)).back HKB.out);exact PTk.value HD.out hS4 hk4 HRF.out
  obtain⟨y,hy,hdy⟩:=z1f (bs:=bs) (k:=p+1) (by omega);by_cases hy60:y=60
  ·subst hy60;have HPA1:=kf (fun X hX=>HPA.out X (p+1) hX hy);have HD:=kf (HT.out.trans (y91 (by rw [hdy];rfl)));clear hy hdy hz;go_enter Tryz.func104,Tryz.ntmps104;go_upto_region 1 with fail;rw [<- HWW.out,<- HG.out];go_wp2_with first
   |(go_at_call 130;refine(HTA.out _ _ _ HW1.out.here HX.out).mono ?_;rintro e w3 ⟨rfl,h3⟩;have HB3:=kf (h3.kb _ _ _ hgR (by decide) HBW.out);have HR3:=kf (h3.base (HW1.out.kb.trans h3.kb));clear h3)
   |(go_at_call 134;refine(HPA1.out _ HR3.out.here).mono ?_;rintro e w5 ⟨rfl,h5⟩;have HB5:=kf (h5.kb _ _ _ hgR (by decide) HB3.out);have HR5:=kf (h5.base (HR3.out.kb.trans h5.kb));clear h5;obtain⟨r0,r1,r2,r3,r4,r5,r6,r7,z0,z1,z2,z3,z4,z5,z6,z7⟩:=HB5.out.cl8)
   refine bodyPost_ret (v:=.tuple #[.agg #[.int .i64 4,.int .i64 0,.int .i64 0,.int .i64 0,.int .i64 0,.string ⟨#[]⟩,.slice none 0 0,.string ⟨#[]⟩],.int .i64 0]) (by simp [results,Tryz.results104,go_sem,r0,r1,r2,r3,r4,r5,r6,r7]) rfl ?_;exact⟨⟨4,0,0,0,0,[],[]⟩,p+1+1,by rw [HD.out];rfl,fun _=>by rw [HD.out];exact⟨rfl,rfl⟩,(HR5.out.re.set8 hgR hgW hgw _ _ _ _ _ _ _ _).back HKB.out⟩
  ·have HPN1:=kf (fun X hX=>HPN.out X (p+1) y hX hy hy60);have HD:=kf (HT.out.trans (v2d (by rw [hdy];simpa using hy60)));obtain⟨r,hr⟩:∃ r,r=z2l last [] (p+1) (bs.drop (p+1)):=⟨_,rfl⟩
   have HHX1:=kf (fun X hX=>HHX.out X (p+1) hX hk1);rw [<- hr] at HD HHX1;clear hr hz hy hdy;go_enter Tryz.func104,Tryz.ntmps104;go_upto_region 1 with fail;rw [<- HWW.out,<- HG.out];go_wp2_with first
   |(go_at_call 130;refine(HTA.out _ _ _ HW1.out.here HX.out).mono ?_;rintro e w3 ⟨rfl,h3⟩;have HB3:=kf (h3.kb _ _ _ hgR (by decide) HBW.out);have HR3:=kf (h3.base (HW1.out.kb.trans h3.kb));clear h3)
   |(go_at_call 134;refine(HPN1.out _ HR3.out.here).mono ?_;rintro e w5 ⟨rfl,h5⟩;have HB5:=kf (h5.kb _ _ _ hgR (by decide) HB3.out);have HR5:=kf (h5.base (HR3.out.kb.trans h5.kb));clear h5)
   |(go_at_call 135;refine(HHX1.out _ HR5.out.here).mono ?_;rintro e w4 h4;obtain⟨K,vs,S,p4,hS4,rfl,hk4,hre⟩:=h4.open_;have HB4:=kf (hre.kb _ _ _ hgR (by decide) HB5.out);have HR4:=kf (hre.back HR5.out.kb);clear hre h4)
   |(go_at_call 132;refine(HVA.out _ _ _ _ _).mono ?_;rintro e w6 ⟨rfl,hc6⟩;have HR6:=kf (HR4.out.call hc6);have HB6:=kf (HB4.out.chg hc6 (fun h=>h));clear hc6;obtain⟨r0,r1,r2,r3,r4,r5,r6,r7,z0,z1,z2,z3,z4,z5,z6,z7⟩:=HB6.out.cl8)
   refine bodyPost_ret (v:=.tuple #[.agg #[.int .i64 1,.int .i64 0,.int .i64 0,.int .i64 (K:Nat),.int .i64 0,.string S,.slice none 0 0,.string ⟨#[]⟩],.int .i64 r.1]) (by simp [results,Tryz.results104,go_sem,r0,r1,r2,r3,r4,r5,r6,r7]) rfl ?_;have HRF:=kf ((HR6.out.set8 hgR hgW hgw (.int .i64 1) (.int .i64 0) (.int .i64 0) (.int .i64 (K:Nat)) (.int .i64 0) (.string S) (.slice none 0 0) (.string ⟨#[]⟩)).back HKB.out);exact PTk.value HD.out hS4 hk4 HRF.out
 have e60:((x:Int)==60)=false:=by simp;omega
 by_cases h62:x=62
 ·subst h62;have HD:=kf (HT.out.trans (v3c last p _));have HCD1:=kf (fun X hX=>HCD.out X (p+1) p hX hk1);go_enter Tryz.func104,Tryz.ntmps104;go_upto_region 1 with fail;rw [<- HWW.out,<- HG.out]
  go_wp2_with first
   |(go_at_call 130;refine(HTA.out _ _ _ HW1.out.here HX.out).mono ?_;rintro e w3 ⟨rfl,h3⟩;have HB3:=kf (h3.kb _ _ _ hgR (by decide) HBW.out);have HR3:=kf (h3.base (HW1.out.kb.trans h3.kb));clear h3)
   |(go_at_call 136;refine(HCD1.out _ HR3.out.here).mono ?_;rintro e w4 ⟨t4,p4,rfl,ht4,hre⟩;have HT4:=kf ht4;have HB4:=kf (hre.kb _ _ _ hgR (by decide) HB3.out);have HR4:=kf (hre.back HR3.out.kb);clear hre ht4;obtain⟨r0,r1,r2,r3,r4,r5,r6,r7,z0,z1,z2,z3,z4,z5,z6,z7⟩:=HB4.out.cl8;obtain⟨k1,k2,k3,k4,k5,k6,k7⟩:=t4;unfold z9l;obtain⟨S6,hS6⟩:∃ S6,S6=sb k6:=⟨_,rfl⟩;obtain⟨S7,hS7⟩:∃ S7,S7=sb k7:=⟨_,rfl⟩;simp only [];rw [<- hS6,<- hS7];have HS6:=kf hS6;have HS7:=kf hS7;clear hS6 hS7)
  refine bodyPost_ret (v:=.tuple #[.agg #[.int .i64 (k1:Nat),.int .i64 (k2:Nat),.int .i64 (k3:Nat),.int .i64 (k4:Nat),.int .i64 k5,.string S6,.slice none 0 0,.string S7],.int .i64 (z7m last p (p+1) (bs.drop (p+1))).1]) (by simp [results,Tryz.results104,go_sem,r0,r1,r2,r3,r4,r5,r6,r7]) rfl ?_;exact⟨⟨k1,k2,k3,k4,k5,k6,k7⟩,p4,by rw [HD.out,HS6.out,HS7.out];rfl,fun h9=>by rw [HD.out] at h9 ⊢;exact HT4.out h9,(HR4.out.set8 hgR hgW hgw _ _ _ _ _ _ _ _).back HKB.out⟩
 have e62:((x:Int)==62)=false:=by simp;omega
 by_cases h47:x=47
 ·subst h47;have HD:=kf (HT.out.trans (v3d last p _));obtain⟨r,hr⟩:∃ r,r=y8o last (p+1) (bs.drop (p+1)):=⟨_,rfl⟩
  have HNM1:=kf (fun X hX=>HNM.out X (p+1) hX hk1 h0);rw [<- hr] at HD HNM1;clear hr;go_enter Tryz.func104,Tryz.ntmps104;go_upto_region 1 with fail;rw [<- HWW.out,<- HG.out]
  go_wp2_with first
   |(go_at_call 130;refine(HTA.out _ _ _ HW1.out.here HX.out).mono ?_;rintro e w3 ⟨rfl,h3⟩;have HB3:=kf (h3.kb _ _ _ hgR (by decide) HBW.out);have HR3:=kf (h3.base (HW1.out.kb.trans h3.kb));clear h3)
   |(go_at_call 137;refine(HNM1.out _ HR3.out.here).mono ?_;rintro e w4 h4;obtain⟨K,vs,S,p4,hS4,rfl,hk4,hre⟩:=h4.open_;have HB4:=kf (hre.kb _ _ _ hgR (by decide) HB3.out);have HR4:=kf (hre.back HR3.out.kb);clear hre h4)
   |(go_at_call 132;refine(HVA.out _ _ _ _ _).mono ?_;rintro e w6 ⟨rfl,hc6⟩;have HR6:=kf (HR4.out.call hc6);have HB6:=kf (HB4.out.chg hc6 (fun h=>h));clear hc6;obtain⟨r0,r1,r2,r3,r4,r5,r6,r7,z0,z1,z2,z3,z4,z5,z6,z7⟩:=HB6.out.cl8)
  refine bodyPost_ret (v:=.tuple #[.agg #[.int .i64 1,.int .i64 0,.int .i64 0,.int .i64 (K:Nat),.int .i64 0,.string S,.slice none 0 0,.string ⟨#[]⟩],.int .i64 r.1]) (by simp [results,Tryz.results104,go_sem,r0,r1,r2,r3,r4,r5,r6,r7]) rfl ?_;have HRF:=kf ((HR6.out.set8 hgR hgW hgw (.int .i64 1) (.int .i64 0) (.int .i64 0) (.int .i64 (K:Nat)) (.int .i64 0) (.string S) (.slice none 0 0) (.string ⟨#[]⟩)).back HKB.out);exact PTk.value HD.out hS4 hk4 HRF.out
 have e47:((x:Int)==47)=false:=by simp;omega
 by_cases hD:z6b x=true
 ·have HD:=kf (show(tkR last p (bs.drop p)).1=11 from by rw [HT.out,y2b h91 h93 h60 h62 h40 h47,if_pos hD])
  have hx3:x=41\/x=123\/x=125:=by
   simp only [z6b,Bool.or_eq_true,beq_iff_eq] at hD;omega
  clear h91 h93 h60 h62 h40 h47 e91 e93 e60 e62 e40 e47 hD h37;rcases hx3 with rfl|rfl|rfl
  all_goals
   go_enter Tryz.func104,Tryz.ntmps104;go_upto_region 1 with fail;rw [<- HWW.out,<- HG.out];go_wp2_with (go_at_call 130;refine(HTA.out _ _ _ HW1.out.here HX.out).mono ?_;rintro e w3 ⟨rfl,h3⟩;have HB3:=kf (h3.kb _ _ _ hgR (by decide) HBW.out);have HR3:=kf (h3.base (HW1.out.kb.trans h3.kb));clear h3;obtain⟨r0,r1,r2,r3,r4,r5,r6,r7,z0,z1,z2,z3,z4,z5,z6,z7⟩:=HB3.out.cl8);refine bodyPost_ret (v:=.tuple #[.agg #[.int .i64 0,.int .i64 0,.int .i64 0,.int .i64 0,.int .i64 0,.string ⟨#[]⟩,.slice none 0 0,.string ⟨#[]⟩],.int .i64 11]) (by simp [results,Tryz.results104,go_sem,r0,r1,r2,r3,r4,r5,r6,r7]) rfl ?_;exact PTk.err HD.out (by decide) ((HR3.out.re.set8 hgR hgW hgw _ _ _ _ _ _ _ _).back HKB.out)
 have hD0:z6b x=false:=by simpa using hD
 have hr:y0h x=true:=by unfold y0h;rw [hsp,hD0];rfl
 have hne:∀ k,z6b k=true->x≠k:=fun k hk e=>hD (by rw [e];exact hk);have h41:=hne 41 rfl;have h123:=hne 123 rfl;have h125:=hne 125 rfl;have e41:((x:Int)==41)=false:=by simp;omega
 have e123:((x:Int)==123)=false:=by simp;omega
 have e125:((x:Int)==125)=false:=by simp;omega
 have HD:=kf (show tkR last p (bs.drop p)=y4v last p p x (bs.drop p) from by
  obtain⟨y,hy,hd⟩:=z1f (bs:=bs) (k:=p) (by omega);rw [HX.out] at hy;injection hy with hy
  subst hy;rw [HT.out,y8z hr,hd])
 have HBA1:=kf (fun X hX=>HBA.out X p x p hX HX.out hr);clear h91 h93 h60 h62 h40 h47 hD hD0 hr hne h41 h123 h125 h37 hsp;have i1:((p:Int)+1-1)=(p:Int):=by omega
 go_enter Tryz.func104,Tryz.ntmps104;go_upto_region 1 with fail;rw [<- HWW.out,<- HG.out];go_upto_region 24 with(go_at_call 130;refine(HTA.out _ _ _ HW1.out.here HX.out).mono ?_;rintro e w3 ⟨rfl,h3⟩;have HB3:=kf (h3.kb _ _ _ hgR (by decide) HBW.out);have HR3:=kf (h3.base (HW1.out.kb.trans h3.kb));clear h3;obtain⟨c2,c3,c4,f3⟩:=HR3.out.cells);go_wp2_with (go_at_call 138;refine(HBA1.out _ (HR3.out.at_ p).here).mono ?_;rintro e w4 ⟨t4,p4,rfl,ht4,hre⟩;have HT4:=kf ht4;have HB4:=kf (hre.kb _ _ _ hgR (by decide) (HB3.out.far (p:=⟨R,3,none⟩) hgR _));have HR4:=kf (hre.back (HR3.out.at_ p).kb);clear hre ht4;obtain⟨r0,r1,r2,r3,r4,r5,r6,r7,z0,z1,z2,z3,z4,z5,z6,z7⟩:=HB4.out.cl8;obtain⟨k1,k2,k3,k4,k5,k6,k7⟩:=t4;unfold z9l;obtain⟨S6,hS6⟩:∃ S6,S6=sb k6:=⟨_,rfl⟩;obtain⟨S7,hS7⟩:∃ S7,S7=sb k7:=⟨_,rfl⟩;simp only [];rw [<- hS6,<- hS7];have HS6:=kf hS6;have HS7:=kf hS7;clear hS6 hS7);refine bodyPost_ret (v:=.tuple #[.agg #[.int .i64 (k1:Nat),.int .i64 (k2:Nat),.int .i64 (k3:Nat),.int .i64 (k4:Nat),.int .i64 k5,.string S6,.slice none 0 0,.string S7],.int .i64 (y4v last p p x (bs.drop p)).1]) (by simp [results,Tryz.results104,go_sem,r0,r1,r2,r3,r4,r5,r6,r7]) rfl ?_;exact⟨⟨k1,k2,k3,k4,k5,k6,k7⟩,p4,by rw [HD.out,HS6.out,HS7.out];rfl,fun h9=>by rw [HD.out] at h9 ⊢;exact HT4.out h9,(HR4.out.set8 hgR hgW hgw _ _ _ _ _ _ _ _).back HKB.out⟩
theorem y69 (n:Nat) (A:Option Addr) (c:Nat) (p:Int) (last:Bool) (w:World) (h:p<0\/(n:Int)<p) :
  Calls Tryz.prog 74 #[.slice A n c,.int .i64 p,.bool last] w (y8m w (2,noT 0)):=by
 by_cases h1:p<0
 ·clear h;go_enter Tryz.func74,Tryz.ntmps74;go_wp2_with fail;refine bodyPost_ret (v:=.tuple #[.agg #[.int .i64 0,.int .i64 0,.int .i64 0,.int .i64 0,.int .i64 0,.string ⟨#[]⟩,.slice none 0 0,.string ⟨#[]⟩],.int .i64 2]) (by simp [results,Tryz.results74,go_sem]) rfl ?_;exact⟨rfl,(Chg.refl NoS w).alloc _⟩
 ·have h2:(n:Int)<p:=by omega
  clear h;go_enter Tryz.func74,Tryz.ntmps74;go_wp2_with fail;refine bodyPost_ret (v:=.tuple #[.agg #[.int .i64 0,.int .i64 0,.int .i64 0,.int .i64 0,.int .i64 0,.string ⟨#[]⟩,.slice none 0 0,.string ⟨#[]⟩],.int .i64 2]) (by simp [results,Tryz.results74,go_sem]) rfl ?_;exact⟨rfl,(Chg.refl NoS w).alloc _⟩
theorem Chg.newc {w X:World} {g i:Nat} {u:Value} (hg:w.heap.size<=g) (h:Chg NoS w X):Chg NoS w (X.setCell ⟨g,i,none⟩ u) :=
 h.setCell (p:=⟨g,i,none⟩) (fun e=>absurd e (Nat.not_lt.2 hg)) u
theorem v0d (bs:List Nat) (p:Nat) (last:Bool):z0i bs p last=tkR last (p+skp false (bs.drop p)) (bs.drop (p+skp false (bs.drop p))):=by
 unfold z0i tkR;cases bs.drop (p+skp false (bs.drop p))<;>rfl
theorem v3f {last:Bool} {p:Nat} {l:List Nat} (h:(tkR last p l).1≠0):(tkR last p l).2=noT p:=by
 cases l with
 |nil=>rfl
 |cons x l =>
  rcases y18 last p x l with⟨_,h2⟩|⟨h1,_⟩
  ·exact h2
  ·exact absurd h1 h
theorem y92 {last:Bool} {p:Nat} {l:List Nat} (h:(tkR last p l).1=0):(tkR last p l).2.from_=p:=by
 cases l with
 |nil=>rfl
 |cons x l =>
  rcases y18 last p x l with⟨h1,_⟩|⟨_,_,h3,_⟩
  ·exact absurd h h1
  ·exact h3
theorem y2w (bs:List Nat) (A:Option Addr) (c p:Nat) (last:Bool) (w:World) (hS:Src w 1 A bs.length c (z09 bs)) (hl:bs.length<=400000) (hc:bs.length<=c) (hp:p<=bs.length) (hb:∀ x∈bs,x<256) :
  Calls Tryz.prog 74 #[.slice A bs.length c,.int .i64 (p:Nat),.bool last] w (y8m w (z0i bs p last)):=by
 have hsk:=v2e (bs.drop p) false;rw [List.length_drop] at hsk;obtain⟨f,hf⟩:∃ f,f=p+skp false (bs.drop p):=⟨_,rfl⟩
 have hfl:f<=bs.length:=by omega
 have hns:∀ x,bs[f]?=some x->z5u x=false/\x≠37:=fun x hx=>by
  have hlt:f<bs.length:=(List.getElem?_eq_some_iff.1 hx).1;obtain⟨y,m,hd,h1,h2⟩:=y2j (bs.drop p) false (by rw [List.length_drop];omega);rw [List.drop_drop,<- hf] at hd;obtain⟨z,hz,hd2⟩:=z1f (bs:=bs) (k:=f) hlt;rw [hx] at hz;injection hz with hz
  rw [hd2] at hd;injection hd with hd _
  rw [hz,hd];exact⟨h1,h2⟩
 have HSK:=kf (fun W (hW:Chg NoS w W)=>(show Calls Tryz.prog 103 #[.slice A bs.length c,.int .i64 (p:Nat)] W fun e w'=>e=.returned (.int .i64 (f:Nat))/\W=w' from by
  have h:=y65 bs A c (p:Int) W (Src.below (w0:=w) hS hW) (by omega) hc;rw [show y43 bs (p:Int)=f from by rw [y43,if_neg (by omega),if_pos (by omega),hf];rfl] at h;exact h))
 have HTK:=kf (fun X (hX:RD X w X A bs.length c last (w.heap.size+1) f [])=>y49 hX hS (by omega) hc hfl hb hns);obtain⟨r,hr⟩:∃ r,r=tkR last f (bs.drop f):=⟨_,rfl⟩
 have HRN:=kf (show z0i bs p last=r from by rw [v0d,<- hf,hr]);rw [<- hr] at HTK;have HERR:=kf (fun h:r.1≠0=>(show r.2=noT f from by rw [hr] at h ⊢;exact v3f h));have HFR:=kf (fun h:r.1=0=>(show r.2.from_=f from by rw [hr] at h ⊢;exact y92 h));have HB0:=kf (Blk.new w 111 #[.int .i64 0,.int .i64 0,.int .i64 0,.int .i64 0,.int .i64 0,.string ⟨#[]⟩,.slice none 0 0,.string ⟨#[]⟩]);have HC0:=kf ((Chg.refl NoS w).alloc (.cells #[.int .i64 0,.int .i64 0,.int .i64 0,.int .i64 0,.int .i64 0,.string ⟨#[]⟩,.slice none 0 0,.string ⟨#[]⟩] 111))
 have HRD:=kf (show RD ((w.alloc (.cells #[.int .i64 0,.int .i64 0,.int .i64 0,.int .i64 0,.int .i64 0,.string ⟨#[]⟩,.slice none 0 0,.string ⟨#[]⟩] 111)).alloc (.cells #[.pointer none,.slice none 0 0,.slice A bs.length c,.int .i64 (f:Nat),.bool last] 146)) w ((w.alloc (.cells #[.int .i64 0,.int .i64 0,.int .i64 0,.int .i64 0,.int .i64 0,.string ⟨#[]⟩,.slice none 0 0,.string ⟨#[]⟩] 111)).alloc (.cells #[.pointer none,.slice none 0 0,.slice A bs.length c,.int .i64 (f:Nat),.bool last] 146)) A bs.length c last (w.heap.size+1) f [] from
  ⟨.pointer none,none,0,by have:=Blk.new (w.alloc (.cells #[.int .i64 0,.int .i64 0,.int .i64 0,.int .i64 0,.int .i64 0,.string ⟨#[]⟩,.slice none 0 0,.string ⟨#[]⟩] 111)) 146 #[.pointer none,.slice none 0 0,.slice A bs.length c,.int .i64 (f:Nat),.bool last];rw [show(w.alloc (.cells #[.int .i64 0,.int .i64 0,.int .i64 0,.int .i64 0,.int .i64 0,.string ⟨#[]⟩,.slice none 0 0,.string ⟨#[]⟩] 111)).heap.size=w.heap.size+1 from by simp] at this;exact this,.inl rfl,z43 _ _ _ _,((Chg.refl NoS w).alloc _).alloc _,by omega,KB.refl _ _⟩)
 obtain⟨N,hN⟩:∃ N,bs.length=N:=⟨_,rfl⟩
 rw [hN] at HSK HTK HRD hp hl hc hfl ⊢;clear hS hb hns hsk hf hr hN;rw [HRN.out];obtain⟨er,tt⟩:=r;simp only at HERR HFR HTK;have HCH2:=kf (HRD.out.chg);have HB1:=kf (HB0.out.alloc (.cells #[.pointer none,.slice none 0 0,.slice A N c,.int .i64 (f:Nat),.bool last] 146));have hgR:w.heap.size≠w.heap.size+1:=by omega
 by_cases he:er=0
 ·subst he;obtain⟨tk,tf,tt_,tvk,tvn,tvs,ts⟩:=tt;obtain rfl:tf=f:=HFR.out rfl;have HTK0:=kf (fun X hX=>(HTK.out X hX));clear HTK HERR HFR;go_enter Tryz.func74,Tryz.ntmps74;go_upto_region 5 with(go_at_call 103;refine(HSK.out _ HC0.out).mono ?_;rintro e w2 ⟨rfl,hw2⟩;subst hw2);go_upto_region 8 with(go_at_call 104;refine(HTK0.out _ HRD.out).mono ?_;rintro e w3 ⟨t,q,rfl,ht,hre⟩;obtain⟨rfl,rfl⟩:=ht rfl;unfold z9l;obtain⟨S6,hS6⟩:∃ S6,S6=sb tvs:=⟨_,rfl⟩;obtain⟨S7,hS7⟩:∃ S7,S7=sb ts:=⟨_,rfl⟩;simp only [];rw [<- hS6,<- hS7];have HS6:=kf hS6;have HS7:=kf hS7;have HB6:=kf (hre.kb _ _ _ hgR (by decide) HB1.out);have HRE:=kf hre;have cR:=hre.cell;clear hS6 hS7 ht hre);have HB64:=kf (HB6.out.alloc (.cells #[.int .i64 (tk:Nat),.int .i64 0,.int .i64 0,.int .i64 (tvk:Nat),.int .i64 tvn,.string S6,.slice none 0 0,.string S7] 111));have HB104:=kf (Blk.new w3 111 #[.int .i64 (tk:Nat),.int .i64 0,.int .i64 0,.int .i64 (tvk:Nat),.int .i64 tvn,.string S6,.slice none 0 0,.string S7]);have cR4:=(((Chg.refl NoS w3).alloc (.cells #[.int .i64 (tk:Nat),.int .i64 0,.int .i64 0,.int .i64 (tvk:Nat),.int .i64 tvn,.string S6,.slice none 0 0,.string S7] 111)).cell (p:=⟨w.heap.size+1,3,none⟩) (z05 cR) (fun h=>h)).trans cR;have HC4:=kf (HRE.out.chg.alloc (.cells #[.int .i64 (tk:Nat),.int .i64 0,.int .i64 0,.int .i64 (tvk:Nat),.int .i64 tvn,.string S6,.slice none 0 0,.string S7] 111));have hlt6:=HB6.out.lt;have hltR:=z05 cR;simp only at hltR;have hw3:=HRE.out.chg.size;obtain⟨W4,hW4⟩:∃ W4,W4=w3.alloc (.cells #[.int .i64 (tk:Nat),.int .i64 0,.int .i64 0,.int .i64 (tvk:Nat),.int .i64 tvn,.string S6,.slice none 0 0,.string S7] 111):=⟨_,rfl⟩
  rw [<- hW4] at HB64 HB104 cR4 HC4 ⊢;obtain⟨g6,hg6⟩:∃ g6,g6=w.heap.size:=⟨_,rfl⟩
  obtain⟨g10,hg10⟩:∃ g10,g10=w3.heap.size:=⟨_,rfl⟩
  obtain⟨R,hR⟩:∃ R,R=w.heap.size+1:=⟨_,rfl⟩
  rw [<- hR] at cR4 ⊢;rw [<- hg6] at HB64 ⊢;rw [<- hg10] at HB104 ⊢;have hne1:g6≠g10:=by omega
  have hne2:R≠g10:=by omega
  have hne3:R≠g6:=by omega
  have hne1':g10≠g6:=by omega
  have hge6:w.heap.size<=g6:=by omega
  have hge10:w.heap.size<=g10:=by omega
  obtain⟨q0,q1,q2,q3,q4,q5,q6,q7,y0,y1,y2,y3,y4,y5,y6,y7⟩:=HB104.out.cl8;obtain⟨r0,r1,r2,r3,r4,r5,r6,r7,z0,z1,z2,z3,z4,z5,z6,z7⟩:=HB64.out.cl8;clear hW4 hg6 hg10 hR hlt6 hltR hw3 cR HRE HB6 HRD HB0 HB1 HC0 HCH2 HTK0 HSK;go_region
  go_wp2_with fail;refine bodyPost_ret (v:=.tuple #[.agg #[.int .i64 (tk:Nat),.int .i64 (tf:Nat),.int .i64 (q:Nat),.int .i64 (tvk:Nat),.int .i64 tvn,.string S6,.slice none 0 0,.string S7],.int .i64 0]) (by simp [results,Tryz.results74,go_sem,r0,r1,r2,r3,r4,r5,r6,r7,q0,q1,q2,q3,q4,q5,q6,q7,hne1,hne1']) rfl ?_;refine⟨by rw [HS6.out,HS7.out];rfl,?_⟩;exact Chg.drew (Chg.newc hge6 (Chg.newc hge6 (Chg.newc hge6 (Chg.newc hge6 (Chg.newc hge6 (Chg.newc hge6 (Chg.newc hge6 (Chg.newc hge6 (Chg.newc hge10 (Chg.newc hge10 HC4.out))))))))))
 ·have HNT:=kf (HERR.out he);have e1:(er != 0)=true:=by simpa using he
  have e2:(er==0)=false:=by simpa using he
  clear HERR HFR he;go_enter Tryz.func74,Tryz.ntmps74;go_upto_region 5 with(go_at_call 103;refine(HSK.out _ HC0.out).mono ?_;rintro e w2 ⟨rfl,hw2⟩;subst hw2);go_upto_region 7 with(go_at_call 104;refine(HTK.out _ HRD.out).mono ?_;rintro e w3 ⟨t,q,rfl,ht,hre⟩;obtain⟨tk,tf,tt_,tvk,tvn,tvs,ts⟩:=t;unfold z9l;obtain⟨S6,hS6⟩:∃ S6,S6=sb tvs:=⟨_,rfl⟩;obtain⟨S7,hS7⟩:∃ S7,S7=sb ts:=⟨_,rfl⟩;simp only [];rw [<- hS6,<- hS7];have HB6:=kf (hre.kb _ _ _ hgR (by decide) HB1.out);have HRE:=kf hre;clear hS6 hS7 ht hre);have HB64:=kf (HB6.out.alloc (.cells #[.int .i64 (tk:Nat),.int .i64 (tf:Nat),.int .i64 (tt_:Nat),.int .i64 (tvk:Nat),.int .i64 tvn,.string S6,.slice none 0 0,.string S7] 111));have HC4:=kf (HRE.out.chg.alloc (.cells #[.int .i64 (tk:Nat),.int .i64 (tf:Nat),.int .i64 (tt_:Nat),.int .i64 (tvk:Nat),.int .i64 tvn,.string S6,.slice none 0 0,.string S7] 111));obtain⟨W4,hW4⟩:∃ W4,W4=w3.alloc (.cells #[.int .i64 (tk:Nat),.int .i64 (tf:Nat),.int .i64 (tt_:Nat),.int .i64 (tvk:Nat),.int .i64 tvn,.string S6,.slice none 0 0,.string S7] 111):=⟨_,rfl⟩
  rw [<- hW4] at HB64 HC4 ⊢;obtain⟨g6,hg6⟩:∃ g6,g6=w.heap.size:=⟨_,rfl⟩
  rw [<- hg6] at HB64 ⊢;have hge6:w.heap.size<=g6:=by omega
  obtain⟨r0,r1,r2,r3,r4,r5,r6,r7,z0,z1,z2,z3,z4,z5,z6,z7⟩:=HB64.out.cl8;clear hW4 hg6 HRE HB6 HRD HB0 HB1 HC0 HCH2 HTK HSK;go_wp2_with fail;refine bodyPost_ret (v:=.tuple #[.agg #[.int .i64 0,.int .i64 (f:Nat),.int .i64 (f:Nat),.int .i64 0,.int .i64 0,.string ⟨#[]⟩,.slice none 0 0,.string ⟨#[]⟩],.int .i64 er]) (by simp [results,Tryz.results74,go_sem,r0,r1,r2,r3,r4,r5,r6,r7]) rfl ?_;refine⟨by rw [HNT.out];rfl,?_⟩;exact Chg.newc hge6 (Chg.newc hge6 (Chg.newc hge6 (Chg.newc hge6 (Chg.newc hge6 (Chg.newc hge6 (Chg.newc hge6 (Chg.newc hge6 HC4.out)))))))
theorem y0a (bs:List Nat) (A:Option Addr) (c:Nat) (p:Int) (last:Bool) (w:World) (hS:Src w 1 A bs.length c (z09 bs)) (hl:bs.length<=400000) (hc:bs.length<=c) (hb:∀ x∈bs,x<256) :
  Calls Tryz.prog 74 #[.slice A bs.length c,.int .i64 p,.bool last] w (y8m w (z0a bs p last)):=by
 unfold z0a;by_cases h:p<0\/(bs.length:Int)<p
 ·rw [if_pos h];exact y69 bs.length A c p last w h
 ·rw [if_neg h];have h2:=y2w bs A c p.toNat last w hS hl hc (by omega) hb;rwa [show((p.toNat:Nat):Int)=p from by omega] at h2
end Go.Proofs.YtmibnkddappgiaaGreatDoor
