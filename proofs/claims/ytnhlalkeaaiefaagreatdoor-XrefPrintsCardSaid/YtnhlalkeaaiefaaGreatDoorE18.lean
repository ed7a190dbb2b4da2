import Derived.Test.YtnhlalkeaaiefaaGreatDoorE17
set_option linter.unusedVariables false
set_option maxHeartbeats 64000000
set_option maxRecDepth 100000
set_option linter.unusedSimpArgs false
namespace Go.Proofs.YtnhlalkeaaiefaaGreatDoor
open Go.RowKit
theorem y6w (n:Nat) (A:Option Addr) (c:Nat) (p:Int) (last:Bool) (w:World) (h:p<0\/(n:Int)<p) :
  Calls Tryz.prog 109 #[.slice A n c,.int .i64 p,.bool last] w (y9q w (2,noT 0)):=by
 by_cases h1:p<0
 ·clear h;go_enter Tryz.func109,Tryz.ntmps109;go_wp2_with fail;refine bodyPost_ret (v:=.tuple #[.agg #[.int .i64 0,.int .i64 0,.int .i64 0,.int .i64 0,.int .i64 0,.string ⟨#[]⟩,.slice none 0 0,.string ⟨#[]⟩],.int .i64 2]) (by simp [results,Tryz.results109,go_sem]) rfl ?_;exact⟨rfl,(Chg.refl NoS w).alloc _⟩
 ·have h2:(n:Int)<p:=by omega
  clear h;go_enter Tryz.func109,Tryz.ntmps109;go_wp2_with fail;refine bodyPost_ret (v:=.tuple #[.agg #[.int .i64 0,.int .i64 0,.int .i64 0,.int .i64 0,.int .i64 0,.string ⟨#[]⟩,.slice none 0 0,.string ⟨#[]⟩],.int .i64 2]) (by simp [results,Tryz.results109,go_sem]) rfl ?_;exact⟨rfl,(Chg.refl NoS w).alloc _⟩
theorem Chg.newc {w X:World} {g i:Nat} {u:Value} (hg:w.heap.size<=g) (h:Chg NoS w X):Chg NoS w (X.setCell ⟨g,i,none⟩ u) :=
 h.setCell (p:=⟨g,i,none⟩) (fun e=>absurd e (Nat.not_lt.2 hg)) u
theorem v1a (bs:List Nat) (p:Nat) (last:Bool):z0f bs p last=tkR last (p+skp false (bs.drop p)) (bs.drop (p+skp false (bs.drop p))):=by
 unfold z0f tkR;cases bs.drop (p+skp false (bs.drop p))<;>rfl
theorem v3y {last:Bool} {p:Nat} {l:List Nat} (h:(tkR last p l).1≠0):(tkR last p l).2=noT p:=by
 cases l with
 |nil=>rfl
 |cons x l =>
  rcases y11 last p x l with⟨_,h2⟩|⟨h1,_⟩
  ·exact h2
  ·exact absurd h1 h
theorem v0d {last:Bool} {p:Nat} {l:List Nat} (h:(tkR last p l).1=0):(tkR last p l).2.from_=p:=by
 cases l with
 |nil=>rfl
 |cons x l =>
  rcases y11 last p x l with⟨h1,_⟩|⟨_,_,h3,_⟩
  ·exact absurd h h1
  ·exact h3
theorem y2y (bs:List Nat) (A:Option Addr) (c p:Nat) (last:Bool) (w:World) (hS:Src w 1 A bs.length c (z08 bs)) (hl:bs.length<=400000) (hc:bs.length<=c) (hp:p<=bs.length) (hb:∀ x∈bs,x<256) :
  Calls Tryz.prog 109 #[.slice A bs.length c,.int .i64 (p:Nat),.bool last] w (y9q w (z0f bs p last)):=by
 have hsk:=v2u (bs.drop p) false;rw [List.length_drop] at hsk;obtain⟨f,hf⟩:∃ f,f=p+skp false (bs.drop p):=⟨_,rfl⟩
 have hfl:f<=bs.length:=by omega
 have hns:∀ x,bs[f]?=some x->z3s x=false/\x≠37:=fun x hx=>by
  have hlt:f<bs.length:=(List.getElem?_eq_some_iff.1 hx).1;obtain⟨y,m,hd,h1,h2⟩:=y2j (bs.drop p) false (by rw [List.length_drop];omega);rw [List.drop_drop,<- hf] at hd;obtain⟨z,hz,hd2⟩:=z19 (bs:=bs) (k:=f) hlt;rw [hx] at hz;injection hz with hz
  rw [hd2] at hd;injection hd with hd _
  rw [hz,hd];exact⟨h1,h2⟩
 have HSK:=kf (fun W (hW:Chg NoS w W)=>(show Calls Tryz.prog 149 #[.slice A bs.length c,.int .i64 (p:Nat)] W fun e w'=>e=.returned (.int .i64 (f:Nat))/\W=w' from by
  have h:=y6t bs A c (p:Int) W (Src.below (w0:=w) hS hW) (by omega) hc;rw [show y4b bs (p:Int)=f from by rw [y4b,if_neg (by omega),if_pos (by omega),hf];rfl] at h;exact h))
 have HTK:=kf (fun X (hX:RD X w X A bs.length c last (w.heap.size+1) f [])=>y4n hX hS (by omega) hc hfl hb hns);obtain⟨r,hr⟩:∃ r,r=tkR last f (bs.drop f):=⟨_,rfl⟩
 have HRN:=kf (show z0f bs p last=r from by rw [v1a,<- hf,hr]);rw [<- hr] at HTK;have HERR:=kf (fun h:r.1≠0=>(show r.2=noT f from by rw [hr] at h ⊢;exact v3y h));have HFR:=kf (fun h:r.1=0=>(show r.2.from_=f from by rw [hr] at h ⊢;exact v0d h));have HB0:=kf (Blk.new w 131 #[.int .i64 0,.int .i64 0,.int .i64 0,.int .i64 0,.int .i64 0,.string ⟨#[]⟩,.slice none 0 0,.string ⟨#[]⟩]);have HC0:=kf ((Chg.refl NoS w).alloc (.cells #[.int .i64 0,.int .i64 0,.int .i64 0,.int .i64 0,.int .i64 0,.string ⟨#[]⟩,.slice none 0 0,.string ⟨#[]⟩] 131))
 have HRD:=kf (show RD ((w.alloc (.cells #[.int .i64 0,.int .i64 0,.int .i64 0,.int .i64 0,.int .i64 0,.string ⟨#[]⟩,.slice none 0 0,.string ⟨#[]⟩] 131)).alloc (.cells #[.pointer none,.slice none 0 0,.slice A bs.length c,.int .i64 (f:Nat),.bool last] 198)) w ((w.alloc (.cells #[.int .i64 0,.int .i64 0,.int .i64 0,.int .i64 0,.int .i64 0,.string ⟨#[]⟩,.slice none 0 0,.string ⟨#[]⟩] 131)).alloc (.cells #[.pointer none,.slice none 0 0,.slice A bs.length c,.int .i64 (f:Nat),.bool last] 198)) A bs.length c last (w.heap.size+1) f [] from
  ⟨.pointer none,none,0,by have:=Blk.new (w.alloc (.cells #[.int .i64 0,.int .i64 0,.int .i64 0,.int .i64 0,.int .i64 0,.string ⟨#[]⟩,.slice none 0 0,.string ⟨#[]⟩] 131)) 198 #[.pointer none,.slice none 0 0,.slice A bs.length c,.int .i64 (f:Nat),.bool last];rw [show(w.alloc (.cells #[.int .i64 0,.int .i64 0,.int .i64 0,.int .i64 0,.int .i64 0,.string ⟨#[]⟩,.slice none 0 0,.string ⟨#[]⟩] 131)).heap.size=w.heap.size+1 from by simp] at this;exact this,.inl rfl,z2p _ _ _ _,((Chg.refl NoS w).alloc _).alloc _,by omega,KB.refl _ _⟩)
 obtain⟨N,hN⟩:∃ N,bs.length=N:=⟨_,rfl⟩
 rw [hN] at HSK HTK HRD hp hl hc hfl ⊢;clear hS hb hns hsk hf hr hN;rw [HRN.out];obtain⟨er,tt⟩:=r;simp only at HERR HFR HTK;have HCH2:=kf (HRD.out.chg);have HB1:=kf (HB0.out.alloc (.cells #[.pointer none,.slice none 0 0,.slice A N c,.int .i64 (f:Nat),.bool last] 198));have hgR:w.heap.size≠w.heap.size+1:=by omega
 by_cases he:er=0
 ·subst he;obtain⟨tk,tf,tt_,tvk,tvn,tvs,ts⟩:=tt;obtain rfl:tf=f:=HFR.out rfl;have HTK0:=kf (fun X hX=>(HTK.out X hX));clear HTK HERR HFR;go_enter Tryz.func109,Tryz.ntmps109;go_upto_region 5 with(go_at_call 149;refine(HSK.out _ HC0.out).mono ?_;rintro e w2 ⟨rfl,hw2⟩;subst hw2);go_upto_region 8 with(go_at_call 150;refine(HTK0.out _ HRD.out).mono ?_;rintro e w3 ⟨t,q,rfl,ht,hre⟩;obtain⟨rfl,rfl⟩:=ht rfl;unfold z78;obtain⟨S6,hS6⟩:∃ S6,S6=sb tvs:=⟨_,rfl⟩;obtain⟨S7,hS7⟩:∃ S7,S7=sb ts:=⟨_,rfl⟩;simp only [];rw [<- hS6,<- hS7];have HS6:=kf hS6;have HS7:=kf hS7;have HB6:=kf (hre.kb _ _ _ hgR (by decide) HB1.out);have HRE:=kf hre;have cR:=hre.cell;clear hS6 hS7 ht hre);have HB64:=kf (HB6.out.alloc (.cells #[.int .i64 (tk:Nat),.int .i64 0,.int .i64 0,.int .i64 (tvk:Nat),.int .i64 tvn,.string S6,.slice none 0 0,.string S7] 131));have HB104:=kf (Blk.new w3 131 #[.int .i64 (tk:Nat),.int .i64 0,.int .i64 0,.int .i64 (tvk:Nat),.int .i64 tvn,.string S6,.slice none 0 0,.string S7]);have cR4:=(((Chg.refl NoS w3).alloc (.cells #[.int .i64 (tk:Nat),.int .i64 0,.int .i64 0,.int .i64 (tvk:Nat),.int .i64 tvn,.string S6,.slice none 0 0,.string S7] 131)).cell (p:=⟨w.heap.size+1,3,none⟩) (z04 cR) (fun h=>h)).trans cR;have HC4:=kf (HRE.out.chg.alloc (.cells #[.int .i64 (tk:Nat),.int .i64 0,.int .i64 0,.int .i64 (tvk:Nat),.int .i64 tvn,.string S6,.slice none 0 0,.string S7] 131));have hlt6:=HB6.out.lt;have hltR:=z04 cR;simp only at hltR;have hw3:=HRE.out.chg.size;obtain⟨W4,hW4⟩:∃ W4,W4=w3.alloc (.cells #[.int .i64 (tk:Nat),.int .i64 0,.int .i64 0,.int .i64 (tvk:Nat),.int .i64 tvn,.string S6,.slice none 0 0,.string S7] 131):=⟨_,rfl⟩
  rw [<- hW4] at HB64 HB104 cR4 HC4 ⊢;obtain⟨g6,hg6⟩:∃ g6,g6=w.heap.size:=⟨_,rfl⟩
  obtain⟨g10,hg10⟩:∃ g10,g10=w3.heap.size:=⟨_,rfl⟩
  obtain⟨R,hR⟩:∃ R,R=w.heap.size+1:=⟨_,rfl⟩
  rw [<- hR] at cR4 ⊢;rw [<- hg6] at HB64 ⊢;rw [<- hg10] at HB104 ⊢;have hne1:g6≠g10:=by omega
  have hne2:R≠g10:=by omega
  have hne3:R≠g6:=by omega
  have hne1':g10≠g6:=by omega
  have hge6:w.heap.size<=g6:=by omega
  have hge10:w.heap.size<=g10:=by omega
  obtain⟨q0,q1,q2,q3,q4,q5,q6,q7,y0,y1,y2,y3,y4,y5,y6,y7⟩:=HB104.out.cl8;obtain⟨r0,r1,r2,r3,r4,r5,r6,r7,z0,z1,z2,z3,z4,z5,z6,z7⟩:=HB64.out.cl8;clear hW4 hg6 hg10 hR hlt6 hltR hw3 cR HRE HB6 HRD HB0 HB1 HC0 HCH2 HTK0 HSK;go_region
  go_wp2_with fail;refine bodyPost_ret (v:=.tuple #[.agg #[.int .i64 (tk:Nat),.int .i64 (tf:Nat),.int .i64 (q:Nat),.int .i64 (tvk:Nat),.int .i64 tvn,.string S6,.slice none 0 0,.string S7],.int .i64 0]) (by simp [results,Tryz.results109,go_sem,r0,r1,r2,r3,r4,r5,r6,r7,q0,q1,q2,q3,q4,q5,q6,q7,hne1,hne1']) rfl ?_;refine⟨by rw [HS6.out,HS7.out];rfl,?_⟩;exact Chg.drew (Chg.newc hge6 (Chg.newc hge6 (Chg.newc hge6 (Chg.newc hge6 (Chg.newc hge6 (Chg.newc hge6 (Chg.newc hge6 (Chg.newc hge6 (Chg.newc hge10 (Chg.newc hge10 HC4.out))))))))))
 ·have HNT:=kf (HERR.out he);have e1:(er != 0)=true:=by simpa using he
  have e2:(er==0)=false:=by simpa using he
  clear HERR HFR he;go_enter Tryz.func109,Tryz.ntmps109;go_upto_region 5 with(go_at_call 149;refine(HSK.out _ HC0.out).mono ?_;rintro e w2 ⟨rfl,hw2⟩;subst hw2);go_upto_region 7 with(go_at_call 150;refine(HTK.out _ HRD.out).mono ?_;rintro e w3 ⟨t,q,rfl,ht,hre⟩;obtain⟨tk,tf,tt_,tvk,tvn,tvs,ts⟩:=t;unfold z78;obtain⟨S6,hS6⟩:∃ S6,S6=sb tvs:=⟨_,rfl⟩;obtain⟨S7,hS7⟩:∃ S7,S7=sb ts:=⟨_,rfl⟩;simp only [];rw [<- hS6,<- hS7];have HB6:=kf (hre.kb _ _ _ hgR (by decide) HB1.out);have HRE:=kf hre;clear hS6 hS7 ht hre);have HB64:=kf (HB6.out.alloc (.cells #[.int .i64 (tk:Nat),.int .i64 (tf:Nat),.int .i64 (tt_:Nat),.int .i64 (tvk:Nat),.int .i64 tvn,.string S6,.slice none 0 0,.string S7] 131));have HC4:=kf (HRE.out.chg.alloc (.cells #[.int .i64 (tk:Nat),.int .i64 (tf:Nat),.int .i64 (tt_:Nat),.int .i64 (tvk:Nat),.int .i64 tvn,.string S6,.slice none 0 0,.string S7] 131));obtain⟨W4,hW4⟩:∃ W4,W4=w3.alloc (.cells #[.int .i64 (tk:Nat),.int .i64 (tf:Nat),.int .i64 (tt_:Nat),.int .i64 (tvk:Nat),.int .i64 tvn,.string S6,.slice none 0 0,.string S7] 131):=⟨_,rfl⟩
  rw [<- hW4] at HB64 HC4 ⊢;obtain⟨g6,hg6⟩:∃ g6,g6=w.heap.size:=⟨_,rfl⟩
  rw [<- hg6] at HB64 ⊢;have hge6:w.heap.size<=g6:=by omega
  obtain⟨r0,r1,r2,r3,r4,r5,r6,r7,z0,z1,z2,z3,z4,z5,z6,z7⟩:=HB64.out.cl8;clear hW4 hg6 HRE HB6 HRD HB0 HB1 HC0 HCH2 HTK HSK;go_wp2_with fail;refine bodyPost_ret (v:=.tuple #[.agg #[.int .i64 0,.int .i64 (f:Nat),.int .i64 (f:Nat),.int .i64 0,.int .i64 0,.string ⟨#[]⟩,.slice none 0 0,.string ⟨#[]⟩],.int .i64 er]) (by simp [results,Tryz.results109,go_sem,r0,r1,r2,r3,r4,r5,r6,r7]) rfl ?_;refine⟨by rw [HNT.out];rfl,?_⟩;exact Chg.newc hge6 (Chg.newc hge6 (Chg.newc hge6 (Chg.newc hge6 (Chg.newc hge6 (Chg.newc hge6 (Chg.newc hge6 (Chg.newc hge6 HC4.out)))))))
theorem y03 (bs:List Nat) (A:Option Addr) (c:Nat) (p:Int) (last:Bool) (w:World) (hS:Src w 1 A bs.length c (z08 bs)) (hl:bs.length<=400000) (hc:bs.length<=c) (hb:∀ x∈bs,x<256) :
  Calls Tryz.prog 109 #[.slice A bs.length c,.int .i64 p,.bool last] w (y9q w (z07 bs p last)):=by
 unfold z07;by_cases h:p<0\/(bs.length:Int)<p
 ·rw [if_pos h];exact y6w bs.length A c p last w h
 ·rw [if_neg h];have h2:=y2y bs A c p.toNat last w hS hl hc (by omega) hb;rwa [show((p.toNat:Nat):Int)=p from by omega] at h2
def z1b (r:Int × Tkn):Int × Tkn:=if r.1=0/\r.2.kind=0 then(10,noT 0) else r
theorem y2s (bs:List Nat) (A:Option Addr) (c:Nat) (p:Int) (last:Bool) (w:World) (hS:Src w 1 A bs.length c (z08 bs)) (hl:bs.length<=400000) (hc:bs.length<=c) (hb:∀ x∈bs,x<256) :
  Calls Tryz.prog 108 #[.slice A bs.length c,.int .i64 p,.bool last] w (y9q w (z1b (z07 bs p last))):=by
 have HNX:=kf (fun W (hW:Chg NoS w W)=>y03 bs A c p last W (Src.below (w0:=w) hS hW) hl hc hb);obtain⟨n,hn⟩:∃ n,n=bs.length:=⟨_,rfl⟩
 obtain⟨R,hR⟩:∃ R,R=z07 bs p last:=⟨_,rfl⟩
 rw [<- hR,<- hn] at HNX;rw [<- hR,<- hn];obtain⟨er,t⟩:=R;obtain⟨tk,tf,tt_,tvk,tvn,tvs,ts⟩:=t;unfold y9q z78 at HNX ⊢;simp only [] at HNX;have HZ0:=kf (fun(r:Int × Tkn) (h:z1b (er,⟨tk,tf,tt_,tvk,tvn,tvs,ts⟩)=r)=>h);obtain⟨S6,hS6⟩:∃ S6,S6=sb tvs:=⟨_,rfl⟩
 obtain⟨S7,hS7⟩:∃ S7,S7=sb ts:=⟨_,rfl⟩
 rw [<- hS6,<- hS7] at HNX;have HS6:=kf hS6;have HS7:=kf hS7;have HB0:=kf (Blk.new w 131 #[.int .i64 0,.int .i64 0,.int .i64 0,.int .i64 0,.int .i64 0,.string ⟨#[]⟩,.slice none 0 0,.string ⟨#[]⟩]);have HC0:=kf ((Chg.refl NoS w).alloc (.cells #[.int .i64 0,.int .i64 0,.int .i64 0,.int .i64 0,.int .i64 0,.string ⟨#[]⟩,.slice none 0 0,.string ⟨#[]⟩] 131));clear hS hb hR hn hS6 hS7 hl hc;by_cases he:er=0
 ·subst he;by_cases hk:tk=0
  ·subst hk;have HZ:=kf (HZ0.out (10,noT 0) (if_pos ⟨rfl,rfl⟩));clear HZ0;go_enter Tryz.func108,Tryz.ntmps108;go_upto_region 2 with(go_at_call 109;refine(HNX.out _ HC0.out).mono ?_;rintro e w3 ⟨rfl,hc3⟩;have HC3:=kf hc3;clear hc3);have HB6:=kf ((HB0.out.chg HC3.out (fun e=>e)).alloc (.cells #[.int .i64 0,.int .i64 (tf:Nat),.int .i64 (tt_:Nat),.int .i64 (tvk:Nat),.int .i64 tvn,.string S6,.slice none 0 0,.string S7] 131));have HB8:=kf (Blk.new w3 131 #[.int .i64 0,.int .i64 (tf:Nat),.int .i64 (tt_:Nat),.int .i64 (tvk:Nat),.int .i64 tvn,.string S6,.slice none 0 0,.string S7]);have HC4:=kf ((HC0.out.trans HC3.out (fun _ _ e=>e)).alloc (.cells #[.int .i64 0,.int .i64 (tf:Nat),.int .i64 (tt_:Nat),.int .i64 (tvk:Nat),.int .i64 tvn,.string S6,.slice none 0 0,.string S7] 131));obtain⟨W4,hW4⟩:∃ W4,W4=w3.alloc (.cells #[.int .i64 0,.int .i64 (tf:Nat),.int .i64 (tt_:Nat),.int .i64 (tvk:Nat),.int .i64 tvn,.string S6,.slice none 0 0,.string S7] 131):=⟨_,rfl⟩
   obtain⟨g8,hg8⟩:∃ g8,g8=w3.heap.size:=⟨_,rfl⟩
   rw [<- hW4] at HB6 HB8 HC4 ⊢;rw [<- hg8] at HB8 ⊢;obtain⟨g6,hg6⟩:∃ g6,g6=w.heap.size:=⟨_,rfl⟩
   rw [<- hg6] at HB6 ⊢;have hge6:w.heap.size<=g6:=by omega
   obtain⟨q0,q1,q2,q3,q4,q5,q6,q7,y0,y1,y2,y3,y4,y5,y6,y7⟩:=HB8.out.cl8;obtain⟨r0,r1,r2,r3,r4,r5,r6,r7,z0,z1,z2,z3,z4,z5,z6,z7⟩:=HB6.out.cl8;clear hW4 hg6 hg8 HB0 HC0 HC3 HB6 HB8 HNX;go_wp2_with fail;refine bodyPost_ret (v:=.tuple #[.agg #[.int .i64 0,.int .i64 0,.int .i64 0,.int .i64 0,.int .i64 0,.string ⟨#[]⟩,.slice none 0 0,.string ⟨#[]⟩],.int .i64 10]) (by simp [results,Tryz.results108,go_sem,r0,r1,r2,r3,r4,r5,r6,r7]) rfl ?_;refine⟨by rw [HZ.out];rfl,?_⟩;exact Chg.newc hge6 (Chg.newc hge6 (Chg.newc hge6 (Chg.newc hge6 (Chg.newc hge6 (Chg.newc hge6 (Chg.newc hge6 (Chg.newc hge6 HC4.out)))))))
  ·have HZ:=kf (HZ0.out _ (if_neg (fun h=>hk h.2)));have e1:((tk:Int)==0)=false:=by simp;omega
   have e2:(tk==0)=false:=by simp;omega
   clear HZ0 hk;go_enter Tryz.func108,Tryz.ntmps108;go_upto_region 2 with(go_at_call 109;refine(HNX.out _ HC0.out).mono ?_;rintro e w3 ⟨rfl,hc3⟩;have HC3:=kf hc3;clear hc3);have HB6:=kf ((HB0.out.chg HC3.out (fun e=>e)).alloc (.cells #[.int .i64 (tk:Nat),.int .i64 (tf:Nat),.int .i64 (tt_:Nat),.int .i64 (tvk:Nat),.int .i64 tvn,.string S6,.slice none 0 0,.string S7] 131));have HB8:=kf (Blk.new w3 131 #[.int .i64 (tk:Nat),.int .i64 (tf:Nat),.int .i64 (tt_:Nat),.int .i64 (tvk:Nat),.int .i64 tvn,.string S6,.slice none 0 0,.string S7]);have HC4:=kf ((HC0.out.trans HC3.out (fun _ _ e=>e)).alloc (.cells #[.int .i64 (tk:Nat),.int .i64 (tf:Nat),.int .i64 (tt_:Nat),.int .i64 (tvk:Nat),.int .i64 tvn,.string S6,.slice none 0 0,.string S7] 131));obtain⟨W4,hW4⟩:∃ W4,W4=w3.alloc (.cells #[.int .i64 (tk:Nat),.int .i64 (tf:Nat),.int .i64 (tt_:Nat),.int .i64 (tvk:Nat),.int .i64 tvn,.string S6,.slice none 0 0,.string S7] 131):=⟨_,rfl⟩
   obtain⟨g8,hg8⟩:∃ g8,g8=w3.heap.size:=⟨_,rfl⟩
   rw [<- hW4] at HB6 HB8 HC4 ⊢;rw [<- hg8] at HB8 ⊢;obtain⟨g6,hg6⟩:∃ g6,g6=w.heap.size:=⟨_,rfl⟩
   rw [<- hg6] at HB6 ⊢;have hge6:w.heap.size<=g6:=by omega
   obtain⟨q0,q1,q2,q3,q4,q5,q6,q7,y0,y1,y2,y3,y4,y5,y6,y7⟩:=HB8.out.cl8;obtain⟨r0,r1,r2,r3,r4,r5,r6,r7,z0,z1,z2,z3,z4,z5,z6,z7⟩:=HB6.out.cl8;clear hW4 hg6 hg8 HB0 HC0 HC3 HB6 HB8 HNX;go_wp2_with fail;refine bodyPost_ret (v:=.tuple #[.agg #[.int .i64 (tk:Nat),.int .i64 (tf:Nat),.int .i64 (tt_:Nat),.int .i64 (tvk:Nat),.int .i64 tvn,.string S6,.slice none 0 0,.string S7],.int .i64 0]) (by simp [results,Tryz.results108,go_sem,r0,r1,r2,r3,r4,r5,r6,r7]) rfl ?_;refine⟨by rw [HZ.out];rw [HS6.out,HS7.out],?_⟩;exact Chg.newc hge6 (Chg.newc hge6 (Chg.newc hge6 (Chg.newc hge6 (Chg.newc hge6 (Chg.newc hge6 (Chg.newc hge6 (Chg.newc hge6 HC4.out)))))))
 ·have HZ:=kf (HZ0.out _ (if_neg (fun h=>he h.1)));have e1:(er==0)=false:=by simpa using he
  clear HZ0 he;go_enter Tryz.func108,Tryz.ntmps108;go_upto_region 2 with(go_at_call 109;refine(HNX.out _ HC0.out).mono ?_;rintro e w3 ⟨rfl,hc3⟩;have HC3:=kf hc3;clear hc3);have HB6:=kf ((HB0.out.chg HC3.out (fun e=>e)).alloc (.cells #[.int .i64 (tk:Nat),.int .i64 (tf:Nat),.int .i64 (tt_:Nat),.int .i64 (tvk:Nat),.int .i64 tvn,.string S6,.slice none 0 0,.string S7] 131));have HB8:=kf (Blk.new w3 131 #[.int .i64 (tk:Nat),.int .i64 (tf:Nat),.int .i64 (tt_:Nat),.int .i64 (tvk:Nat),.int .i64 tvn,.string S6,.slice none 0 0,.string S7]);have HC4:=kf ((HC0.out.trans HC3.out (fun _ _ e=>e)).alloc (.cells #[.int .i64 (tk:Nat),.int .i64 (tf:Nat),.int .i64 (tt_:Nat),.int .i64 (tvk:Nat),.int .i64 tvn,.string S6,.slice none 0 0,.string S7] 131));obtain⟨W4,hW4⟩:∃ W4,W4=w3.alloc (.cells #[.int .i64 (tk:Nat),.int .i64 (tf:Nat),.int .i64 (tt_:Nat),.int .i64 (tvk:Nat),.int .i64 tvn,.string S6,.slice none 0 0,.string S7] 131):=⟨_,rfl⟩
  obtain⟨g8,hg8⟩:∃ g8,g8=w3.heap.size:=⟨_,rfl⟩
  rw [<- hW4] at HB6 HB8 HC4 ⊢;rw [<- hg8] at HB8 ⊢;obtain⟨g6,hg6⟩:∃ g6,g6=w.heap.size:=⟨_,rfl⟩
  rw [<- hg6] at HB6 ⊢;have hge6:w.heap.size<=g6:=by omega
  obtain⟨q0,q1,q2,q3,q4,q5,q6,q7,y0,y1,y2,y3,y4,y5,y6,y7⟩:=HB8.out.cl8;obtain⟨r0,r1,r2,r3,r4,r5,r6,r7,z0,z1,z2,z3,z4,z5,z6,z7⟩:=HB6.out.cl8;clear hW4 hg6 hg8 HB0 HC0 HC3 HB6 HB8 HNX;go_wp2_with fail;refine bodyPost_ret (v:=.tuple #[.agg #[.int .i64 (tk:Nat),.int .i64 (tf:Nat),.int .i64 (tt_:Nat),.int .i64 (tvk:Nat),.int .i64 tvn,.string S6,.slice none 0 0,.string S7],.int .i64 er]) (by simp [results,Tryz.results108,go_sem,r0,r1,r2,r3,r4,r5,r6,r7]) rfl ?_;refine⟨by rw [HZ.out];rw [HS6.out,HS7.out],?_⟩;exact Chg.newc hge6 (Chg.newc hge6 (Chg.newc hge6 (Chg.newc hge6 (Chg.newc hge6 (Chg.newc hge6 (Chg.newc hge6 (Chg.newc hge6 HC4.out)))))))
end Go.Proofs.YtnhlalkeaaiefaaGreatDoor
