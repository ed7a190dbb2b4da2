import Derived.Test.YtmibnkddappgiaaGreatDoorK18
import Derived.Test.YtmibnkddappgiaaGreatDoorK22
import Derived.Test.YtmibnkddappgiaaGreatDoorK23
set_option linter.unusedVariables false
set_option maxHeartbeats 64000000
set_option maxRecDepth 100000
set_option linter.unusedSimpArgs false
namespace Go.Proofs.YtmibnkddappgiaaGreatDoor
open Go.RowKit
def VC.arr (v:VC):Array Value:=#[.int .i64 v.k,.int .i64 v.n,.string v.s,.slice v.A v.len v.cap]
theorem Blk.set4 {w:World} {g:Nat} {T:TypeId} {x0 x1 x2 x3:Value} (h:Blk w g T #[x0,x1,x2,x3]) (a b c d:Value):Blk ((((w.setCell ⟨g,0,none⟩ a).setCell ⟨g,1,none⟩ b).setCell ⟨g,2,none⟩ c).setCell ⟨g,3,none⟩ d) g T #[a,b,c,d]:=by
 have h0:Blk _ g T #[a,x1,x2,x3]:=h.set_ 0 a;have h1:Blk _ g T #[a,b,x2,x3]:=h0.set_ 1 b;have h2:Blk _ g T #[a,b,c,x3]:=h1.set_ 2 c;exact h2.set_ 3 d
def BdO (st:List (Int × List VT)) (p:Nat):Prop:=st.length<=p/\∀ x∈st,x.2.length<=p
theorem z0r {fs:List FrM} {p:Nat} (h:BdO (stO fs) p):fs.length<=p/\∀ f∈fs,f.ts.length<=p:=by
 refine⟨by rw [<- y5f];exact h.1,fun f hf=>h.2 (f.k,f.ts) ?_⟩;unfold stO;exact List.mem_reverse.2 (List.mem_map.2 ⟨f,hf,rfl⟩)
theorem y8f {st:List (Int × List VT)} {p:Nat} (h:BdO st p):BdO st.tail p:=⟨by rw [List.length_tail];have:=h.1;omega,fun x hx=>h.2 x (List.mem_of_mem_tail hx)⟩
theorem y3o {fs:List FrM} {f:FrM} {t:VT} {p q:Nat} {es:List VC} {A:Option Addr} {c:Nat} (h:BdO (stO (fs++[f])) p) (hq:p<q):BdO (stO (fs++[⟨f.k,es,f.ts++[t],A,c⟩])) q:=by
 rw [z0d] at h ⊢;have h1:=h.1;refine⟨by simp only [List.length_cons] at h1 ⊢;omega,fun x hx=>?_⟩;rcases List.mem_cons.1 hx with rfl|hx
 ·have:=h.2 _ (List.mem_cons_self ..);simp only [List.length_append,List.length_singleton] at this ⊢;omega
 ·have:=h.2 x (List.mem_cons_of_mem _ hx);omega
theorem y8g {fs:List FrM} {k:Int} {p q:Nat} (h:BdO (stO fs) p) (hq:p<q):BdO (stO (fs++[⟨k,[],[],none,0⟩])) q:=by
 rw [z0d];have h1:=h.1;refine⟨by simp only [List.length_cons];omega,fun x hx=>?_⟩;rcases List.mem_cons.1 hx with rfl|hx
 ·exact Nat.zero_le _
 ·have:=h.2 x hx;omega
theorem v0e {bs:List Nat} {last:Bool} {r:Int × Tkn} {st:List (Int × List VT)}:((z14 r).1≠0->z32 bs last r st=.done (z14 r).1 z1i 0)/\((z14 r).1=0->r=z14 r/\(z14 r).2.kind≠0):=by
 unfold z14;by_cases h:r.1=0/\r.2.kind=0
 ·rw [if_pos h];refine⟨fun _=>?_,fun h=>absurd h (by decide)⟩;unfold z32;rw [if_neg (by rw [h.1];decide),if_pos h.2]
 ·rw [if_neg h];exact⟨z9d,fun h0=>⟨rfl,fun hk=>h ⟨h0,hk⟩⟩⟩
theorem y6q {bs:List Nat} {p:Int} {last:Bool}:(z14 (z0a bs p last)).2.kind<=6/\((z14 (z0a bs p last)).1≠0->(z14 (z0a bs p last)).2.kind=0):=by
 unfold z14 z0a;by_cases hp:p<0\/(bs.length:Int)<p
 ·rw [if_pos hp];split<;>exact⟨Nat.zero_le _,fun _=>rfl⟩
 ·rw [if_neg hp];split
  ·exact⟨Nat.zero_le _,fun _=>rfl⟩
  ·refine⟨y0f _ _ _,fun h=>?_⟩;rcases z1s bs p.toNat last (by omega) with h1|h1
   ·exact h1.1
   ·exact absurd h1.1 h
theorem y4e (S:ByteArray):(-9223372036854775808<=(z35 S).2.1/\(z35 S).2.1<=9223372036854775807)/\(-9223372036854775808<=(z35 S).2.2/\(z35 S).2.2<=9223372036854775807):=by
 unfold z35;repeat' split
 all_goals decide
theorem y2c {O:Nat->Prop} {w:World} {N:Nat} {t:Tkn} (h:v5y N t) (hN:N<=400000):Ins O w (y4x t) ⟨(y4x t).kind,(y4x t).num,(y4x t).str,none,0,0⟩:=by
 obtain⟨h0,h⟩:=h;refine z1y O w _ _ _ ?_ ?_ ?_
 ·rcases h with⟨h1,_⟩|⟨h1,_⟩|⟨h1,_⟩|⟨h1,_⟩<;>rw [h1]<;>decide
 ·rcases h with⟨_,h1⟩|⟨_,h1,_⟩|⟨_,_,h1⟩|⟨_,_,h1⟩<;>omega
 ·rw [z0k];unfold maxLen;omega
theorem v3w {O:Nat->Prop} {w:World} {bs:List Nat} {last:Bool} {N:Nat} {t:Tkn} (h:v5y N t) (hN:N<=400000):Ins O w (z3o bs last t).2.1 ⟨(z3o bs last t).2.1.kind,(z3o bs last t).2.1.num,(z3o bs last t).2.1.str,none,0,0⟩:=by
 unfold z3o;split
 ·exact y2c h hN
 ·split
  ·exact z1y O w 0 0 ⟨#[]⟩ (by decide) (by decide) (by decide)
  ·split
   ·exact y2c h hN
   ·split
    ·exact z1y O w 0 0 ⟨#[]⟩ (by decide) (by decide) (by decide)
    ·next hn=>exact z1y O w 8 t.vn ⟨#[]⟩ (by decide) (by omega) (by decide)
def v8l (w:World) (R:Int × VT × Nat) (e:Ending) (w':World):Prop:=∃ v:VC,e=.returned (.tuple #[v.val,.int .i64 (R.2.2:Nat),.int .i64 R.1])/\Ins (fun i=>i<w.heap.size) w' R.2.1 v/\Chg NoS w w'
def q0x (w:World) (bs:List Nat) (A:Option Addr) (c:Nat) (last:Bool) (gs gv g6:Nat) (R:Int × VT × Nat) (n:Nat) (x:Act) (w':World):Prop :=
 x.defers=[]/\x.tmps.size=78/\x.tmps.getD 0 undef=.slice A bs.length c/\x.tmps.getD 2 undef=.bool last/\x.tmps.getD 6 undef=.pointer (some ⟨g6,0,none⟩)/\x.tmps.getD 9 undef=.pointer (some ⟨gs,0,none⟩)/\x.tmps.getD 10 undef=.pointer (some ⟨gv,0,none⟩) /\
 ∃ (p:Int) (fs:List FrM) (S:Option Addr) (cS:Nat) (O:Nat->Prop) (v:VC),x.tmps.getD 1 undef=.int .i64 p/\n=2*(bs.length-p.toNat)+2/\Hid (Stk w w' gs gv g6 v.arr #[.int .i64 0,.int .i64 0,.string ⟨#[]⟩,.slice none 0 0] fs S cS O/\BdO (stO fs) p.toNat/\R=z4i bs last p (stO fs))
def q0w (w:World) (bs:List Nat) (A:Option Addr) (c:Nat) (last:Bool) (gs gv g6:Nat) (R:Int × VT × Nat) (n:Nat) (x:Act) (w':World):Prop :=
 x.defers=[]/\x.tmps.size=78/\x.tmps.getD 0 undef=.slice A bs.length c/\x.tmps.getD 2 undef=.bool last/\x.tmps.getD 6 undef=.pointer (some ⟨g6,0,none⟩)/\x.tmps.getD 9 undef=.pointer (some ⟨gs,0,none⟩)/\x.tmps.getD 10 undef=.pointer (some ⟨gv,0,none⟩) /\
 ∃ (q:Nat) (er:Int) (fs:List FrM) (S:Option Addr) (cS:Nat) (O:Nat->Prop) (v:VC),x.tmps.getD 1 undef=.int .i64 (q:Nat)/\x.tmps.getD 12 undef=.int .i64 er/\Hid (Stk w w' gs gv g6 v.arr #[.int .i64 0,.int .i64 0,.string ⟨#[]⟩,.slice none 0 0] fs S cS O) /\
  ((er=0/\n=2*(bs.length-q)+3/\Hid (BdO (stO fs) q/\R=z4i bs last (q:Nat) (stO fs)))\/(er≠0/\Hid (R=(er,z1i,0))))
theorem y2g {x:Act} {v0 v1 v2 v6 v9 v10:Value} {C:Act->Prop} (h1:x.defers=[]) (h2:x.tmps.size=78) (h3:x.tmps.getD 0 undef=v0) (h8:x.tmps.getD 1 undef=v1) (h4:x.tmps.getD 2 undef=v2) (h5:x.tmps.getD 6 undef=v6) (h6:x.tmps.getD 9 undef=v9) (h7:x.tmps.getD 10 undef=v10)
  (k:∀ f:Nat->Value,f 12=x.tmps.getD 12 undef->C { tmps:=#[v0,v1,v2,f 3,f 4,f 5,v6,f 7,f 8,v9,v10,f 11,f 12,f 13,f 14,f 15,f 16,f 17,f 18,f 19,f 20,f 21,f 22,f 23,f 24,f 25,f 26,f 27,f 28,f 29,f 30,f 31,f 32,f 33,f 34,f 35,f 36,f 37,f 38,f 39,f 40,f 41,f 42,f 43,f 44,f 45,f 46,f 47,f 48,f 49,f 50,f 51,f 52,f 53,f 54,f 55,f 56,f 57,f 58,f 59,f 60,f 61,f 62,f 63,f 64,f 65,f 66,f 67,f 68,f 69,f 70,f 71,f 72,f 73,f 74,f 75,f 76,f 77],defers:=[] }):C x:=by
 obtain⟨t,d⟩:=x;simp only at h1 h2 h3 h4 h5 h6 h7 h8;subst h1;have h9:=k (fun i=>t.getD i undef) rfl;rw [<- h3,<- h4,<- h5,<- h6,<- h7,<- h8] at h9;rw [z2s t 78 h2];exact h9
theorem y5d (w:World):Stk w (((w.alloc (.cells #[.int .i64 0,.int .i64 0,.string ⟨#[]⟩,.slice none 0 0] 24)).alloc (.cells #[.slice none 0 0] 137)).alloc (.cells #[.int .i64 0,.int .i64 0,.string ⟨#[]⟩,.slice none 0 0] 24)) (w.heap.size+1) (w.heap.size+1+1) w.heap.size #[.int .i64 0,.int .i64 0,.string ⟨#[]⟩,.slice none 0 0] #[.int .i64 0,.int .i64 0,.string ⟨#[]⟩,.slice none 0 0] [] none 0 (fun i=>i=w.heap.size+1\/i=w.heap.size+1+1\/i=w.heap.size):=by
 have hs:=(Blk.new (w.alloc (.cells #[.int .i64 0,.int .i64 0,.string ⟨#[]⟩,.slice none 0 0] 24)) 137 #[.slice none 0 0]).alloc (.cells #[.int .i64 0,.int .i64 0,.string ⟨#[]⟩,.slice none 0 0] 24);have hv:=Blk.new ((w.alloc (.cells #[.int .i64 0,.int .i64 0,.string ⟨#[]⟩,.slice none 0 0] 24)).alloc (.cells #[.slice none 0 0] 137)) 24 #[.int .i64 0,.int .i64 0,.string ⟨#[]⟩,.slice none 0 0];have h6:=((Blk.new w 24 #[.int .i64 0,.int .i64 0,.string ⟨#[]⟩,.slice none 0 0]).alloc (.cells #[.slice none 0 0] 137)).alloc (.cells #[.int .i64 0,.int .i64 0,.string ⟨#[]⟩,.slice none 0 0] 24);simp only [World.size_alloc] at hs hv;have hap:∀ b,(b=w.heap.size+1\/b=w.heap.size+1+1\/b=w.heap.size)->Apart (fun i=>i=w.heap.size+1\/i=w.heap.size+1+1\/i=w.heap.size) [] none b:=fun b hb=>⟨hb,fun e=>(by cases e),fun f hf=>(by cases hf)⟩
 exact⟨hs,z43 _ 0 _ 4,fun f hf=>(by cases hf),.inl rfl,fun g hg=>(by cases hg),fun f hf=>(by cases hf),List.Pairwise.nil,fun i hi=>by omega,fun i hi=>by simp only [World.size_alloc];omega,(((Chg.refl NoS w).alloc _).alloc _).alloc _,hv,h6,hap _ (.inr (.inl rfl)),hap _ (.inr (.inr rfl)),by omega⟩
theorem y9r (bs:List Nat) (A:Option Addr) (c:Nat) (at_:Int) (last:Bool) (w:World) (hS:Src w 1 A bs.length c (z09 bs)) (hl:bs.length<=400000) (hc:bs.length<=c) (hb:∀ x∈bs,x<256) :
  Calls Tryz.prog 73 #[.slice A bs.length c,.int .i64 at_,.bool last] w (v8l w (z4i bs last at_ [])):=by
 have HTK:=kf (fun(p:Int) W (hW:Chg NoS w W)=>z8n bs A c p last W (Src.below (w0:=w) hS hW) hl hc hb);have HIT:=kf (fun(t:Tkn) (ht:t.to<=bs.length) W (hW:Chg NoS w W)=>y9t bs A c last W (Src.below (w0:=w) hS hW) hl hc hb t ht);have HNV:=kf (fun(p:Nat)=>y36 bs p last hb);have HPL:=kf hl;obtain⟨R,hR⟩:∃ R,R=z4i bs last at_ []:=⟨_,rfl⟩
 have HR0:=kf hR;rw [<- hR];clear hS hb hc hl hR;go_enter Tryz.func73,Tryz.ntmps73;have HSTART:=kf (y5d w);obtain⟨gv,hgv⟩:∃ gv,gv=w.heap.size+1+1:=⟨_,rfl⟩
 obtain⟨gs,hgs⟩:∃ gs,gs=w.heap.size+1:=⟨_,rfl⟩
 obtain⟨g6,hg6⟩:∃ g6,g6=w.heap.size:=⟨_,rfl⟩
 rw [<- hgv,<- hgs,<- hg6] at HSTART;have HG6:Hid (w.heap.size<=g6):=by show _<=_;omega
 have HGV:=kf hgv;have HGS:=kf hgs;have HG:=kf hg6;clear hgv hgs hg6;go_wp2;refine z6f (q0x w bs A c last gs gv g6 R) (q0w w bs A c last gs gv g6 R) rfl rfl ?pass0 ?pass1 ?first
 case first =>
  intro hpass _;have HPass:=kf hpass;clear hpass;go_wp2;go_step3;rename_i hK;refine hK _ _ (HPass.out _ _ _ ⟨rfl,rfl,rfl,rfl,by rw [HG.out];rfl,by rw [HGS.out];rfl,by rw [HGV.out];rfl,at_,[],none,0,_,⟨0,0,⟨#[]⟩,none,0,0⟩,rfl,rfl,kf ⟨HSTART.out,⟨Nat.zero_le _,fun x hx=>(by cases hx)⟩,HR0.out⟩⟩)
 case pass1 =>
  intro n x w1 hx;obtain⟨h1,h2,h3,h4,h5,h6,h7,q,er,fs,S,cS,O,v,h8,h9,HST,HOR⟩:=hx;refine y2g h1 h2 h3 h8 h4 h5 h6 h7 (C:=fun y=>Code.wp _ _ _ y w1) ?_;intro f hf;rw [h9] at hf;simp only [hf];clear h1 h2 h3 h4 h5 h6 h7 h8 h9 hf;rcases HOR with⟨rfl,hn,HRR⟩|⟨he,HRR⟩
  ·go_wp2_with fail;go_step3;exact⟨2*(bs.length-q)+2,by omega,.inl ⟨rfl,rfl,rfl,rfl,rfl,rfl,rfl,rfl,(q:Nat),fs,S,cS,O,v,rfl,by simp,kf ⟨HST.out,by simpa using HRR.out.1,HRR.out.2⟩⟩⟩
  ·have e1:(er==0)=false:=by simpa using he
   obtain⟨z0,z1,z2,z3,zf0,zf1,zf2,zf3⟩:=HST.out.h2.cl4;clear he;go_wp2_with fail;(try simp only [z2a])
   refine bodyPost_ret (v:=.tuple #[.agg #[.int .i64 0,.int .i64 0,.string ⟨#[]⟩,.slice none 0 0],.int .i64 0,.int .i64 er]) (by simp [results,Tryz.results73,go_sem,z0,z1,z2,z3]) rfl ?_;exact⟨⟨0,0,⟨#[]⟩,none,0,0⟩,by rw [HRR.out];rfl,by rw [HRR.out];exact fun V _=>z2p V,Chg.newc HG6.out (Chg.newc HG6.out (Chg.newc HG6.out (Chg.newc HG6.out HST.out.chg)))⟩
 case pass0 =>
  intro n x w1 hx;obtain⟨h1,h2,h3,h4,h5,h6,h7,p,fs,S,cS,O,v,h8,hn,HT⟩:=hx;refine y2g h1 h2 h3 h8 h4 h5 h6 h7 (C:=fun y=>Code.wp _ _ _ y w1) ?_;intro f hf;clear h1 h2 h3 h4 h5 h6 h7 h8 hf;obtain⟨vk,vn,vs,vA,vl,vc⟩:=v;have HBD:=kf HT.out.2.1;have HTK1:=kf (HTK.out p w1 HT.out.1.chg);have HMA:=kf (v0e (bs:=bs) (last:=last) (r:=z0a bs p last) (st:=stO fs));have HMK:=kf (y6q (bs:=bs) (p:=p) (last:=last));obtain⟨r,hr⟩:∃ r,r=z14 (z0a bs p last):=⟨_,rfl⟩
  rw [<- hr] at HTK1 HMA HMK;clear hr;obtain⟨er,⟨tk,tf,tt_,tvk,tvn,tvs,ts⟩⟩:=r;unfold y8m z9l at HTK1;simp only [] at HTK1 HMA HMK;obtain⟨S6,hS6⟩:∃ S6,S6=sb tvs:=⟨_,rfl⟩
  obtain⟨S7,hS7⟩:∃ S7,S7=sb ts:=⟨_,rfl⟩
  rw [<- hS6,<- hS7] at HTK1;have HS6_:=kf hS6;have HS7:=kf hS7;clear hS6 hS7;by_cases he:er=0
  ·subst he;have HNX:Hid (z0a bs p last=(0,⟨tk,tf,tt_,tvk,tvn,tvs,ts⟩)):=(HMA.out.2 rfl).1;have hk0:tk≠0:=(HMA.out.2 rfl).2;have hk6:=HMK.out.1
   have HPP:Hid (0<=p/\p<=bs.length/\p<tt_/\tt_<=bs.length/\z0i bs p.toNat last=(0,⟨tk,tf,tt_,tvk,tvn,tvs,ts⟩)):=by
    have h1:=HNX.out;unfold z0a at h1;by_cases hp:p<0\/(bs.length:Int)<p
    ·rw [if_pos hp] at h1;cases h1
    ·rw [if_neg hp] at h1;have h2:=z1s bs p.toNat last (by omega);rw [h1] at h2;rcases h2 with h2|h2
     ·exact absurd h2.1 hk0
     ·obtain⟨_,_,h3,h4⟩:=h2;simp only [] at h3 h4;exact⟨by omega,by omega,by omega,h4,h1⟩
   have hpq:=HPP.out.2.2.1;have hpl:=HPP.out.2.1;have hpz:=HPP.out.1;have hpt:p.toNat<=400000:=by have:=HPL.out;omega
   have htl:=HPP.out.2.2.2.1;clear HMA HMK;by_cases k2:tk=2
   ·subst k2;clear hk0 hk6;go_upto_region 4 with(go_at_call 72;refine HTK1.out.mono ?_;rintro e w3 ⟨rfl,hc3⟩;have HC3:=kf hc3;clear hc3);have HS4:=kf ((HT.out.1.call HC3.out).call ((Chg.refl NoS w3).alloc (.cells #[.int .i64 2,.int .i64 (tf:Nat),.int .i64 (tt_:Nat),.int .i64 (tvk:Nat),.int .i64 tvn,.string S6,.slice none 0 0,.string S7] 111)));have HB11:=kf (Blk.new w3 111 #[.int .i64 2,.int .i64 (tf:Nat),.int .i64 (tt_:Nat),.int .i64 (tvk:Nat),.int .i64 tvn,.string S6,.slice none 0 0,.string S7]);obtain⟨W4,hW4⟩:∃ W4,W4=w3.alloc (.cells #[.int .i64 2,.int .i64 (tf:Nat),.int .i64 (tt_:Nat),.int .i64 (tvk:Nat),.int .i64 tvn,.string S6,.slice none 0 0,.string S7] 111):=⟨_,rfl⟩
    obtain⟨g11,hg11⟩:∃ g11,g11=w3.heap.size:=⟨_,rfl⟩
    rw [<- hW4] at HS4 HB11 ⊢;rw [<- hg11] at HB11 ⊢;clear hW4 hg11;obtain⟨p0,p1,p2,p3,p4,p5,p6,p7,_,_,_,_,_,_,_,_⟩:=HB11.out.cl8;have HPU:=kf (y06 HS4.out (by have:=(z0r HBD.out).1;omega) (fun x hx=>by have:=(z0r HBD.out).2 x hx;omega) 6 (.inl rfl));have HACT0:Hid (z32 bs last (z0a bs p last) (stO fs)=y12 6 tt_ (stO fs)):=by show _=_;rw [HNX.out];rfl
    obtain⟨er5,her5⟩:∃ er5,er5=z1v (stO fs) 6:=⟨_,rfl⟩
    rw [<- her5] at HPU;have HER5:=kf her5;clear her5;go_wp2_with (go_at_call 98;refine HPU.out.mono ?_;rintro e w5 ⟨rfl,hor⟩;have HOR:=kf hor;clear hor);go_step3;rcases HOR.out with⟨h0,S8,c8,O8,hst8⟩|⟨h0,hst8⟩
    ·have HAT:=kf (show z32 bs last (z0a bs p last) (stO fs)=.next tt_ ((6,[])::stO fs) from by rw [HACT0.out];unfold y12;rw [<- HER5.out,h0];rfl);obtain⟨hr1,hr2,hr3,hr4⟩:=z1k HAT.out;exact⟨2*(bs.length-tt_)+3,by omega,.inr ⟨rfl,rfl,rfl,rfl,rfl,rfl,rfl,rfl,tt_,er5,_,S8,c8,O8,⟨vk,vn,vs,vA,vl,vc⟩,rfl,rfl,kf hst8,.inl ⟨h0,rfl,kf ⟨y8g HBD.out (by omega),by rw [HT.out.2.2,hr1,z0d]⟩⟩⟩⟩
    ·exact⟨0,by omega,.inr ⟨rfl,rfl,rfl,rfl,rfl,rfl,rfl,rfl,tt_,er5,fs,S,cS,O,⟨vk,vn,vs,vA,vl,vc⟩,rfl,rfl,kf hst8,.inr ⟨h0,kf (HT.out.2.2.trans (z0q (by rw [HACT0.out];unfold y12;rw [<- HER5.out,if_pos h0])))⟩⟩⟩
   by_cases k4:tk=4
   ·subst k4;clear hk0 hk6 k2;go_upto_region 4 with(go_at_call 72;refine HTK1.out.mono ?_;rintro e w3 ⟨rfl,hc3⟩;have HC3:=kf hc3;clear hc3);have HS4:=kf ((HT.out.1.call HC3.out).call ((Chg.refl NoS w3).alloc (.cells #[.int .i64 4,.int .i64 (tf:Nat),.int .i64 (tt_:Nat),.int .i64 (tvk:Nat),.int .i64 tvn,.string S6,.slice none 0 0,.string S7] 111)));have HB11:=kf (Blk.new w3 111 #[.int .i64 4,.int .i64 (tf:Nat),.int .i64 (tt_:Nat),.int .i64 (tvk:Nat),.int .i64 tvn,.string S6,.slice none 0 0,.string S7]);obtain⟨W4,hW4⟩:∃ W4,W4=w3.alloc (.cells #[.int .i64 4,.int .i64 (tf:Nat),.int .i64 (tt_:Nat),.int .i64 (tvk:Nat),.int .i64 tvn,.string S6,.slice none 0 0,.string S7] 111):=⟨_,rfl⟩
    obtain⟨g11,hg11⟩:∃ g11,g11=w3.heap.size:=⟨_,rfl⟩
    rw [<- hW4] at HS4 HB11 ⊢;rw [<- hg11] at HB11 ⊢;clear hW4 hg11;obtain⟨p0,p1,p2,p3,p4,p5,p6,p7,_,_,_,_,_,_,_,_⟩:=HB11.out.cl8;have HPU:=kf (y06 HS4.out (by have:=(z0r HBD.out).1;omega) (fun x hx=>by have:=(z0r HBD.out).2 x hx;omega) 7 (.inr rfl));have HACT0:Hid (z32 bs last (z0a bs p last) (stO fs)=y12 7 tt_ (stO fs)):=by show _=_;rw [HNX.out];rfl
    obtain⟨er5,her5⟩:∃ er5,er5=z1v (stO fs) 7:=⟨_,rfl⟩
    rw [<- her5] at HPU;have HER5:=kf her5;clear her5;go_wp2_with (go_at_call 98;refine HPU.out.mono ?_;rintro e w5 ⟨rfl,hor⟩;have HOR:=kf hor;clear hor);go_step3;rcases HOR.out with⟨h0,S8,c8,O8,hst8⟩|⟨h0,hst8⟩
    ·have HAT:=kf (show z32 bs last (z0a bs p last) (stO fs)=.next tt_ ((7,[])::stO fs) from by rw [HACT0.out];unfold y12;rw [<- HER5.out,h0];rfl);obtain⟨hr1,hr2,hr3,hr4⟩:=z1k HAT.out;exact⟨2*(bs.length-tt_)+3,by omega,.inr ⟨rfl,rfl,rfl,rfl,rfl,rfl,rfl,rfl,tt_,er5,_,S8,c8,O8,⟨vk,vn,vs,vA,vl,vc⟩,rfl,rfl,kf hst8,.inl ⟨h0,rfl,kf ⟨y8g HBD.out (by omega),by rw [HT.out.2.2,hr1,z0d]⟩⟩⟩⟩
    ·exact⟨0,by omega,.inr ⟨rfl,rfl,rfl,rfl,rfl,rfl,rfl,rfl,tt_,er5,fs,S,cS,O,⟨vk,vn,vs,vA,vl,vc⟩,rfl,rfl,kf hst8,.inr ⟨h0,kf (HT.out.2.2.trans (z0q (by rw [HACT0.out];unfold y12;rw [<- HER5.out,if_pos h0])))⟩⟩⟩
   by_cases k3:tk=3
   ·subst k3;clear hk0 hk6 k2 k4;go_upto_region 4 with(go_at_call 72;refine HTK1.out.mono ?_;rintro e w3 ⟨rfl,hc3⟩;have HC3:=kf hc3;clear hc3);have HS4:=kf ((HT.out.1.call HC3.out).call ((Chg.refl NoS w3).alloc (.cells #[.int .i64 3,.int .i64 (tf:Nat),.int .i64 (tt_:Nat),.int .i64 (tvk:Nat),.int .i64 tvn,.string S6,.slice none 0 0,.string S7] 111)));have HB11:=kf (Blk.new w3 111 #[.int .i64 3,.int .i64 (tf:Nat),.int .i64 (tt_:Nat),.int .i64 (tvk:Nat),.int .i64 tvn,.string S6,.slice none 0 0,.string S7]);obtain⟨W4,hW4⟩:∃ W4,W4=w3.alloc (.cells #[.int .i64 3,.int .i64 (tf:Nat),.int .i64 (tt_:Nat),.int .i64 (tvk:Nat),.int .i64 tvn,.string S6,.slice none 0 0,.string S7] 111):=⟨_,rfl⟩
    obtain⟨g11,hg11⟩:∃ g11,g11=w3.heap.size:=⟨_,rfl⟩
    rw [<- hW4] at HS4 HB11 ⊢;rw [<- hg11] at HB11 ⊢;clear hW4 hg11;obtain⟨p0,p1,p2,p3,p4,p5,p6,p7,_,_,_,_,_,_,_,_⟩:=HB11.out.cl8;have HPO:=kf (y2q HS4.out (by have:=(z0r HBD.out).1;have:=HPL.out;omega) (fun x hx=>by have:=(z0r HBD.out).2 x hx;have:=HPL.out;omega) 6 (.inl rfl));unfold y25 at HPO;obtain⟨Q,hQ⟩:∃ Q,Q=z8s (stO fs) 6:=⟨_,rfl⟩
    rw [<- hQ] at HPO;obtain⟨er6,t6⟩:=Q;simp only [] at HPO;have HQ:=kf hQ;clear hQ;go_upto_region 18 with(go_at_call 99;refine HPO.out.mono ?_;rintro e w5 ⟨v6,rfl,fs6,S6_,c6,O6,hst5,himp⟩;have HS5:=kf hst5;have HIM:=kf himp;clear hst5 himp;obtain⟨vk6,vn6,vs6,vA6,vl6,vc6⟩:=v6;unfold VC.val;simp only [];obtain⟨y0,y1,y2,y3,u0,u1,u2,u3⟩:=(show Blk w5 gv 24 #[.int .i64 vk,.int .i64 vn,.string vs,.slice vA vl vc] from HS5.out.h1).cl4);have HS6:=kf (HS5.out.set1 (c1':=VC.arr ⟨vk6,vn6,vs6,vA6,vl6,vc6⟩) (z0l w5 gv (.int .i64 vk6) (.int .i64 vn6) (.string vs6) (.slice vA6 vl6 vc6)) (Blk.set4 HS5.out.h1 _ _ _ _));have HCW:=kf (z0l w5 gv (.int .i64 vk6) (.int .i64 vn6) (.string vs6) (.slice vA6 vl6 vc6));have HGO:=kf HS5.out.a1.o;obtain⟨W6,hW6⟩:∃ W6,W6=((((w5.setCell ⟨gv,0,none⟩ (.int .i64 vk6)).setCell ⟨gv,1,none⟩ (.int .i64 vn6)).setCell ⟨gv,2,none⟩ (.string vs6)).setCell ⟨gv,3,none⟩ (.slice vA6 vl6 vc6)):=⟨_,rfl⟩
    rw [<- hW6] at HS6 HCW ⊢;clear hW6 y0 y1 y2 y3 u0 u1 u2 u3;have HACT0:Hid (z32 bs last (z0a bs p last) (stO fs)=z2v er6 t6 tt_ (stO fs).tail):=by show _=_;rw [HNX.out];unfold z32;simp only [];rw [<- HQ.out];rfl
    have HAE6:Hid (er6≠0->z32 bs last (z0a bs p last) (stO fs)=.done er6 z1i 0):=fun h=>by rw [HACT0.out];unfold z2v;rw [if_pos h]
    obtain⟨at6,hat6⟩:∃ at6,at6=tt_:=⟨_,rfl⟩
    have HAO6:Hid (er6=0->z32 bs last (z0a bs p last) (stO fs)=z2v 0 t6 at6 (stO fs6)/\InsB w O6 W6 t6 ⟨vk6,vn6,vs6,vA6,vl6,vc6⟩):=fun h=>⟨by rw [HACT0.out,(HIM.out h).1,h,hat6],(HIM.out h).2.turn (HCW.out.mono (fun i _ e=>by rw [e];exact HGO.out)) (fun _ _ e=>e)⟩
    have HBD6:Hid (er6=0->BdO (stO fs6) p.toNat):=fun h=>by rw [(HIM.out h).1];exact y8f HBD.out
    rw [<- hat6];clear hat6 HPO HS4 HB11 p0 p1 p2 p3 p4 p5 p6 p7;obtain⟨y0,y1,y2,y3,u0,u1,u2,u3⟩:=(show Blk W6 gv 24 #[.int .i64 vk6,.int .i64 vn6,.string vs6,.slice vA6 vl6 vc6] from HS6.out.h1).cl4;obtain⟨z0,z1,z2,z3,zf0,zf1,zf2,zf3⟩:=HS6.out.h2.cl4;obtain⟨nf,hnf⟩:∃ nf,nf=fs6.length:=⟨_,rfl⟩
    have qs:=HS6.out.cells' hnf;have HNF:=kf hnf;clear hnf;by_cases he6:er6=0
    ·subst he6;obtain⟨hact,hins⟩:=HAO6.out rfl;have HACT:=kf hact;have HINS:=kf hins;clear hact hins HAE6 HAO6;rcases List.eq_nil_or_concat fs6 with hnil|⟨fs7,f7,hcon⟩
     ·subst hnil;obtain rfl:nf=0:=HNF.out;have HR:=kf (show R=(0,t6,at6) from HT.out.2.2.trans (z0q (by rw [HACT.out];unfold z2v;rw [if_neg (by decide)];rfl)));have HG6O:=kf HS6.out.a2.o;go_wp2_with fail;(try simp only [z2a])
      refine bodyPost_ret (v:=.tuple #[.agg #[.int .i64 vk6,.int .i64 vn6,.string vs6,.slice vA6 vl6 vc6],.int .i64 (at6:Nat),.int .i64 0]) (by simp [results,Tryz.results73,go_sem,z0,z1,z2,z3]) rfl ?_;exact⟨⟨vk6,vn6,vs6,vA6,vl6,vc6⟩,by rw [HR.out];rfl,by rw [HR.out];exact fun V hV=>HINS.out V (((z0l W6 g6 _ _ _ _).mono (fun i _ e=>.inl (by rw [e];exact HG6O.out))).trans hV (fun i _ e=>.inr e)),Chg.newc HG6.out (Chg.newc HG6.out (Chg.newc HG6.out (Chg.newc HG6.out HS6.out.chg)))⟩
     ·rw [List.concat_eq_append] at hcon;subst hcon;have hnf1:nf=fs7.length+1:=by rw [HNF.out];simp
      have f1:((nf:Int)==0)=false:=by simp;omega
      have f2:(nf==0)=false:=by simp;omega
      have f3:¬nf=0:=by omega
      have HNF1:=kf hnf1;have hbd:=HBD6.out rfl;have HAD:=kf (z65 HS6.out nf hnf1 (by have:=(z0r hbd).1;rw [List.length_append] at this;have:=HPL.out;omega) (fun x hx=>by have:=(z0r hbd).2 x hx;have:=HPL.out;omega) t6 ⟨vk6,vn6,vs6,vA6,vl6,vc6⟩ HINS.out);unfold VC.val at HAD;simp only [] at HAD;obtain⟨er7,her7⟩:∃ er7,er7=z1v (stO (fs7++[f7])) t6.kind:=⟨_,rfl⟩
      rw [<- her7] at HAD;have HER7:=kf her7;clear her7 hnf1 hbd;by_cases he7:er7=0
      ·subst he7;have HAT:=kf (show z32 bs last (z0a bs p last) (stO fs)=.next at6 ((f7.k,f7.ts++[t6])::stO fs7) from by rw [HACT.out,z0d];unfold z2v;rw [if_neg (by decide)];simp only [];rw [<- z0d,<- HER7.out];rfl);obtain⟨hr1,hr2,hr3,hr4⟩:=z1k HAT.out;have HRN:=kf (HT.out.2.2.trans hr1);have HBDN:=kf (HBD6.out rfl);have HPQ:=kf hr2;clear hr1;go_wp2_with (go_at_call 102;refine HAD.out.mono ?_;rintro e w8 ⟨rfl,hor⟩;have HOR:=kf hor;clear hor);go_step3;rename_i hK;refine hK _ _ ?_;clear hK;go_wp2_with fail;go_step3;obtain⟨_,A8,c8,O8,hst8⟩:=HOR.out.resolve_right (fun h=>h.1 rfl);exact⟨2*(bs.length-at6)+2,by omega,.inl ⟨rfl,rfl,rfl,rfl,rfl,rfl,rfl,rfl,(at6:Nat),_,S6_,c6,O8,⟨vk6,vn6,vs6,vA6,vl6,vc6⟩,rfl,by simp,kf ⟨hst8,y3o HBDN.out (by omega),by rw [HRN.out,z0d]⟩⟩⟩
      ·have g1:(er7==0)=false:=by simpa using he7
       have HAT:=kf (show R=(er7,z1i,0) from HT.out.2.2.trans (z0q (by rw [HACT.out,z0d];unfold z2v;rw [if_neg (by decide)];simp only [];rw [<- z0d,<- HER7.out,if_pos he7])));have HE7:=kf he7;clear he7 z0 z1 z2 z3 zf0 zf1 zf2 zf3;go_wp2_with (go_at_call 102;refine HAD.out.mono ?_;rintro e w8 ⟨rfl,hor⟩;have HS8:=kf (hor.resolve_left (fun h=>HE7.out h.1)).2;clear hor;obtain⟨z0,z1,z2,z3,zf0,zf1,zf2,zf3⟩:=HS8.out.h2.cl4);go_step3;rename_i hK;refine hK _ _ ?_;clear hK;go_wp2_with fail;(try simp only [z2a])
       refine bodyPost_ret (v:=.tuple #[.agg #[.int .i64 0,.int .i64 0,.string ⟨#[]⟩,.slice none 0 0],.int .i64 0,.int .i64 er7]) (by simp [results,Tryz.results73,go_sem,z0,z1,z2,z3]) rfl ?_;exact⟨⟨0,0,⟨#[]⟩,none,0,0⟩,by rw [HAT.out];rfl,by rw [HAT.out];exact fun V _=>z2p V,Chg.newc HG6.out (Chg.newc HG6.out (Chg.newc HG6.out (Chg.newc HG6.out HS8.out.chg)))⟩
    ·have g1:(er6==0)=false:=by simpa using he6
     have HAT:=kf (show R=(er6,z1i,0) from HT.out.2.2.trans (z0q (HAE6.out he6)));clear he6;go_wp2_with fail;go_step3;rename_i hK;refine hK _ _ ?_;clear hK;go_wp2_with fail;(try simp only [z2a])
     refine bodyPost_ret (v:=.tuple #[.agg #[.int .i64 0,.int .i64 0,.string ⟨#[]⟩,.slice none 0 0],.int .i64 0,.int .i64 er6]) (by simp [results,Tryz.results73,go_sem,z0,z1,z2,z3]) rfl ?_;exact⟨⟨0,0,⟨#[]⟩,none,0,0⟩,by rw [HAT.out];rfl,by rw [HAT.out];exact fun V _=>z2p V,Chg.newc HG6.out (Chg.newc HG6.out (Chg.newc HG6.out (Chg.newc HG6.out HS6.out.chg)))⟩
   by_cases k5:tk=5
   ·subst k5;clear hk0 hk6 k2 k4 k3;go_upto_region 4 with(go_at_call 72;refine HTK1.out.mono ?_;rintro e w3 ⟨rfl,hc3⟩;have HC3:=kf hc3;clear hc3);have HS4:=kf ((HT.out.1.call HC3.out).call ((Chg.refl NoS w3).alloc (.cells #[.int .i64 5,.int .i64 (tf:Nat),.int .i64 (tt_:Nat),.int .i64 (tvk:Nat),.int .i64 tvn,.string S6,.slice none 0 0,.string S7] 111)));have HB11:=kf (Blk.new w3 111 #[.int .i64 5,.int .i64 (tf:Nat),.int .i64 (tt_:Nat),.int .i64 (tvk:Nat),.int .i64 tvn,.string S6,.slice none 0 0,.string S7]);obtain⟨W4,hW4⟩:∃ W4,W4=w3.alloc (.cells #[.int .i64 5,.int .i64 (tf:Nat),.int .i64 (tt_:Nat),.int .i64 (tvk:Nat),.int .i64 tvn,.string S6,.slice none 0 0,.string S7] 111):=⟨_,rfl⟩
    obtain⟨g11,hg11⟩:∃ g11,g11=w3.heap.size:=⟨_,rfl⟩
    rw [<- hW4] at HS4 HB11 ⊢;rw [<- hg11] at HB11 ⊢;clear hW4 hg11;obtain⟨p0,p1,p2,p3,p4,p5,p6,p7,_,_,_,_,_,_,_,_⟩:=HB11.out.cl8;have HPO:=kf (y2q HS4.out (by have:=(z0r HBD.out).1;have:=HPL.out;omega) (fun x hx=>by have:=(z0r HBD.out).2 x hx;have:=HPL.out;omega) 7 (.inr rfl));unfold y25 at HPO;obtain⟨Q,hQ⟩:∃ Q,Q=z8s (stO fs) 7:=⟨_,rfl⟩
    rw [<- hQ] at HPO;obtain⟨er6,t6⟩:=Q;simp only [] at HPO;have HQ:=kf hQ;clear hQ;go_upto_region 18 with(go_at_call 99;refine HPO.out.mono ?_;rintro e w5 ⟨v6,rfl,fs6,S6_,c6,O6,hst5,himp⟩;have HS5:=kf hst5;have HIM:=kf himp;clear hst5 himp;obtain⟨vk6,vn6,vs6,vA6,vl6,vc6⟩:=v6;unfold VC.val;simp only [];obtain⟨y0,y1,y2,y3,u0,u1,u2,u3⟩:=(show Blk w5 gv 24 #[.int .i64 vk,.int .i64 vn,.string vs,.slice vA vl vc] from HS5.out.h1).cl4);have HS6:=kf (HS5.out.set1 (c1':=VC.arr ⟨vk6,vn6,vs6,vA6,vl6,vc6⟩) (z0l w5 gv (.int .i64 vk6) (.int .i64 vn6) (.string vs6) (.slice vA6 vl6 vc6)) (Blk.set4 HS5.out.h1 _ _ _ _));have HCW:=kf (z0l w5 gv (.int .i64 vk6) (.int .i64 vn6) (.string vs6) (.slice vA6 vl6 vc6));have HGO:=kf HS5.out.a1.o;obtain⟨W6,hW6⟩:∃ W6,W6=((((w5.setCell ⟨gv,0,none⟩ (.int .i64 vk6)).setCell ⟨gv,1,none⟩ (.int .i64 vn6)).setCell ⟨gv,2,none⟩ (.string vs6)).setCell ⟨gv,3,none⟩ (.slice vA6 vl6 vc6)):=⟨_,rfl⟩
    rw [<- hW6] at HS6 HCW ⊢;clear hW6 y0 y1 y2 y3 u0 u1 u2 u3;have HACT0:Hid (z32 bs last (z0a bs p last) (stO fs)=z2v er6 t6 tt_ (stO fs).tail):=by show _=_;rw [HNX.out];unfold z32;simp only [];rw [<- HQ.out];rfl
    have HAE6:Hid (er6≠0->z32 bs last (z0a bs p last) (stO fs)=.done er6 z1i 0):=fun h=>by rw [HACT0.out];unfold z2v;rw [if_pos h]
    obtain⟨at6,hat6⟩:∃ at6,at6=tt_:=⟨_,rfl⟩
    have HAO6:Hid (er6=0->z32 bs last (z0a bs p last) (stO fs)=z2v 0 t6 at6 (stO fs6)/\InsB w O6 W6 t6 ⟨vk6,vn6,vs6,vA6,vl6,vc6⟩):=fun h=>⟨by rw [HACT0.out,(HIM.out h).1,h,hat6],(HIM.out h).2.turn (HCW.out.mono (fun i _ e=>by rw [e];exact HGO.out)) (fun _ _ e=>e)⟩
    have HBD6:Hid (er6=0->BdO (stO fs6) p.toNat):=fun h=>by rw [(HIM.out h).1];exact y8f HBD.out
    rw [<- hat6];clear hat6 HPO HS4 HB11 p0 p1 p2 p3 p4 p5 p6 p7;obtain⟨y0,y1,y2,y3,u0,u1,u2,u3⟩:=(show Blk W6 gv 24 #[.int .i64 vk6,.int .i64 vn6,.string vs6,.slice vA6 vl6 vc6] from HS6.out.h1).cl4;obtain⟨z0,z1,z2,z3,zf0,zf1,zf2,zf3⟩:=HS6.out.h2.cl4;obtain⟨nf,hnf⟩:∃ nf,nf=fs6.length:=⟨_,rfl⟩
    have qs:=HS6.out.cells' hnf;have HNF:=kf hnf;clear hnf;by_cases he6:er6=0
    ·subst he6;obtain⟨hact,hins⟩:=HAO6.out rfl;have HACT:=kf hact;have HINS:=kf hins;clear hact hins HAE6 HAO6;rcases List.eq_nil_or_concat fs6 with hnil|⟨fs7,f7,hcon⟩
     ·subst hnil;obtain rfl:nf=0:=HNF.out;have HR:=kf (show R=(0,t6,at6) from HT.out.2.2.trans (z0q (by rw [HACT.out];unfold z2v;rw [if_neg (by decide)];rfl)));have HG6O:=kf HS6.out.a2.o;go_wp2_with fail;(try simp only [z2a])
      refine bodyPost_ret (v:=.tuple #[.agg #[.int .i64 vk6,.int .i64 vn6,.string vs6,.slice vA6 vl6 vc6],.int .i64 (at6:Nat),.int .i64 0]) (by simp [results,Tryz.results73,go_sem,z0,z1,z2,z3]) rfl ?_;exact⟨⟨vk6,vn6,vs6,vA6,vl6,vc6⟩,by rw [HR.out];rfl,by rw [HR.out];exact fun V hV=>HINS.out V (((z0l W6 g6 _ _ _ _).mono (fun i _ e=>.inl (by rw [e];exact HG6O.out))).trans hV (fun i _ e=>.inr e)),Chg.newc HG6.out (Chg.newc HG6.out (Chg.newc HG6.out (Chg.newc HG6.out HS6.out.chg)))⟩
     ·rw [List.concat_eq_append] at hcon;subst hcon;have hnf1:nf=fs7.length+1:=by rw [HNF.out];simp
      have f1:((nf:Int)==0)=false:=by simp;omega
      have f2:(nf==0)=false:=by simp;omega
      have f3:¬nf=0:=by omega
      have HNF1:=kf hnf1;have hbd:=HBD6.out rfl;have HAD:=kf (z65 HS6.out nf hnf1 (by have:=(z0r hbd).1;rw [List.length_append] at this;have:=HPL.out;omega) (fun x hx=>by have:=(z0r hbd).2 x hx;have:=HPL.out;omega) t6 ⟨vk6,vn6,vs6,vA6,vl6,vc6⟩ HINS.out);unfold VC.val at HAD;simp only [] at HAD;obtain⟨er7,her7⟩:∃ er7,er7=z1v (stO (fs7++[f7])) t6.kind:=⟨_,rfl⟩
      rw [<- her7] at HAD;have HER7:=kf her7;clear her7 hnf1 hbd;by_cases he7:er7=0
      ·subst he7;have HAT:=kf (show z32 bs last (z0a bs p last) (stO fs)=.next at6 ((f7.k,f7.ts++[t6])::stO fs7) from by rw [HACT.out,z0d];unfold z2v;rw [if_neg (by decide)];simp only [];rw [<- z0d,<- HER7.out];rfl);obtain⟨hr1,hr2,hr3,hr4⟩:=z1k HAT.out;have HRN:=kf (HT.out.2.2.trans hr1);have HBDN:=kf (HBD6.out rfl);have HPQ:=kf hr2;clear hr1;go_wp2_with (go_at_call 102;refine HAD.out.mono ?_;rintro e w8 ⟨rfl,hor⟩;have HOR:=kf hor;clear hor);go_step3;rename_i hK;refine hK _ _ ?_;clear hK;go_wp2_with fail;go_step3;obtain⟨_,A8,c8,O8,hst8⟩:=HOR.out.resolve_right (fun h=>h.1 rfl);exact⟨2*(bs.length-at6)+2,by omega,.inl ⟨rfl,rfl,rfl,rfl,rfl,rfl,rfl,rfl,(at6:Nat),_,S6_,c6,O8,⟨vk6,vn6,vs6,vA6,vl6,vc6⟩,rfl,by simp,kf ⟨hst8,y3o HBDN.out (by omega),by rw [HRN.out,z0d]⟩⟩⟩
      ·have g1:(er7==0)=false:=by simpa using he7
       have HAT:=kf (show R=(er7,z1i,0) from HT.out.2.2.trans (z0q (by rw [HACT.out,z0d];unfold z2v;rw [if_neg (by decide)];simp only [];rw [<- z0d,<- HER7.out,if_pos he7])));have HE7:=kf he7;clear he7 z0 z1 z2 z3 zf0 zf1 zf2 zf3;go_wp2_with (go_at_call 102;refine HAD.out.mono ?_;rintro e w8 ⟨rfl,hor⟩;have HS8:=kf (hor.resolve_left (fun h=>HE7.out h.1)).2;clear hor;obtain⟨z0,z1,z2,z3,zf0,zf1,zf2,zf3⟩:=HS8.out.h2.cl4);go_step3;rename_i hK;refine hK _ _ ?_;clear hK;go_wp2_with fail;(try simp only [z2a])
       refine bodyPost_ret (v:=.tuple #[.agg #[.int .i64 0,.int .i64 0,.string ⟨#[]⟩,.slice none 0 0],.int .i64 0,.int .i64 er7]) (by simp [results,Tryz.results73,go_sem,z0,z1,z2,z3]) rfl ?_;exact⟨⟨0,0,⟨#[]⟩,none,0,0⟩,by rw [HAT.out];rfl,by rw [HAT.out];exact fun V _=>z2p V,Chg.newc HG6.out (Chg.newc HG6.out (Chg.newc HG6.out (Chg.newc HG6.out HS8.out.chg)))⟩
    ·have g1:(er6==0)=false:=by simpa using he6
     have HAT:=kf (show R=(er6,z1i,0) from HT.out.2.2.trans (z0q (HAE6.out he6)));clear he6;go_wp2_with fail;go_step3;rename_i hK;refine hK _ _ ?_;clear hK;go_wp2_with fail;(try simp only [z2a])
     refine bodyPost_ret (v:=.tuple #[.agg #[.int .i64 0,.int .i64 0,.string ⟨#[]⟩,.slice none 0 0],.int .i64 0,.int .i64 er6]) (by simp [results,Tryz.results73,go_sem,z0,z1,z2,z3]) rfl ?_;exact⟨⟨0,0,⟨#[]⟩,none,0,0⟩,by rw [HAT.out];rfl,by rw [HAT.out];exact fun V _=>z2p V,Chg.newc HG6.out (Chg.newc HG6.out (Chg.newc HG6.out (Chg.newc HG6.out HS6.out.chg)))⟩
   by_cases k6:tk=6
   ·subst k6;clear hk0 hk6 k2 k4 k3 k5;go_upto_region 4 with(go_at_call 72;refine HTK1.out.mono ?_;rintro e w3 ⟨rfl,hc3⟩;have HC3:=kf hc3;clear hc3);have HS4:=kf ((HT.out.1.call HC3.out).call ((Chg.refl NoS w3).alloc (.cells #[.int .i64 6,.int .i64 (tf:Nat),.int .i64 (tt_:Nat),.int .i64 (tvk:Nat),.int .i64 tvn,.string S6,.slice none 0 0,.string S7] 111)));have HB11:=kf (Blk.new w3 111 #[.int .i64 6,.int .i64 (tf:Nat),.int .i64 (tt_:Nat),.int .i64 (tvk:Nat),.int .i64 tvn,.string S6,.slice none 0 0,.string S7]);obtain⟨W4,hW4⟩:∃ W4,W4=w3.alloc (.cells #[.int .i64 6,.int .i64 (tf:Nat),.int .i64 (tt_:Nat),.int .i64 (tvk:Nat),.int .i64 tvn,.string S6,.slice none 0 0,.string S7] 111):=⟨_,rfl⟩
    obtain⟨g11,hg11⟩:∃ g11,g11=w3.heap.size:=⟨_,rfl⟩
    rw [<- hW4] at HS4 HB11 ⊢;rw [<- hg11] at HB11 ⊢;clear hW4 hg11;obtain⟨p0,p1,p2,p3,p4,p5,p6,p7,_,_,_,_,_,_,_,_⟩:=HB11.out.cl8;have HME:=kf (fun W=>y48 S7 W);have HMW:=kf (y6t ts);rw [<- HS7.out] at HMW;have HMB:=kf (y4e S7);obtain⟨M,hM⟩:∃ M,M=z35 S7:=⟨_,rfl⟩
    rw [<- hM] at HME HMW HMB;obtain⟨er6,vk6,vn6⟩:=M;simp only [] at HME HMW HMB;clear hM;go_upto_region 18 with(go_at_call 100;refine(HME.out _).mono ?_;rintro e w5 ⟨rfl,hc5⟩;have HS5:=kf (HS4.out.call hc5);clear hc5;obtain⟨y0,y1,y2,y3,u0,u1,u2,u3⟩:=(show Blk w5 gv 24 #[.int .i64 vk,.int .i64 vn,.string vs,.slice vA vl vc] from HS5.out.h1).cl4);have HS6:=kf (HS5.out.set1 (c1':=VC.arr ⟨vk6,vn6,⟨#[]⟩,none,0,0⟩) (z0l w5 gv (.int .i64 vk6) (.int .i64 vn6) (.string ⟨#[]⟩) (.slice none 0 0)) (Blk.set4 HS5.out.h1 _ _ _ _));obtain⟨W6,hW6⟩:∃ W6,W6=((((w5.setCell ⟨gv,0,none⟩ (.int .i64 vk6)).setCell ⟨gv,1,none⟩ (.int .i64 vn6)).setCell ⟨gv,2,none⟩ (.string ⟨#[]⟩)).setCell ⟨gv,3,none⟩ (.slice none 0 0)):=⟨_,rfl⟩
    rw [<- hW6] at HS6 ⊢;clear hW6 y0 y1 y2 y3 u0 u1 u2 u3;obtain⟨fs6,hfs6⟩:∃ fs6,fs6=fs:=⟨_,rfl⟩
    obtain⟨S6_,hS6_⟩:∃ S6_,S6_=S:=⟨_,rfl⟩
    obtain⟨c6,hc6⟩:∃ c6,c6=cS:=⟨_,rfl⟩
    obtain⟨O6,hO6⟩:∃ O6,O6=O:=⟨_,rfl⟩
    obtain⟨t6,ht6⟩:∃ t6,t6=VT.mk vk6 vn6 ⟨#[]⟩ []:=⟨_,rfl⟩
    have HACT0:Hid (z32 bs last (z0a bs p last) (stO fs)=z2v er6 t6 tt_ (stO fs)):=by show _=_;rw [HNX.out];unfold z32;simp only [];rw [HMW.out.1,HMW.out.2,<- ht6];rfl
    have HAE6:Hid (er6≠0->z32 bs last (z0a bs p last) (stO fs)=.done er6 z1i 0):=fun h=>by rw [HACT0.out];unfold z2v;rw [if_pos h]
    obtain⟨at6,hat6⟩:∃ at6,at6=tt_:=⟨_,rfl⟩
    have HAO6:Hid (er6=0->z32 bs last (z0a bs p last) (stO fs)=z2v 0 t6 at6 (stO fs6)/\InsB w O6 W6 t6 ⟨vk6,vn6,⟨#[]⟩,none,0,0⟩):=fun h=>⟨by rw [HACT0.out,h,hat6,hfs6],by rw [ht6];exact z1y (fun i=>O6 i\/i<w.heap.size) W6 vk6 vn6 ⟨#[]⟩ HMB.out.1 HMB.out.2 (by decide)⟩
    have HBD6:Hid (er6=0->BdO (stO fs6) p.toNat):=fun h=>by rw [hfs6];exact HBD.out
    rw [<- hfs6,<- hS6_,<- hc6,<- hO6] at HS6;rw [<- hat6];clear hat6 hfs6 hS6_ hc6 hO6 ht6 HME HS4 HS5 HB11 p0 p1 p2 p3 p4 p5 p6 p7;obtain⟨y0,y1,y2,y3,u0,u1,u2,u3⟩:=(show Blk W6 gv 24 #[.int .i64 vk6,.int .i64 vn6,.string ⟨#[]⟩,.slice none 0 0] from HS6.out.h1).cl4;obtain⟨z0,z1,z2,z3,zf0,zf1,zf2,zf3⟩:=HS6.out.h2.cl4;obtain⟨nf,hnf⟩:∃ nf,nf=fs6.length:=⟨_,rfl⟩
    have qs:=HS6.out.cells' hnf;have HNF:=kf hnf;clear hnf;by_cases he6:er6=0
    ·subst he6;obtain⟨hact,hins⟩:=HAO6.out rfl;have HACT:=kf hact;have HINS:=kf hins;clear hact hins HAE6 HAO6;rcases List.eq_nil_or_concat fs6 with hnil|⟨fs7,f7,hcon⟩
     ·subst hnil;obtain rfl:nf=0:=HNF.out;have HR:=kf (show R=(0,t6,at6) from HT.out.2.2.trans (z0q (by rw [HACT.out];unfold z2v;rw [if_neg (by decide)];rfl)));have HG6O:=kf HS6.out.a2.o;go_wp2_with fail;(try simp only [z2a])
      refine bodyPost_ret (v:=.tuple #[.agg #[.int .i64 vk6,.int .i64 vn6,.string ⟨#[]⟩,.slice none 0 0],.int .i64 (at6:Nat),.int .i64 0]) (by simp [results,Tryz.results73,go_sem,z0,z1,z2,z3]) rfl ?_;exact⟨⟨vk6,vn6,⟨#[]⟩,none,0,0⟩,by rw [HR.out];rfl,by rw [HR.out];exact fun V hV=>HINS.out V (((z0l W6 g6 _ _ _ _).mono (fun i _ e=>.inl (by rw [e];exact HG6O.out))).trans hV (fun i _ e=>.inr e)),Chg.newc HG6.out (Chg.newc HG6.out (Chg.newc HG6.out (Chg.newc HG6.out HS6.out.chg)))⟩
     ·rw [List.concat_eq_append] at hcon;subst hcon;have hnf1:nf=fs7.length+1:=by rw [HNF.out];simp
      have f1:((nf:Int)==0)=false:=by simp;omega
      have f2:(nf==0)=false:=by simp;omega
      have f3:¬nf=0:=by omega
      have HNF1:=kf hnf1;have hbd:=HBD6.out rfl;have HAD:=kf (z65 HS6.out nf hnf1 (by have:=(z0r hbd).1;rw [List.length_append] at this;have:=HPL.out;omega) (fun x hx=>by have:=(z0r hbd).2 x hx;have:=HPL.out;omega) t6 ⟨vk6,vn6,⟨#[]⟩,none,0,0⟩ HINS.out);unfold VC.val at HAD;simp only [] at HAD;obtain⟨er7,her7⟩:∃ er7,er7=z1v (stO (fs7++[f7])) t6.kind:=⟨_,rfl⟩
      rw [<- her7] at HAD;have HER7:=kf her7;clear her7 hnf1 hbd;by_cases he7:er7=0
      ·subst he7;have HAT:=kf (show z32 bs last (z0a bs p last) (stO fs)=.next at6 ((f7.k,f7.ts++[t6])::stO fs7) from by rw [HACT.out,z0d];unfold z2v;rw [if_neg (by decide)];simp only [];rw [<- z0d,<- HER7.out];rfl);obtain⟨hr1,hr2,hr3,hr4⟩:=z1k HAT.out;have HRN:=kf (HT.out.2.2.trans hr1);have HBDN:=kf (HBD6.out rfl);have HPQ:=kf hr2;clear hr1;go_wp2_with (go_at_call 102;refine HAD.out.mono ?_;rintro e w8 ⟨rfl,hor⟩;have HOR:=kf hor;clear hor);go_step3;rename_i hK;refine hK _ _ ?_;clear hK;go_wp2_with fail;go_step3;obtain⟨_,A8,c8,O8,hst8⟩:=HOR.out.resolve_right (fun h=>h.1 rfl);exact⟨2*(bs.length-at6)+2,by omega,.inl ⟨rfl,rfl,rfl,rfl,rfl,rfl,rfl,rfl,(at6:Nat),_,S6_,c6,O8,⟨vk6,vn6,⟨#[]⟩,none,0,0⟩,rfl,by simp,kf ⟨hst8,y3o HBDN.out (by omega),by rw [HRN.out,z0d]⟩⟩⟩
      ·have g1:(er7==0)=false:=by simpa using he7
       have HAT:=kf (show R=(er7,z1i,0) from HT.out.2.2.trans (z0q (by rw [HACT.out,z0d];unfold z2v;rw [if_neg (by decide)];simp only [];rw [<- z0d,<- HER7.out,if_pos he7])));have HE7:=kf he7;clear he7 z0 z1 z2 z3 zf0 zf1 zf2 zf3;go_wp2_with (go_at_call 102;refine HAD.out.mono ?_;rintro e w8 ⟨rfl,hor⟩;have HS8:=kf (hor.resolve_left (fun h=>HE7.out h.1)).2;clear hor;obtain⟨z0,z1,z2,z3,zf0,zf1,zf2,zf3⟩:=HS8.out.h2.cl4);go_step3;rename_i hK;refine hK _ _ ?_;clear hK;go_wp2_with fail;(try simp only [z2a])
       refine bodyPost_ret (v:=.tuple #[.agg #[.int .i64 0,.int .i64 0,.string ⟨#[]⟩,.slice none 0 0],.int .i64 0,.int .i64 er7]) (by simp [results,Tryz.results73,go_sem,z0,z1,z2,z3]) rfl ?_;exact⟨⟨0,0,⟨#[]⟩,none,0,0⟩,by rw [HAT.out];rfl,by rw [HAT.out];exact fun V _=>z2p V,Chg.newc HG6.out (Chg.newc HG6.out (Chg.newc HG6.out (Chg.newc HG6.out HS8.out.chg)))⟩
    ·have g1:(er6==0)=false:=by simpa using he6
     have HAT:=kf (show R=(er6,z1i,0) from HT.out.2.2.trans (z0q (HAE6.out he6)));clear he6;go_wp2_with fail;go_step3;rename_i hK;refine hK _ _ ?_;clear hK;go_wp2_with fail;(try simp only [z2a])
     refine bodyPost_ret (v:=.tuple #[.agg #[.int .i64 0,.int .i64 0,.string ⟨#[]⟩,.slice none 0 0],.int .i64 0,.int .i64 er6]) (by simp [results,Tryz.results73,go_sem,z0,z1,z2,z3]) rfl ?_;exact⟨⟨0,0,⟨#[]⟩,none,0,0⟩,by rw [HAT.out];rfl,by rw [HAT.out];exact fun V _=>z2p V,Chg.newc HG6.out (Chg.newc HG6.out (Chg.newc HG6.out (Chg.newc HG6.out HS6.out.chg)))⟩
   obtain rfl:tk=1:=by omega
   clear hk0 hk6 k2 k4 k3 k5 k6;go_upto_region 4 with(go_at_call 72;refine HTK1.out.mono ?_;rintro e w3 ⟨rfl,hc3⟩;have HC3:=kf hc3;clear hc3);have HS4:=kf ((HT.out.1.call HC3.out).call ((Chg.refl NoS w3).alloc (.cells #[.int .i64 1,.int .i64 (tf:Nat),.int .i64 (tt_:Nat),.int .i64 (tvk:Nat),.int .i64 tvn,.string S6,.slice none 0 0,.string S7] 111)));have HB11:=kf (Blk.new w3 111 #[.int .i64 1,.int .i64 (tf:Nat),.int .i64 (tt_:Nat),.int .i64 (tvk:Nat),.int .i64 tvn,.string S6,.slice none 0 0,.string S7]);obtain⟨W4,hW4⟩:∃ W4,W4=w3.alloc (.cells #[.int .i64 1,.int .i64 (tf:Nat),.int .i64 (tt_:Nat),.int .i64 (tvk:Nat),.int .i64 tvn,.string S6,.slice none 0 0,.string S7] 111):=⟨_,rfl⟩
   obtain⟨g11,hg11⟩:∃ g11,g11=w3.heap.size:=⟨_,rfl⟩
   rw [<- hW4] at HS4 HB11 ⊢;rw [<- hg11] at HB11 ⊢;clear hW4 hg11;obtain⟨p0,p1,p2,p3,p4,p5,p6,p7,_,_,_,_,_,_,_,_⟩:=HB11.out.cl8;have HTV:Hid (v5y bs.length ⟨1,tf,tt_,tvk,tvn,tvs,ts⟩):=by have h:=HNV.out p.toNat;rw [HPP.out.2.2.2.2] at h;exact h rfl rfl
   have HIT1:=kf (HIT.out ⟨1,tf,tt_,tvk,tvn,tvs,ts⟩ HPP.out.2.2.2.1 W4 HS4.out.chg);have HRI:=kf (fun(O:Nat->Prop) (W:World)=>v3w (O:=fun i=>O i\/i<w.heap.size) (w:=W) (bs:=bs) (last:=last) HTV.out HPL.out);have HACT1:Hid (z32 bs last (z0a bs p last) (stO fs)=z2v (z3o bs last ⟨1,tf,tt_,tvk,tvn,tvs,ts⟩).1 (z3o bs last ⟨1,tf,tt_,tvk,tvn,tvs,ts⟩).2.1 (z3o bs last ⟨1,tf,tt_,tvk,tvn,tvs,ts⟩).2.2 (stO fs)):=by show _=_;rw [HNX.out];rfl
   obtain⟨Q,hQ⟩:∃ Q,Q=z3o bs last ⟨1,tf,tt_,tvk,tvn,tvs,ts⟩:=⟨_,rfl⟩
   unfold v60 z9l at HIT1;simp only [] at HIT1;rw [<- HS6_.out,<- HS7.out] at HIT1;rw [<- hQ] at HIT1 HRI HACT1;obtain⟨er6,t6,at6⟩:=Q;simp only [] at HIT1 HRI HACT1;clear hQ;obtain⟨vk6,hvk6⟩:∃ z,z=t6.kind:=⟨_,rfl⟩
   obtain⟨vn6,hvn6⟩:∃ z,z=t6.num:=⟨_,rfl⟩
   obtain⟨vs6,hvs6⟩:∃ z,z=t6.str:=⟨_,rfl⟩
   rw [<- hvk6,<- hvn6,<- hvs6] at HIT1 HRI;clear hvk6 hvn6 hvs6;go_upto_region 18 with(go_at_call 101;refine HIT1.out.mono ?_;rintro e w5 ⟨rfl,hc5⟩;have HS5:=kf (HS4.out.call hc5);clear hc5;obtain⟨y0,y1,y2,y3,u0,u1,u2,u3⟩:=(show Blk w5 gv 24 #[.int .i64 vk,.int .i64 vn,.string vs,.slice vA vl vc] from HS5.out.h1).cl4);have HS6:=kf (HS5.out.set1 (c1':=VC.arr ⟨vk6,vn6,vs6,none,0,0⟩) (z0l w5 gv (.int .i64 vk6) (.int .i64 vn6) (.string vs6) (.slice none 0 0)) (Blk.set4 HS5.out.h1 _ _ _ _));obtain⟨W6,hW6⟩:∃ W6,W6=((((w5.setCell ⟨gv,0,none⟩ (.int .i64 vk6)).setCell ⟨gv,1,none⟩ (.int .i64 vn6)).setCell ⟨gv,2,none⟩ (.string vs6)).setCell ⟨gv,3,none⟩ (.slice none 0 0)):=⟨_,rfl⟩
   rw [<- hW6] at HS6 ⊢;clear hW6 y0 y1 y2 y3 u0 u1 u2 u3;obtain⟨fs6,hfs6⟩:∃ fs6,fs6=fs:=⟨_,rfl⟩
   obtain⟨S6_,hS6_⟩:∃ S6_,S6_=S:=⟨_,rfl⟩
   obtain⟨c6,hc6⟩:∃ c6,c6=cS:=⟨_,rfl⟩
   obtain⟨O6,hO6⟩:∃ O6,O6=O:=⟨_,rfl⟩
   have HACT0:Hid (z32 bs last (z0a bs p last) (stO fs)=z2v er6 t6 at6 (stO fs)):=HACT1.out;have HAE6:Hid (er6≠0->z32 bs last (z0a bs p last) (stO fs)=.done er6 z1i 0):=fun h=>by rw [HACT0.out];unfold z2v;rw [if_pos h]
   have HAO6:Hid (er6=0->z32 bs last (z0a bs p last) (stO fs)=z2v 0 t6 at6 (stO fs6)/\InsB w O6 W6 t6 ⟨vk6,vn6,vs6,none,0,0⟩):=fun h=>⟨by rw [HACT0.out,h,hfs6],HRI.out O6 W6⟩
   have HBD6:Hid (er6=0->BdO (stO fs6) p.toNat):=fun h=>by rw [hfs6];exact HBD.out
   rw [<- hfs6,<- hS6_,<- hc6,<- hO6] at HS6;clear hfs6 hS6_ hc6 hO6 HIT1 HS4 HS5 HB11 p0 p1 p2 p3 p4 p5 p6 p7;obtain⟨y0,y1,y2,y3,u0,u1,u2,u3⟩:=(show Blk W6 gv 24 #[.int .i64 vk6,.int .i64 vn6,.string vs6,.slice none 0 0] from HS6.out.h1).cl4;obtain⟨z0,z1,z2,z3,zf0,zf1,zf2,zf3⟩:=HS6.out.h2.cl4;obtain⟨nf,hnf⟩:∃ nf,nf=fs6.length:=⟨_,rfl⟩
   have qs:=HS6.out.cells' hnf;have HNF:=kf hnf;clear hnf;by_cases he6:er6=0
   ·subst he6;obtain⟨hact,hins⟩:=HAO6.out rfl;have HACT:=kf hact;have HINS:=kf hins;clear hact hins HAE6 HAO6;rcases List.eq_nil_or_concat fs6 with hnil|⟨fs7,f7,hcon⟩
    ·subst hnil;obtain rfl:nf=0:=HNF.out;have HR:=kf (show R=(0,t6,at6) from HT.out.2.2.trans (z0q (by rw [HACT.out];unfold z2v;rw [if_neg (by decide)];rfl)));have HG6O:=kf HS6.out.a2.o;go_wp2_with fail;(try simp only [z2a])
     refine bodyPost_ret (v:=.tuple #[.agg #[.int .i64 vk6,.int .i64 vn6,.string vs6,.slice none 0 0],.int .i64 (at6:Nat),.int .i64 0]) (by simp [results,Tryz.results73,go_sem,z0,z1,z2,z3]) rfl ?_;exact⟨⟨vk6,vn6,vs6,none,0,0⟩,by rw [HR.out];rfl,by rw [HR.out];exact fun V hV=>HINS.out V (((z0l W6 g6 _ _ _ _).mono (fun i _ e=>.inl (by rw [e];exact HG6O.out))).trans hV (fun i _ e=>.inr e)),Chg.newc HG6.out (Chg.newc HG6.out (Chg.newc HG6.out (Chg.newc HG6.out HS6.out.chg)))⟩
    ·rw [List.concat_eq_append] at hcon;subst hcon;have hnf1:nf=fs7.length+1:=by rw [HNF.out];simp
     have f1:((nf:Int)==0)=false:=by simp;omega
     have f2:(nf==0)=false:=by simp;omega
     have f3:¬nf=0:=by omega
     have HNF1:=kf hnf1;have hbd:=HBD6.out rfl;have HAD:=kf (z65 HS6.out nf hnf1 (by have:=(z0r hbd).1;rw [List.length_append] at this;have:=HPL.out;omega) (fun x hx=>by have:=(z0r hbd).2 x hx;have:=HPL.out;omega) t6 ⟨vk6,vn6,vs6,none,0,0⟩ HINS.out);unfold VC.val at HAD;simp only [] at HAD;obtain⟨er7,her7⟩:∃ er7,er7=z1v (stO (fs7++[f7])) t6.kind:=⟨_,rfl⟩
     rw [<- her7] at HAD;have HER7:=kf her7;clear her7 hnf1 hbd;by_cases he7:er7=0
     ·subst he7;have HAT:=kf (show z32 bs last (z0a bs p last) (stO fs)=.next at6 ((f7.k,f7.ts++[t6])::stO fs7) from by rw [HACT.out,z0d];unfold z2v;rw [if_neg (by decide)];simp only [];rw [<- z0d,<- HER7.out];rfl);obtain⟨hr1,hr2,hr3,hr4⟩:=z1k HAT.out;have HRN:=kf (HT.out.2.2.trans hr1);have HBDN:=kf (HBD6.out rfl);have HPQ:=kf hr2;clear hr1;go_wp2_with (go_at_call 102;refine HAD.out.mono ?_;rintro e w8 ⟨rfl,hor⟩;have HOR:=kf hor;clear hor);go_step3;rename_i hK;refine hK _ _ ?_;clear hK;go_wp2_with fail;go_step3;obtain⟨_,A8,c8,O8,hst8⟩:=HOR.out.resolve_right (fun h=>h.1 rfl);exact⟨2*(bs.length-at6)+2,by omega,.inl ⟨rfl,rfl,rfl,rfl,rfl,rfl,rfl,rfl,(at6:Nat),_,S6_,c6,O8,⟨vk6,vn6,vs6,none,0,0⟩,rfl,by simp,kf ⟨hst8,y3o HBDN.out (by omega),by rw [HRN.out,z0d]⟩⟩⟩
     ·have g1:(er7==0)=false:=by simpa using he7
      have HAT:=kf (show R=(er7,z1i,0) from HT.out.2.2.trans (z0q (by rw [HACT.out,z0d];unfold z2v;rw [if_neg (by decide)];simp only [];rw [<- z0d,<- HER7.out,if_pos he7])));have HE7:=kf he7;clear he7 z0 z1 z2 z3 zf0 zf1 zf2 zf3;go_wp2_with (go_at_call 102;refine HAD.out.mono ?_;rintro e w8 ⟨rfl,hor⟩;have HS8:=kf (hor.resolve_left (fun h=>HE7.out h.1)).2;clear hor;obtain⟨z0,z1,z2,z3,zf0,zf1,zf2,zf3⟩:=HS8.out.h2.cl4);go_step3;rename_i hK;refine hK _ _ ?_;clear hK;go_wp2_with fail;(try simp only [z2a])
      refine bodyPost_ret (v:=.tuple #[.agg #[.int .i64 0,.int .i64 0,.string ⟨#[]⟩,.slice none 0 0],.int .i64 0,.int .i64 er7]) (by simp [results,Tryz.results73,go_sem,z0,z1,z2,z3]) rfl ?_;exact⟨⟨0,0,⟨#[]⟩,none,0,0⟩,by rw [HAT.out];rfl,by rw [HAT.out];exact fun V _=>z2p V,Chg.newc HG6.out (Chg.newc HG6.out (Chg.newc HG6.out (Chg.newc HG6.out HS8.out.chg)))⟩
   ·have g1:(er6==0)=false:=by simpa using he6
    have HAT:=kf (show R=(er6,z1i,0) from HT.out.2.2.trans (z0q (HAE6.out he6)));clear he6;go_wp2_with fail;go_step3;rename_i hK;refine hK _ _ ?_;clear hK;go_wp2_with fail;(try simp only [z2a])
    refine bodyPost_ret (v:=.tuple #[.agg #[.int .i64 0,.int .i64 0,.string ⟨#[]⟩,.slice none 0 0],.int .i64 0,.int .i64 er6]) (by simp [results,Tryz.results73,go_sem,z0,z1,z2,z3]) rfl ?_;exact⟨⟨0,0,⟨#[]⟩,none,0,0⟩,by rw [HAT.out];rfl,by rw [HAT.out];exact fun V _=>z2p V,Chg.newc HG6.out (Chg.newc HG6.out (Chg.newc HG6.out (Chg.newc HG6.out HS6.out.chg)))⟩
  ·have HTE:=kf (HMA.out.1 he);obtain rfl:tk=0:=HMK.out.2 he;have e1:(er==0)=false:=by simpa using he
   have HAT:=kf (show R=(er,z1i,0) from HT.out.2.2.trans (z0q HTE.out));clear he HMA HMK;go_upto_region 4 with(go_at_call 72;refine HTK1.out.mono ?_;rintro e w3 ⟨rfl,hc3⟩;have HC3:=kf hc3;clear hc3);have HS4:=kf ((HT.out.1.call HC3.out).call ((Chg.refl NoS w3).alloc (.cells #[.int .i64 0,.int .i64 (tf:Nat),.int .i64 (tt_:Nat),.int .i64 (tvk:Nat),.int .i64 tvn,.string S6,.slice none 0 0,.string S7] 111)));have HB11:=kf (Blk.new w3 111 #[.int .i64 0,.int .i64 (tf:Nat),.int .i64 (tt_:Nat),.int .i64 (tvk:Nat),.int .i64 tvn,.string S6,.slice none 0 0,.string S7]);obtain⟨W4,hW4⟩:∃ W4,W4=w3.alloc (.cells #[.int .i64 0,.int .i64 (tf:Nat),.int .i64 (tt_:Nat),.int .i64 (tvk:Nat),.int .i64 tvn,.string S6,.slice none 0 0,.string S7] 111):=⟨_,rfl⟩
   obtain⟨g11,hg11⟩:∃ g11,g11=w3.heap.size:=⟨_,rfl⟩
   rw [<- hW4] at HS4 HB11 ⊢;rw [<- hg11] at HB11 ⊢;clear hW4 hg11;obtain⟨p0,p1,p2,p3,p4,p5,p6,p7,_,_,_,_,_,_,_,_⟩:=HB11.out.cl8;obtain⟨z0,z1,z2,z3,zf0,zf1,zf2,zf3⟩:=HS4.out.h2.cl4;go_wp2_with fail;go_step3;rename_i hK;refine hK _ _ ?_;clear hK;go_wp2_with fail;(try simp only [z2a])
   refine bodyPost_ret (v:=.tuple #[.agg #[.int .i64 0,.int .i64 0,.string ⟨#[]⟩,.slice none 0 0],.int .i64 0,.int .i64 er]) (by simp [results,Tryz.results73,go_sem,z0,z1,z2,z3]) rfl ?_;exact⟨⟨0,0,⟨#[]⟩,none,0,0⟩,by rw [HAT.out];rfl,by rw [HAT.out];exact fun V _=>z2p V,Chg.newc HG6.out (Chg.newc HG6.out (Chg.newc HG6.out (Chg.newc HG6.out HS4.out.chg)))⟩
structure RSrc (w0:World) (bs:List Nat) (A:Option Addr) (c:Nat):Prop where
 src:Src w0 1 A bs.length c (z09 bs)
 len:bs.length<=400000
 cap:bs.length<=c
 byt:∀ x∈bs,x<256
abbrev z9g (R:Nat):Nat->Prop:=fun i=>i=R
theorem z0m (W:World) (R i:Nat) (u:Value):Chg (z9g R) W (W.setCell ⟨R,i,none⟩ u):=(Chg.refl (z9g R) W).setCell (p:=⟨R,i,none⟩) (fun _=>rfl) u
theorem z0c {R:Nat} {W W':World} (h:Chg NoS W W'):Chg (z9g R) W W':=h.mono (fun _ _ e=>e.elim)
theorem z01 {R:Nat} {a b c:World} (h:Chg (z9g R) a b) (k:Chg (z9g R) b c):Chg (z9g R) a c:=h.trans k (fun _ _ e=>e)
end Go.Proofs.YtmibnkddappgiaaGreatDoor
