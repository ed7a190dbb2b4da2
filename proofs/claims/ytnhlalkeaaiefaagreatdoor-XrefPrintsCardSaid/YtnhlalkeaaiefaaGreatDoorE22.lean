import Derived.Test.YtnhlalkeaaiefaaGreatDoorE19
import Derived.Test.YtnhlalkeaaiefaaGreatDoorE20
import Derived.Test.YtnhlalkeaaiefaaGreatDoorE21
set_option linter.unusedVariables false
set_option maxHeartbeats 64000000
set_option maxRecDepth 100000
set_option linter.unusedSimpArgs false
namespace Go.Proofs.YtnhlalkeaaiefaaGreatDoor
open Go.RowKit
def VC.arr (v:VC):Array Value:=#[.int .i64 v.k,.int .i64 v.n,.string v.s,.slice v.A v.len v.cap]
theorem Blk.set4 {w:World} {g:Nat} {T:TypeId} {x0 x1 x2 x3:Value} (h:Blk w g T #[x0,x1,x2,x3]) (a b c d:Value):Blk ((((w.setCell ⟨g,0,none⟩ a).setCell ⟨g,1,none⟩ b).setCell ⟨g,2,none⟩ c).setCell ⟨g,3,none⟩ d) g T #[a,b,c,d]:=by
 have h0:Blk _ g T #[a,x1,x2,x3]:=h.set_ 0 a;have h1:Blk _ g T #[a,b,x2,x3]:=h0.set_ 1 b;have h2:Blk _ g T #[a,b,c,x3]:=h1.set_ 2 c;exact h2.set_ 3 d
def BdO (st:List (Int × List VT)) (p:Nat):Prop:=st.length<=p/\∀ x∈st,x.2.length<=p
theorem z0o {fs:List FrM} {p:Nat} (h:BdO (stO fs) p):fs.length<=p/\∀ f∈fs,f.ts.length<=p:=by
 refine⟨by rw [<- y63];exact h.1,fun f hf=>h.2 (f.k,f.ts) ?_⟩;unfold stO;exact List.mem_reverse.2 (List.mem_map.2 ⟨f,hf,rfl⟩)
theorem y9h {st:List (Int × List VT)} {p:Nat} (h:BdO st p):BdO st.tail p:=⟨by rw [List.length_tail];have:=h.1;omega,fun x hx=>h.2 x (List.mem_of_mem_tail hx)⟩
theorem y3o {fs:List FrM} {f:FrM} {t:VT} {p q:Nat} {es:List VC} {A:Option Addr} {c:Nat} (h:BdO (stO (fs++[f])) p) (hq:p<q):BdO (stO (fs++[⟨f.k,es,f.ts++[t],A,c⟩])) q:=by
 rw [z0a] at h ⊢;have h1:=h.1;refine⟨by simp only [List.length_cons] at h1 ⊢;omega,fun x hx=>?_⟩;rcases List.mem_cons.1 hx with rfl|hx
 ·have:=h.2 _ (List.mem_cons_self ..);simp only [List.length_append,List.length_singleton] at this ⊢;omega
 ·have:=h.2 x (List.mem_cons_of_mem _ hx);omega
theorem y9i {fs:List FrM} {k:Int} {p q:Nat} (h:BdO (stO fs) p) (hq:p<q):BdO (stO (fs++[⟨k,[],[],none,0⟩])) q:=by
 rw [z0a];have h1:=h.1;refine⟨by simp only [List.length_cons];omega,fun x hx=>?_⟩;rcases List.mem_cons.1 hx with rfl|hx
 ·exact Nat.zero_le _
 ·have:=h.2 x hx;omega
theorem v1b {bs:List Nat} {last:Bool} {r:Int × Tkn} {st:List (Int × List VT)}:((z1b r).1≠0->z3c bs last r st=.done (z1b r).1 z28 0)/\((z1b r).1=0->r=z1b r/\(z1b r).2.kind≠0):=by
 unfold z1b;by_cases h:r.1=0/\r.2.kind=0
 ·rw [if_pos h];refine⟨fun _=>?_,fun h=>absurd h (by decide)⟩;unfold z3c;rw [if_neg (by rw [h.1];decide),if_pos h.2]
 ·rw [if_neg h];exact⟨z98,fun h0=>⟨rfl,fun hk=>h ⟨h0,hk⟩⟩⟩
theorem y7g {bs:List Nat} {p:Int} {last:Bool}:(z1b (z07 bs p last)).2.kind<=6/\((z1b (z07 bs p last)).1≠0->(z1b (z07 bs p last)).2.kind=0):=by
 unfold z1b z07;by_cases hp:p<0\/(bs.length:Int)<p
 ·rw [if_pos hp];split<;>exact⟨Nat.zero_le _,fun _=>rfl⟩
 ·rw [if_neg hp];split
  ·exact⟨Nat.zero_le _,fun _=>rfl⟩
  ·refine⟨y7c _ _ _,fun h=>?_⟩;rcases z22 bs p.toNat last (by omega) with h1|h1
   ·exact h1.1
   ·exact absurd h1.1 h
theorem y4r (S:ByteArray):(-9223372036854775808<=(z2w S).2.1/\(z2w S).2.1<=9223372036854775807)/\(-9223372036854775808<=(z2w S).2.2/\(z2w S).2.2<=9223372036854775807):=by
 unfold z2w;repeat' split
 all_goals decide
theorem y2a {O:Nat->Prop} {w:World} {N:Nat} {t:Tkn} (h:v8f N t) (hN:N<=400000):Ins O w (v2t t) ⟨(v2t t).kind,(v2t t).num,(v2t t).str,none,0,0⟩:=by
 obtain⟨h0,h⟩:=h;refine z25 O w _ _ _ ?_ ?_ ?_
 ·rcases h with⟨h1,_⟩|⟨h1,_⟩|⟨h1,_⟩|⟨h1,_⟩<;>rw [h1]<;>decide
 ·rcases h with⟨_,h1⟩|⟨_,h1,_⟩|⟨_,_,h1⟩|⟨_,_,h1⟩<;>omega
 ·rw [z01];unfold maxLen;omega
theorem v4a {O:Nat->Prop} {w:World} {bs:List Nat} {last:Bool} {N:Nat} {t:Tkn} (h:v8f N t) (hN:N<=400000):Ins O w (z4w bs last t).2.1 ⟨(z4w bs last t).2.1.kind,(z4w bs last t).2.1.num,(z4w bs last t).2.1.str,none,0,0⟩:=by
 unfold z4w;split
 ·exact y2a h hN
 ·split
  ·exact z25 O w 0 0 ⟨#[]⟩ (by decide) (by decide) (by decide)
  ·split
   ·exact y2a h hN
   ·split
    ·exact z25 O w 0 0 ⟨#[]⟩ (by decide) (by decide) (by decide)
    ·next hn=>exact z25 O w 8 t.vn ⟨#[]⟩ (by decide) (by omega) (by decide)
def v8d (w:World) (R:Int × VT × Nat) (e:Ending) (w':World):Prop:=∃ v:VC,e=.returned (.tuple #[v.val,.int .i64 (R.2.2:Nat),.int .i64 R.1])/\Ins (fun i=>i<w.heap.size) w' R.2.1 v/\Chg NoS w w'
def q0h (w:World) (bs:List Nat) (A:Option Addr) (c:Nat) (last:Bool) (gs gv g6:Nat) (R:Int × VT × Nat) (n:Nat) (x:Act) (w':World):Prop :=
 x.defers=[]/\x.tmps.size=78/\x.tmps.getD 0 undef=.slice A bs.length c/\x.tmps.getD 2 undef=.bool last/\x.tmps.getD 6 undef=.pointer (some ⟨g6,0,none⟩)/\x.tmps.getD 9 undef=.pointer (some ⟨gs,0,none⟩)/\x.tmps.getD 10 undef=.pointer (some ⟨gv,0,none⟩) /\
 ∃ (p:Int) (fs:List FrM) (S:Option Addr) (cS:Nat) (O:Nat->Prop) (v:VC),x.tmps.getD 1 undef=.int .i64 p/\n=2*(bs.length-p.toNat)+2/\Hid (Stk w w' gs gv g6 v.arr #[.int .i64 0,.int .i64 0,.string ⟨#[]⟩,.slice none 0 0] fs S cS O/\BdO (stO fs) p.toNat/\R=z8f bs last p (stO fs))
def q0g (w:World) (bs:List Nat) (A:Option Addr) (c:Nat) (last:Bool) (gs gv g6:Nat) (R:Int × VT × Nat) (n:Nat) (x:Act) (w':World):Prop :=
 x.defers=[]/\x.tmps.size=78/\x.tmps.getD 0 undef=.slice A bs.length c/\x.tmps.getD 2 undef=.bool last/\x.tmps.getD 6 undef=.pointer (some ⟨g6,0,none⟩)/\x.tmps.getD 9 undef=.pointer (some ⟨gs,0,none⟩)/\x.tmps.getD 10 undef=.pointer (some ⟨gv,0,none⟩) /\
 ∃ (q:Nat) (er:Int) (fs:List FrM) (S:Option Addr) (cS:Nat) (O:Nat->Prop) (v:VC),x.tmps.getD 1 undef=.int .i64 (q:Nat)/\x.tmps.getD 12 undef=.int .i64 er/\Hid (Stk w w' gs gv g6 v.arr #[.int .i64 0,.int .i64 0,.string ⟨#[]⟩,.slice none 0 0] fs S cS O) /\
  ((er=0/\n=2*(bs.length-q)+3/\Hid (BdO (stO fs) q/\R=z8f bs last (q:Nat) (stO fs)))\/(er≠0/\Hid (R=(er,z28,0))))
theorem y2f {x:Act} {v0 v1 v2 v6 v9 v10:Value} {C:Act->Prop} (h1:x.defers=[]) (h2:x.tmps.size=78) (h3:x.tmps.getD 0 undef=v0) (h8:x.tmps.getD 1 undef=v1) (h4:x.tmps.getD 2 undef=v2) (h5:x.tmps.getD 6 undef=v6) (h6:x.tmps.getD 9 undef=v9) (h7:x.tmps.getD 10 undef=v10)
  (k:∀ f:Nat->Value,f 12=x.tmps.getD 12 undef->C { tmps:=#[v0,v1,v2,f 3,f 4,f 5,v6,f 7,f 8,v9,v10,f 11,f 12,f 13,f 14,f 15,f 16,f 17,f 18,f 19,f 20,f 21,f 22,f 23,f 24,f 25,f 26,f 27,f 28,f 29,f 30,f 31,f 32,f 33,f 34,f 35,f 36,f 37,f 38,f 39,f 40,f 41,f 42,f 43,f 44,f 45,f 46,f 47,f 48,f 49,f 50,f 51,f 52,f 53,f 54,f 55,f 56,f 57,f 58,f 59,f 60,f 61,f 62,f 63,f 64,f 65,f 66,f 67,f 68,f 69,f 70,f 71,f 72,f 73,f 74,f 75,f 76,f 77],defers:=[] }):C x:=by
 obtain⟨t,d⟩:=x;simp only at h1 h2 h3 h4 h5 h6 h7 h8;subst h1;have h9:=k (fun i=>t.getD i undef) rfl;rw [<- h3,<- h4,<- h5,<- h6,<- h7,<- h8] at h9;rw [z2m t 78 h2];exact h9
theorem y60 (w:World):Stk w (((w.alloc (.cells #[.int .i64 0,.int .i64 0,.string ⟨#[]⟩,.slice none 0 0] 25)).alloc (.cells #[.slice none 0 0] 167)).alloc (.cells #[.int .i64 0,.int .i64 0,.string ⟨#[]⟩,.slice none 0 0] 25)) (w.heap.size+1) (w.heap.size+1+1) w.heap.size #[.int .i64 0,.int .i64 0,.string ⟨#[]⟩,.slice none 0 0] #[.int .i64 0,.int .i64 0,.string ⟨#[]⟩,.slice none 0 0] [] none 0 (fun i=>i=w.heap.size+1\/i=w.heap.size+1+1\/i=w.heap.size):=by
 have hs:=(Blk.new (w.alloc (.cells #[.int .i64 0,.int .i64 0,.string ⟨#[]⟩,.slice none 0 0] 25)) 167 #[.slice none 0 0]).alloc (.cells #[.int .i64 0,.int .i64 0,.string ⟨#[]⟩,.slice none 0 0] 25);have hv:=Blk.new ((w.alloc (.cells #[.int .i64 0,.int .i64 0,.string ⟨#[]⟩,.slice none 0 0] 25)).alloc (.cells #[.slice none 0 0] 167)) 25 #[.int .i64 0,.int .i64 0,.string ⟨#[]⟩,.slice none 0 0];have h6:=((Blk.new w 25 #[.int .i64 0,.int .i64 0,.string ⟨#[]⟩,.slice none 0 0]).alloc (.cells #[.slice none 0 0] 167)).alloc (.cells #[.int .i64 0,.int .i64 0,.string ⟨#[]⟩,.slice none 0 0] 25);simp only [World.size_alloc] at hs hv;have hap:∀ b,(b=w.heap.size+1\/b=w.heap.size+1+1\/b=w.heap.size)->Apart (fun i=>i=w.heap.size+1\/i=w.heap.size+1+1\/i=w.heap.size) [] none b:=fun b hb=>⟨hb,fun e=>(by cases e),fun f hf=>(by cases hf)⟩
 exact⟨hs,z2p _ 0 _ 4,fun f hf=>(by cases hf),.inl rfl,fun g hg=>(by cases hg),fun f hf=>(by cases hf),List.Pairwise.nil,fun i hi=>by omega,fun i hi=>by simp only [World.size_alloc];omega,(((Chg.refl NoS w).alloc _).alloc _).alloc _,hv,h6,hap _ (.inr (.inl rfl)),hap _ (.inr (.inr rfl)),by omega⟩
theorem v0t (bs:List Nat) (A:Option Addr) (c:Nat) (at_:Int) (last:Bool) (w:World) (hS:Src w 1 A bs.length c (z08 bs)) (hl:bs.length<=400000) (hc:bs.length<=c) (hb:∀ x∈bs,x<256) :
  Calls Tryz.prog 79 #[.slice A bs.length c,.int .i64 at_,.bool last] w (v8d w (z8f bs last at_ [])):=by
 have HTK:=kf (fun(p:Int) W (hW:Chg NoS w W)=>y2s bs A c p last W (Src.below (w0:=w) hS hW) hl hc hb);have HIT:=kf (fun(t:Tkn) (ht:t.to<=bs.length) W (hW:Chg NoS w W)=>v0u bs A c last W (Src.below (w0:=w) hS hW) hl hc hb t ht);have HNV:=kf (fun(p:Nat)=>y36 bs p last hb);have HPL:=kf hl;obtain⟨R,hR⟩:∃ R,R=z8f bs last at_ []:=⟨_,rfl⟩
 have HR0:=kf hR;rw [<- hR];clear hS hb hc hl hR;go_enter Tryz.func79,Tryz.ntmps79;have HSTART:=kf (y60 w);obtain⟨gv,hgv⟩:∃ gv,gv=w.heap.size+1+1:=⟨_,rfl⟩
 obtain⟨gs,hgs⟩:∃ gs,gs=w.heap.size+1:=⟨_,rfl⟩
 obtain⟨g6,hg6⟩:∃ g6,g6=w.heap.size:=⟨_,rfl⟩
 rw [<- hgv,<- hgs,<- hg6] at HSTART;have HG6:Hid (w.heap.size<=g6):=by show _<=_;omega
 have HGV:=kf hgv;have HGS:=kf hgs;have HG:=kf hg6;clear hgv hgs hg6;go_wp2;refine z6a (q0h w bs A c last gs gv g6 R) (q0g w bs A c last gs gv g6 R) rfl rfl ?pass0 ?pass1 ?first
 case first =>
  intro hpass _;have HPass:=kf hpass;clear hpass;go_wp2;go_step3;rename_i hK;refine hK _ _ (HPass.out _ _ _ ⟨rfl,rfl,rfl,rfl,by rw [HG.out];rfl,by rw [HGS.out];rfl,by rw [HGV.out];rfl,at_,[],none,0,_,⟨0,0,⟨#[]⟩,none,0,0⟩,rfl,rfl,kf ⟨HSTART.out,⟨Nat.zero_le _,fun x hx=>(by cases hx)⟩,HR0.out⟩⟩)
 case pass1 =>
  intro n x w1 hx;obtain⟨h1,h2,h3,h4,h5,h6,h7,q,er,fs,S,cS,O,v,h8,h9,HST,HOR⟩:=hx;refine y2f h1 h2 h3 h8 h4 h5 h6 h7 (C:=fun y=>Code.wp _ _ _ y w1) ?_;intro f hf;rw [h9] at hf;simp only [hf];clear h1 h2 h3 h4 h5 h6 h7 h8 h9 hf;rcases HOR with⟨rfl,hn,HRR⟩|⟨he,HRR⟩
  ·go_wp2_with fail;go_step3;exact⟨2*(bs.length-q)+2,by omega,.inl ⟨rfl,rfl,rfl,rfl,rfl,rfl,rfl,rfl,(q:Nat),fs,S,cS,O,v,rfl,by simp,kf ⟨HST.out,by simpa using HRR.out.1,HRR.out.2⟩⟩⟩
  ·have e1:(er==0)=false:=by simpa using he
   obtain⟨z0,z1,z2,z3,zf0,zf1,zf2,zf3⟩:=HST.out.h2.cl4;clear he;go_wp2_with fail;(try simp only [z1t])
   refine bodyPost_ret (v:=.tuple #[.agg #[.int .i64 0,.int .i64 0,.string ⟨#[]⟩,.slice none 0 0],.int .i64 0,.int .i64 er]) (by simp [results,Tryz.results79,go_sem,z0,z1,z2,z3]) rfl ?_;exact⟨⟨0,0,⟨#[]⟩,none,0,0⟩,by rw [HRR.out];rfl,by rw [HRR.out];exact fun V _=>z3r V,Chg.newc HG6.out (Chg.newc HG6.out (Chg.newc HG6.out (Chg.newc HG6.out HST.out.chg)))⟩
 case pass0 =>
  intro n x w1 hx;obtain⟨h1,h2,h3,h4,h5,h6,h7,p,fs,S,cS,O,v,h8,hn,HT⟩:=hx;refine y2f h1 h2 h3 h8 h4 h5 h6 h7 (C:=fun y=>Code.wp _ _ _ y w1) ?_;intro f hf;clear h1 h2 h3 h4 h5 h6 h7 h8 hf;obtain⟨vk,vn,vs,vA,vl,vc⟩:=v;have HBD:=kf HT.out.2.1;have HTK1:=kf (HTK.out p w1 HT.out.1.chg);have HMA:=kf (v1b (bs:=bs) (last:=last) (r:=z07 bs p last) (st:=stO fs));have HMK:=kf (y7g (bs:=bs) (p:=p) (last:=last));obtain⟨r,hr⟩:∃ r,r=z1b (z07 bs p last):=⟨_,rfl⟩
  rw [<- hr] at HTK1 HMA HMK;clear hr;obtain⟨er,⟨tk,tf,tt_,tvk,tvn,tvs,ts⟩⟩:=r;unfold y9q z78 at HTK1;simp only [] at HTK1 HMA HMK;obtain⟨S6,hS6⟩:∃ S6,S6=sb tvs:=⟨_,rfl⟩
  obtain⟨S7,hS7⟩:∃ S7,S7=sb ts:=⟨_,rfl⟩
  rw [<- hS6,<- hS7] at HTK1;have HS6_:=kf hS6;have HS7:=kf hS7;clear hS6 hS7;by_cases he:er=0
  ·subst he;have HNX:Hid (z07 bs p last=(0,⟨tk,tf,tt_,tvk,tvn,tvs,ts⟩)):=(HMA.out.2 rfl).1;have hk0:tk≠0:=(HMA.out.2 rfl).2;have hk6:=HMK.out.1
   have HPP:Hid (0<=p/\p<=bs.length/\p<tt_/\tt_<=bs.length/\z0f bs p.toNat last=(0,⟨tk,tf,tt_,tvk,tvn,tvs,ts⟩)):=by
    have h1:=HNX.out;unfold z07 at h1;by_cases hp:p<0\/(bs.length:Int)<p
    ·rw [if_pos hp] at h1;cases h1
    ·rw [if_neg hp] at h1;have h2:=z22 bs p.toNat last (by omega);rw [h1] at h2;rcases h2 with h2|h2
     ·exact absurd h2.1 hk0
     ·obtain⟨_,_,h3,h4⟩:=h2;simp only [] at h3 h4;exact⟨by omega,by omega,by omega,h4,h1⟩
   have hpq:=HPP.out.2.2.1;have hpl:=HPP.out.2.1;have hpz:=HPP.out.1;have hpt:p.toNat<=400000:=by have:=HPL.out;omega
   have htl:=HPP.out.2.2.2.1;clear HMA HMK;by_cases k2:tk=2
   ·subst k2;clear hk0 hk6;go_upto_region 4 with(go_at_call 108;refine HTK1.out.mono ?_;rintro e w3 ⟨rfl,hc3⟩;have HC3:=kf hc3;clear hc3);have HS4:=kf ((HT.out.1.call HC3.out).call ((Chg.refl NoS w3).alloc (.cells #[.int .i64 2,.int .i64 (tf:Nat),.int .i64 (tt_:Nat),.int .i64 (tvk:Nat),.int .i64 tvn,.string S6,.slice none 0 0,.string S7] 131)));have HB11:=kf (Blk.new w3 131 #[.int .i64 2,.int .i64 (tf:Nat),.int .i64 (tt_:Nat),.int .i64 (tvk:Nat),.int .i64 tvn,.string S6,.slice none 0 0,.string S7]);obtain⟨W4,hW4⟩:∃ W4,W4=w3.alloc (.cells #[.int .i64 2,.int .i64 (tf:Nat),.int .i64 (tt_:Nat),.int .i64 (tvk:Nat),.int .i64 tvn,.string S6,.slice none 0 0,.string S7] 131):=⟨_,rfl⟩
    obtain⟨g11,hg11⟩:∃ g11,g11=w3.heap.size:=⟨_,rfl⟩
    rw [<- hW4] at HS4 HB11 ⊢;rw [<- hg11] at HB11 ⊢;clear hW4 hg11;obtain⟨p0,p1,p2,p3,p4,p5,p6,p7,_,_,_,_,_,_,_,_⟩:=HB11.out.cl8;have HPU:=kf (z9z HS4.out (by have:=(z0o HBD.out).1;omega) (fun x hx=>by have:=(z0o HBD.out).2 x hx;omega) 6 (.inl rfl));have HACT0:Hid (z3c bs last (z07 bs p last) (stO fs)=y9n 6 tt_ (stO fs)):=by show _=_;rw [HNX.out];rfl
    obtain⟨er5,her5⟩:∃ er5,er5=z26 (stO fs) 6:=⟨_,rfl⟩
    rw [<- her5] at HPU;have HER5:=kf her5;clear her5;go_wp2_with (go_at_call 112;refine HPU.out.mono ?_;rintro e w5 ⟨rfl,hor⟩;have HOR:=kf hor;clear hor);go_step3;rcases HOR.out with⟨h0,S8,c8,O8,hst8⟩|⟨h0,hst8⟩
    ·have HAT:=kf (show z3c bs last (z07 bs p last) (stO fs)=.next tt_ ((6,[])::stO fs) from by rw [HACT0.out];unfold y9n;rw [<- HER5.out,h0];rfl);obtain⟨hr1,hr2,hr3,hr4⟩:=z1s HAT.out;exact⟨2*(bs.length-tt_)+3,by omega,.inr ⟨rfl,rfl,rfl,rfl,rfl,rfl,rfl,rfl,tt_,er5,_,S8,c8,O8,⟨vk,vn,vs,vA,vl,vc⟩,rfl,rfl,kf hst8,.inl ⟨h0,rfl,kf ⟨y9i HBD.out (by omega),by rw [HT.out.2.2,hr1,z0a]⟩⟩⟩⟩
    ·exact⟨0,by omega,.inr ⟨rfl,rfl,rfl,rfl,rfl,rfl,rfl,rfl,tt_,er5,fs,S,cS,O,⟨vk,vn,vs,vA,vl,vc⟩,rfl,rfl,kf hst8,.inr ⟨h0,kf (HT.out.2.2.trans (z0m (by rw [HACT0.out];unfold y9n;rw [<- HER5.out,if_pos h0])))⟩⟩⟩
   by_cases k4:tk=4
   ·subst k4;clear hk0 hk6 k2;go_upto_region 4 with(go_at_call 108;refine HTK1.out.mono ?_;rintro e w3 ⟨rfl,hc3⟩;have HC3:=kf hc3;clear hc3);have HS4:=kf ((HT.out.1.call HC3.out).call ((Chg.refl NoS w3).alloc (.cells #[.int .i64 4,.int .i64 (tf:Nat),.int .i64 (tt_:Nat),.int .i64 (tvk:Nat),.int .i64 tvn,.string S6,.slice none 0 0,.string S7] 131)));have HB11:=kf (Blk.new w3 131 #[.int .i64 4,.int .i64 (tf:Nat),.int .i64 (tt_:Nat),.int .i64 (tvk:Nat),.int .i64 tvn,.string S6,.slice none 0 0,.string S7]);obtain⟨W4,hW4⟩:∃ W4,W4=w3.alloc (.cells #[.int .i64 4,.int .i64 (tf:Nat),.int .i64 (tt_:Nat),.int .i64 (tvk:Nat),.int .i64 tvn,.string S6,.slice none 0 0,.string S7] 131):=⟨_,rfl⟩
    obtain⟨g11,hg11⟩:∃ g11,g11=w3.heap.size:=⟨_,rfl⟩
    rw [<- hW4] at HS4 HB11 ⊢;rw [<- hg11] at HB11 ⊢;clear hW4 hg11;obtain⟨p0,p1,p2,p3,p4,p5,p6,p7,_,_,_,_,_,_,_,_⟩:=HB11.out.cl8;have HPU:=kf (z9z HS4.out (by have:=(z0o HBD.out).1;omega) (fun x hx=>by have:=(z0o HBD.out).2 x hx;omega) 7 (.inr rfl));have HACT0:Hid (z3c bs last (z07 bs p last) (stO fs)=y9n 7 tt_ (stO fs)):=by show _=_;rw [HNX.out];rfl
    obtain⟨er5,her5⟩:∃ er5,er5=z26 (stO fs) 7:=⟨_,rfl⟩
    rw [<- her5] at HPU;have HER5:=kf her5;clear her5;go_wp2_with (go_at_call 112;refine HPU.out.mono ?_;rintro e w5 ⟨rfl,hor⟩;have HOR:=kf hor;clear hor);go_step3;rcases HOR.out with⟨h0,S8,c8,O8,hst8⟩|⟨h0,hst8⟩
    ·have HAT:=kf (show z3c bs last (z07 bs p last) (stO fs)=.next tt_ ((7,[])::stO fs) from by rw [HACT0.out];unfold y9n;rw [<- HER5.out,h0];rfl);obtain⟨hr1,hr2,hr3,hr4⟩:=z1s HAT.out;exact⟨2*(bs.length-tt_)+3,by omega,.inr ⟨rfl,rfl,rfl,rfl,rfl,rfl,rfl,rfl,tt_,er5,_,S8,c8,O8,⟨vk,vn,vs,vA,vl,vc⟩,rfl,rfl,kf hst8,.inl ⟨h0,rfl,kf ⟨y9i HBD.out (by omega),by rw [HT.out.2.2,hr1,z0a]⟩⟩⟩⟩
    ·exact⟨0,by omega,.inr ⟨rfl,rfl,rfl,rfl,rfl,rfl,rfl,rfl,tt_,er5,fs,S,cS,O,⟨vk,vn,vs,vA,vl,vc⟩,rfl,rfl,kf hst8,.inr ⟨h0,kf (HT.out.2.2.trans (z0m (by rw [HACT0.out];unfold y9n;rw [<- HER5.out,if_pos h0])))⟩⟩⟩
   by_cases k3:tk=3
   ·subst k3;clear hk0 hk6 k2 k4;go_upto_region 4 with(go_at_call 108;refine HTK1.out.mono ?_;rintro e w3 ⟨rfl,hc3⟩;have HC3:=kf hc3;clear hc3);have HS4:=kf ((HT.out.1.call HC3.out).call ((Chg.refl NoS w3).alloc (.cells #[.int .i64 3,.int .i64 (tf:Nat),.int .i64 (tt_:Nat),.int .i64 (tvk:Nat),.int .i64 tvn,.string S6,.slice none 0 0,.string S7] 131)));have HB11:=kf (Blk.new w3 131 #[.int .i64 3,.int .i64 (tf:Nat),.int .i64 (tt_:Nat),.int .i64 (tvk:Nat),.int .i64 tvn,.string S6,.slice none 0 0,.string S7]);obtain⟨W4,hW4⟩:∃ W4,W4=w3.alloc (.cells #[.int .i64 3,.int .i64 (tf:Nat),.int .i64 (tt_:Nat),.int .i64 (tvk:Nat),.int .i64 tvn,.string S6,.slice none 0 0,.string S7] 131):=⟨_,rfl⟩
    obtain⟨g11,hg11⟩:∃ g11,g11=w3.heap.size:=⟨_,rfl⟩
    rw [<- hW4] at HS4 HB11 ⊢;rw [<- hg11] at HB11 ⊢;clear hW4 hg11;obtain⟨p0,p1,p2,p3,p4,p5,p6,p7,_,_,_,_,_,_,_,_⟩:=HB11.out.cl8;have HPO:=kf (y2t HS4.out (by have:=(z0o HBD.out).1;have:=HPL.out;omega) (fun x hx=>by have:=(z0o HBD.out).2 x hx;have:=HPL.out;omega) 6 (.inl rfl));unfold y20 at HPO;obtain⟨Q,hQ⟩:∃ Q,Q=y2x (stO fs) 6:=⟨_,rfl⟩
    rw [<- hQ] at HPO;obtain⟨er6,t6⟩:=Q;simp only [] at HPO;have HQ:=kf hQ;clear hQ;go_upto_region 18 with(go_at_call 113;refine HPO.out.mono ?_;rintro e w5 ⟨v6,rfl,fs6,S6_,c6,O6,hst5,himp⟩;have HS5:=kf hst5;have HIM:=kf himp;clear hst5 himp;obtain⟨vk6,vn6,vs6,vA6,vl6,vc6⟩:=v6;unfold VC.val;simp only [];obtain⟨y0,y1,y2,y3,u0,u1,u2,u3⟩:=(show Blk w5 gv 25 #[.int .i64 vk,.int .i64 vn,.string vs,.slice vA vl vc] from HS5.out.h1).cl4);have HS6:=kf (HS5.out.set1 (c1':=VC.arr ⟨vk6,vn6,vs6,vA6,vl6,vc6⟩) (z0l w5 gv (.int .i64 vk6) (.int .i64 vn6) (.string vs6) (.slice vA6 vl6 vc6)) (Blk.set4 HS5.out.h1 _ _ _ _));have HCW:=kf (z0l w5 gv (.int .i64 vk6) (.int .i64 vn6) (.string vs6) (.slice vA6 vl6 vc6));have HGO:=kf HS5.out.a1.o;obtain⟨W6,hW6⟩:∃ W6,W6=((((w5.setCell ⟨gv,0,none⟩ (.int .i64 vk6)).setCell ⟨gv,1,none⟩ (.int .i64 vn6)).setCell ⟨gv,2,none⟩ (.string vs6)).setCell ⟨gv,3,none⟩ (.slice vA6 vl6 vc6)):=⟨_,rfl⟩
    rw [<- hW6] at HS6 HCW ⊢;clear hW6 y0 y1 y2 y3 u0 u1 u2 u3;have HACT0:Hid (z3c bs last (z07 bs p last) (stO fs)=z3x er6 t6 tt_ (stO fs).tail):=by show _=_;rw [HNX.out];unfold z3c;simp only [];rw [<- HQ.out];rfl
    have HAE6:Hid (er6≠0->z3c bs last (z07 bs p last) (stO fs)=.done er6 z28 0):=fun h=>by rw [HACT0.out];unfold z3x;rw [if_pos h]
    obtain⟨at6,hat6⟩:∃ at6,at6=tt_:=⟨_,rfl⟩
    have HAO6:Hid (er6=0->z3c bs last (z07 bs p last) (stO fs)=z3x 0 t6 at6 (stO fs6)/\InsB w O6 W6 t6 ⟨vk6,vn6,vs6,vA6,vl6,vc6⟩):=fun h=>⟨by rw [HACT0.out,(HIM.out h).1,h,hat6],(HIM.out h).2.turn (HCW.out.mono (fun i _ e=>by rw [e];exact HGO.out)) (fun _ _ e=>e)⟩
    have HBD6:Hid (er6=0->BdO (stO fs6) p.toNat):=fun h=>by rw [(HIM.out h).1];exact y9h HBD.out
    rw [<- hat6];clear hat6 HPO HS4 HB11 p0 p1 p2 p3 p4 p5 p6 p7;obtain⟨y0,y1,y2,y3,u0,u1,u2,u3⟩:=(show Blk W6 gv 25 #[.int .i64 vk6,.int .i64 vn6,.string vs6,.slice vA6 vl6 vc6] from HS6.out.h1).cl4;obtain⟨z0,z1,z2,z3,zf0,zf1,zf2,zf3⟩:=HS6.out.h2.cl4;obtain⟨nf,hnf⟩:∃ nf,nf=fs6.length:=⟨_,rfl⟩
    have qs:=HS6.out.cells' hnf;have HNF:=kf hnf;clear hnf;by_cases he6:er6=0
    ·subst he6;obtain⟨hact,hins⟩:=HAO6.out rfl;have HACT:=kf hact;have HINS:=kf hins;clear hact hins HAE6 HAO6;rcases List.eq_nil_or_concat fs6 with hnil|⟨fs7,f7,hcon⟩
     ·subst hnil;obtain rfl:nf=0:=HNF.out;have HR:=kf (show R=(0,t6,at6) from HT.out.2.2.trans (z0m (by rw [HACT.out];unfold z3x;rw [if_neg (by decide)];rfl)));have HG6O:=kf HS6.out.a2.o;go_wp2_with fail;(try simp only [z1t])
      refine bodyPost_ret (v:=.tuple #[.agg #[.int .i64 vk6,.int .i64 vn6,.string vs6,.slice vA6 vl6 vc6],.int .i64 (at6:Nat),.int .i64 0]) (by simp [results,Tryz.results79,go_sem,z0,z1,z2,z3]) rfl ?_;exact⟨⟨vk6,vn6,vs6,vA6,vl6,vc6⟩,by rw [HR.out];rfl,by rw [HR.out];exact fun V hV=>HINS.out V (((z0l W6 g6 _ _ _ _).mono (fun i _ e=>.inl (by rw [e];exact HG6O.out))).trans hV (fun i _ e=>.inr e)),Chg.newc HG6.out (Chg.newc HG6.out (Chg.newc HG6.out (Chg.newc HG6.out HS6.out.chg)))⟩
     ·rw [List.concat_eq_append] at hcon;subst hcon;have hnf1:nf=fs7.length+1:=by rw [HNF.out];simp
      have f1:((nf:Int)==0)=false:=by simp;omega
      have f2:(nf==0)=false:=by simp;omega
      have f3:¬nf=0:=by omega
      have HNF1:=kf hnf1;have hbd:=HBD6.out rfl;have HAD:=kf (z60 HS6.out nf hnf1 (by have:=(z0o hbd).1;rw [List.length_append] at this;have:=HPL.out;omega) (fun x hx=>by have:=(z0o hbd).2 x hx;have:=HPL.out;omega) t6 ⟨vk6,vn6,vs6,vA6,vl6,vc6⟩ HINS.out);unfold VC.val at HAD;simp only [] at HAD;obtain⟨er7,her7⟩:∃ er7,er7=z26 (stO (fs7++[f7])) t6.kind:=⟨_,rfl⟩
      rw [<- her7] at HAD;have HER7:=kf her7;clear her7 hnf1 hbd;by_cases he7:er7=0
      ·subst he7;have HAT:=kf (show z3c bs last (z07 bs p last) (stO fs)=.next at6 ((f7.k,f7.ts++[t6])::stO fs7) from by rw [HACT.out,z0a];unfold z3x;rw [if_neg (by decide)];simp only [];rw [<- z0a,<- HER7.out];rfl);obtain⟨hr1,hr2,hr3,hr4⟩:=z1s HAT.out;have HRN:=kf (HT.out.2.2.trans hr1);have HBDN:=kf (HBD6.out rfl);have HPQ:=kf hr2;clear hr1;go_wp2_with (go_at_call 116;refine HAD.out.mono ?_;rintro e w8 ⟨rfl,hor⟩;have HOR:=kf hor;clear hor);go_step3;rename_i hK;refine hK _ _ ?_;clear hK;go_wp2_with fail;go_step3;obtain⟨_,A8,c8,O8,hst8⟩:=HOR.out.resolve_right (fun h=>h.1 rfl);exact⟨2*(bs.length-at6)+2,by omega,.inl ⟨rfl,rfl,rfl,rfl,rfl,rfl,rfl,rfl,(at6:Nat),_,S6_,c6,O8,⟨vk6,vn6,vs6,vA6,vl6,vc6⟩,rfl,by simp,kf ⟨hst8,y3o HBDN.out (by omega),by rw [HRN.out,z0a]⟩⟩⟩
      ·have g1:(er7==0)=false:=by simpa using he7
       have HAT:=kf (show R=(er7,z28,0) from HT.out.2.2.trans (z0m (by rw [HACT.out,z0a];unfold z3x;rw [if_neg (by decide)];simp only [];rw [<- z0a,<- HER7.out,if_pos he7])));have HE7:=kf he7;clear he7 z0 z1 z2 z3 zf0 zf1 zf2 zf3;go_wp2_with (go_at_call 116;refine HAD.out.mono ?_;rintro e w8 ⟨rfl,hor⟩;have HS8:=kf (hor.resolve_left (fun h=>HE7.out h.1)).2;clear hor;obtain⟨z0,z1,z2,z3,zf0,zf1,zf2,zf3⟩:=HS8.out.h2.cl4);go_step3;rename_i hK;refine hK _ _ ?_;clear hK;go_wp2_with fail;(try simp only [z1t])
       refine bodyPost_ret (v:=.tuple #[.agg #[.int .i64 0,.int .i64 0,.string ⟨#[]⟩,.slice none 0 0],.int .i64 0,.int .i64 er7]) (by simp [results,Tryz.results79,go_sem,z0,z1,z2,z3]) rfl ?_;exact⟨⟨0,0,⟨#[]⟩,none,0,0⟩,by rw [HAT.out];rfl,by rw [HAT.out];exact fun V _=>z3r V,Chg.newc HG6.out (Chg.newc HG6.out (Chg.newc HG6.out (Chg.newc HG6.out HS8.out.chg)))⟩
    ·have g1:(er6==0)=false:=by simpa using he6
     have HAT:=kf (show R=(er6,z28,0) from HT.out.2.2.trans (z0m (HAE6.out he6)));clear he6;go_wp2_with fail;go_step3;rename_i hK;refine hK _ _ ?_;clear hK;go_wp2_with fail;(try simp only [z1t])
     refine bodyPost_ret (v:=.tuple #[.agg #[.int .i64 0,.int .i64 0,.string ⟨#[]⟩,.slice none 0 0],.int .i64 0,.int .i64 er6]) (by simp [results,Tryz.results79,go_sem,z0,z1,z2,z3]) rfl ?_;exact⟨⟨0,0,⟨#[]⟩,none,0,0⟩,by rw [HAT.out];rfl,by rw [HAT.out];exact fun V _=>z3r V,Chg.newc HG6.out (Chg.newc HG6.out (Chg.newc HG6.out (Chg.newc HG6.out HS6.out.chg)))⟩
   by_cases k5:tk=5
   ·subst k5;clear hk0 hk6 k2 k4 k3;go_upto_region 4 with(go_at_call 108;refine HTK1.out.mono ?_;rintro e w3 ⟨rfl,hc3⟩;have HC3:=kf hc3;clear hc3);have HS4:=kf ((HT.out.1.call HC3.out).call ((Chg.refl NoS w3).alloc (.cells #[.int .i64 5,.int .i64 (tf:Nat),.int .i64 (tt_:Nat),.int .i64 (tvk:Nat),.int .i64 tvn,.string S6,.slice none 0 0,.string S7] 131)));have HB11:=kf (Blk.new w3 131 #[.int .i64 5,.int .i64 (tf:Nat),.int .i64 (tt_:Nat),.int .i64 (tvk:Nat),.int .i64 tvn,.string S6,.slice none 0 0,.string S7]);obtain⟨W4,hW4⟩:∃ W4,W4=w3.alloc (.cells #[.int .i64 5,.int .i64 (tf:Nat),.int .i64 (tt_:Nat),.int .i64 (tvk:Nat),.int .i64 tvn,.string S6,.slice none 0 0,.string S7] 131):=⟨_,rfl⟩
    obtain⟨g11,hg11⟩:∃ g11,g11=w3.heap.size:=⟨_,rfl⟩
    rw [<- hW4] at HS4 HB11 ⊢;rw [<- hg11] at HB11 ⊢;clear hW4 hg11;obtain⟨p0,p1,p2,p3,p4,p5,p6,p7,_,_,_,_,_,_,_,_⟩:=HB11.out.cl8;have HPO:=kf (y2t HS4.out (by have:=(z0o HBD.out).1;have:=HPL.out;omega) (fun x hx=>by have:=(z0o HBD.out).2 x hx;have:=HPL.out;omega) 7 (.inr rfl));unfold y20 at HPO;obtain⟨Q,hQ⟩:∃ Q,Q=y2x (stO fs) 7:=⟨_,rfl⟩
    rw [<- hQ] at HPO;obtain⟨er6,t6⟩:=Q;simp only [] at HPO;have HQ:=kf hQ;clear hQ;go_upto_region 18 with(go_at_call 113;refine HPO.out.mono ?_;rintro e w5 ⟨v6,rfl,fs6,S6_,c6,O6,hst5,himp⟩;have HS5:=kf hst5;have HIM:=kf himp;clear hst5 himp;obtain⟨vk6,vn6,vs6,vA6,vl6,vc6⟩:=v6;unfold VC.val;simp only [];obtain⟨y0,y1,y2,y3,u0,u1,u2,u3⟩:=(show Blk w5 gv 25 #[.int .i64 vk,.int .i64 vn,.string vs,.slice vA vl vc] from HS5.out.h1).cl4);have HS6:=kf (HS5.out.set1 (c1':=VC.arr ⟨vk6,vn6,vs6,vA6,vl6,vc6⟩) (z0l w5 gv (.int .i64 vk6) (.int .i64 vn6) (.string vs6) (.slice vA6 vl6 vc6)) (Blk.set4 HS5.out.h1 _ _ _ _));have HCW:=kf (z0l w5 gv (.int .i64 vk6) (.int .i64 vn6) (.string vs6) (.slice vA6 vl6 vc6));have HGO:=kf HS5.out.a1.o;obtain⟨W6,hW6⟩:∃ W6,W6=((((w5.setCell ⟨gv,0,none⟩ (.int .i64 vk6)).setCell ⟨gv,1,none⟩ (.int .i64 vn6)).setCell ⟨gv,2,none⟩ (.string vs6)).setCell ⟨gv,3,none⟩ (.slice vA6 vl6 vc6)):=⟨_,rfl⟩
    rw [<- hW6] at HS6 HCW ⊢;clear hW6 y0 y1 y2 y3 u0 u1 u2 u3;have HACT0:Hid (z3c bs last (z07 bs p last) (stO fs)=z3x er6 t6 tt_ (stO fs).tail):=by show _=_;rw [HNX.out];unfold z3c;simp only [];rw [<- HQ.out];rfl
    have HAE6:Hid (er6≠0->z3c bs last (z07 bs p last) (stO fs)=.done er6 z28 0):=fun h=>by rw [HACT0.out];unfold z3x;rw [if_pos h]
    obtain⟨at6,hat6⟩:∃ at6,at6=tt_:=⟨_,rfl⟩
    have HAO6:Hid (er6=0->z3c bs last (z07 bs p last) (stO fs)=z3x 0 t6 at6 (stO fs6)/\InsB w O6 W6 t6 ⟨vk6,vn6,vs6,vA6,vl6,vc6⟩):=fun h=>⟨by rw [HACT0.out,(HIM.out h).1,h,hat6],(HIM.out h).2.turn (HCW.out.mono (fun i _ e=>by rw [e];exact HGO.out)) (fun _ _ e=>e)⟩
    have HBD6:Hid (er6=0->BdO (stO fs6) p.toNat):=fun h=>by rw [(HIM.out h).1];exact y9h HBD.out
    rw [<- hat6];clear hat6 HPO HS4 HB11 p0 p1 p2 p3 p4 p5 p6 p7;obtain⟨y0,y1,y2,y3,u0,u1,u2,u3⟩:=(show Blk W6 gv 25 #[.int .i64 vk6,.int .i64 vn6,.string vs6,.slice vA6 vl6 vc6] from HS6.out.h1).cl4;obtain⟨z0,z1,z2,z3,zf0,zf1,zf2,zf3⟩:=HS6.out.h2.cl4;obtain⟨nf,hnf⟩:∃ nf,nf=fs6.length:=⟨_,rfl⟩
    have qs:=HS6.out.cells' hnf;have HNF:=kf hnf;clear hnf;by_cases he6:er6=0
    ·subst he6;obtain⟨hact,hins⟩:=HAO6.out rfl;have HACT:=kf hact;have HINS:=kf hins;clear hact hins HAE6 HAO6;rcases List.eq_nil_or_concat fs6 with hnil|⟨fs7,f7,hcon⟩
     ·subst hnil;obtain rfl:nf=0:=HNF.out;have HR:=kf (show R=(0,t6,at6) from HT.out.2.2.trans (z0m (by rw [HACT.out];unfold z3x;rw [if_neg (by decide)];rfl)));have HG6O:=kf HS6.out.a2.o;go_wp2_with fail;(try simp only [z1t])
      refine bodyPost_ret (v:=.tuple #[.agg #[.int .i64 vk6,.int .i64 vn6,.string vs6,.slice vA6 vl6 vc6],.int .i64 (at6:Nat),.int .i64 0]) (by simp [results,Tryz.results79,go_sem,z0,z1,z2,z3]) rfl ?_;exact⟨⟨vk6,vn6,vs6,vA6,vl6,vc6⟩,by rw [HR.out];rfl,by rw [HR.out];exact fun V hV=>HINS.out V (((z0l W6 g6 _ _ _ _).mono (fun i _ e=>.inl (by rw [e];exact HG6O.out))).trans hV (fun i _ e=>.inr e)),Chg.newc HG6.out (Chg.newc HG6.out (Chg.newc HG6.out (Chg.newc HG6.out HS6.out.chg)))⟩
     ·rw [List.concat_eq_append] at hcon;subst hcon;have hnf1:nf=fs7.length+1:=by rw [HNF.out];simp
      have f1:((nf:Int)==0)=false:=by simp;omega
      have f2:(nf==0)=false:=by simp;omega
      have f3:¬nf=0:=by omega
      have HNF1:=kf hnf1;have hbd:=HBD6.out rfl;have HAD:=kf (z60 HS6.out nf hnf1 (by have:=(z0o hbd).1;rw [List.length_append] at this;have:=HPL.out;omega) (fun x hx=>by have:=(z0o hbd).2 x hx;have:=HPL.out;omega) t6 ⟨vk6,vn6,vs6,vA6,vl6,vc6⟩ HINS.out);unfold VC.val at HAD;simp only [] at HAD;obtain⟨er7,her7⟩:∃ er7,er7=z26 (stO (fs7++[f7])) t6.kind:=⟨_,rfl⟩
      rw [<- her7] at HAD;have HER7:=kf her7;clear her7 hnf1 hbd;by_cases he7:er7=0
      ·subst he7;have HAT:=kf (show z3c bs last (z07 bs p last) (stO fs)=.next at6 ((f7.k,f7.ts++[t6])::stO fs7) from by rw [HACT.out,z0a];unfold z3x;rw [if_neg (by decide)];simp only [];rw [<- z0a,<- HER7.out];rfl);obtain⟨hr1,hr2,hr3,hr4⟩:=z1s HAT.out;have HRN:=kf (HT.out.2.2.trans hr1);have HBDN:=kf (HBD6.out rfl);have HPQ:=kf hr2;clear hr1;go_wp2_with (go_at_call 116;refine HAD.out.mono ?_;rintro e w8 ⟨rfl,hor⟩;have HOR:=kf hor;clear hor);go_step3;rename_i hK;refine hK _ _ ?_;clear hK;go_wp2_with fail;go_step3;obtain⟨_,A8,c8,O8,hst8⟩:=HOR.out.resolve_right (fun h=>h.1 rfl);exact⟨2*(bs.length-at6)+2,by omega,.inl ⟨rfl,rfl,rfl,rfl,rfl,rfl,rfl,rfl,(at6:Nat),_,S6_,c6,O8,⟨vk6,vn6,vs6,vA6,vl6,vc6⟩,rfl,by simp,kf ⟨hst8,y3o HBDN.out (by omega),by rw [HRN.out,z0a]⟩⟩⟩
      ·have g1:(er7==0)=false:=by simpa using he7
       have HAT:=kf (show R=(er7,z28,0) from HT.out.2.2.trans (z0m (by rw [HACT.out,z0a];unfold z3x;rw [if_neg (by decide)];simp only [];rw [<- z0a,<- HER7.out,if_pos he7])));have HE7:=kf he7;clear he7 z0 z1 z2 z3 zf0 zf1 zf2 zf3;go_wp2_with (go_at_call 116;refine HAD.out.mono ?_;rintro e w8 ⟨rfl,hor⟩;have HS8:=kf (hor.resolve_left (fun h=>HE7.out h.1)).2;clear hor;obtain⟨z0,z1,z2,z3,zf0,zf1,zf2,zf3⟩:=HS8.out.h2.cl4);go_step3;rename_i hK;refine hK _ _ ?_;clear hK;go_wp2_with fail;(try simp only [z1t])
       refine bodyPost_ret (v:=.tuple #[.agg #[.int .i64 0,.int .i64 0,.string ⟨#[]⟩,.slice none 0 0],.int .i64 0,.int .i64 er7]) (by simp [results,Tryz.results79,go_sem,z0,z1,z2,z3]) rfl ?_;exact⟨⟨0,0,⟨#[]⟩,none,0,0⟩,by rw [HAT.out];rfl,by rw [HAT.out];exact fun V _=>z3r V,Chg.newc HG6.out (Chg.newc HG6.out (Chg.newc HG6.out (Chg.newc HG6.out HS8.out.chg)))⟩
    ·have g1:(er6==0)=false:=by simpa using he6
     have HAT:=kf (show R=(er6,z28,0) from HT.out.2.2.trans (z0m (HAE6.out he6)));clear he6;go_wp2_with fail;go_step3;rename_i hK;refine hK _ _ ?_;clear hK;go_wp2_with fail;(try simp only [z1t])
     refine bodyPost_ret (v:=.tuple #[.agg #[.int .i64 0,.int .i64 0,.string ⟨#[]⟩,.slice none 0 0],.int .i64 0,.int .i64 er6]) (by simp [results,Tryz.results79,go_sem,z0,z1,z2,z3]) rfl ?_;exact⟨⟨0,0,⟨#[]⟩,none,0,0⟩,by rw [HAT.out];rfl,by rw [HAT.out];exact fun V _=>z3r V,Chg.newc HG6.out (Chg.newc HG6.out (Chg.newc HG6.out (Chg.newc HG6.out HS6.out.chg)))⟩
   by_cases k6:tk=6
   ·subst k6;clear hk0 hk6 k2 k4 k3 k5;go_upto_region 4 with(go_at_call 108;refine HTK1.out.mono ?_;rintro e w3 ⟨rfl,hc3⟩;have HC3:=kf hc3;clear hc3);have HS4:=kf ((HT.out.1.call HC3.out).call ((Chg.refl NoS w3).alloc (.cells #[.int .i64 6,.int .i64 (tf:Nat),.int .i64 (tt_:Nat),.int .i64 (tvk:Nat),.int .i64 tvn,.string S6,.slice none 0 0,.string S7] 131)));have HB11:=kf (Blk.new w3 131 #[.int .i64 6,.int .i64 (tf:Nat),.int .i64 (tt_:Nat),.int .i64 (tvk:Nat),.int .i64 tvn,.string S6,.slice none 0 0,.string S7]);obtain⟨W4,hW4⟩:∃ W4,W4=w3.alloc (.cells #[.int .i64 6,.int .i64 (tf:Nat),.int .i64 (tt_:Nat),.int .i64 (tvk:Nat),.int .i64 tvn,.string S6,.slice none 0 0,.string S7] 131):=⟨_,rfl⟩
    obtain⟨g11,hg11⟩:∃ g11,g11=w3.heap.size:=⟨_,rfl⟩
    rw [<- hW4] at HS4 HB11 ⊢;rw [<- hg11] at HB11 ⊢;clear hW4 hg11;obtain⟨p0,p1,p2,p3,p4,p5,p6,p7,_,_,_,_,_,_,_,_⟩:=HB11.out.cl8;have HME:=kf (fun W=>y4l S7 W);have HMW:=kf (y7j ts);rw [<- HS7.out] at HMW;have HMB:=kf (y4r S7);obtain⟨M,hM⟩:∃ M,M=z2w S7:=⟨_,rfl⟩
    rw [<- hM] at HME HMW HMB;obtain⟨er6,vk6,vn6⟩:=M;simp only [] at HME HMW HMB;clear hM;go_upto_region 18 with(go_at_call 114;refine(HME.out _).mono ?_;rintro e w5 ⟨rfl,hc5⟩;have HS5:=kf (HS4.out.call hc5);clear hc5;obtain⟨y0,y1,y2,y3,u0,u1,u2,u3⟩:=(show Blk w5 gv 25 #[.int .i64 vk,.int .i64 vn,.string vs,.slice vA vl vc] from HS5.out.h1).cl4);have HS6:=kf (HS5.out.set1 (c1':=VC.arr ⟨vk6,vn6,⟨#[]⟩,none,0,0⟩) (z0l w5 gv (.int .i64 vk6) (.int .i64 vn6) (.string ⟨#[]⟩) (.slice none 0 0)) (Blk.set4 HS5.out.h1 _ _ _ _));obtain⟨W6,hW6⟩:∃ W6,W6=((((w5.setCell ⟨gv,0,none⟩ (.int .i64 vk6)).setCell ⟨gv,1,none⟩ (.int .i64 vn6)).setCell ⟨gv,2,none⟩ (.string ⟨#[]⟩)).setCell ⟨gv,3,none⟩ (.slice none 0 0)):=⟨_,rfl⟩
    rw [<- hW6] at HS6 ⊢;clear hW6 y0 y1 y2 y3 u0 u1 u2 u3;obtain⟨fs6,hfs6⟩:∃ fs6,fs6=fs:=⟨_,rfl⟩
    obtain⟨S6_,hS6_⟩:∃ S6_,S6_=S:=⟨_,rfl⟩
    obtain⟨c6,hc6⟩:∃ c6,c6=cS:=⟨_,rfl⟩
    obtain⟨O6,hO6⟩:∃ O6,O6=O:=⟨_,rfl⟩
    obtain⟨t6,ht6⟩:∃ t6,t6=VT.mk vk6 vn6 ⟨#[]⟩ []:=⟨_,rfl⟩
    have HACT0:Hid (z3c bs last (z07 bs p last) (stO fs)=z3x er6 t6 tt_ (stO fs)):=by show _=_;rw [HNX.out];unfold z3c;simp only [];rw [HMW.out.1,HMW.out.2,<- ht6];rfl
    have HAE6:Hid (er6≠0->z3c bs last (z07 bs p last) (stO fs)=.done er6 z28 0):=fun h=>by rw [HACT0.out];unfold z3x;rw [if_pos h]
    obtain⟨at6,hat6⟩:∃ at6,at6=tt_:=⟨_,rfl⟩
    have HAO6:Hid (er6=0->z3c bs last (z07 bs p last) (stO fs)=z3x 0 t6 at6 (stO fs6)/\InsB w O6 W6 t6 ⟨vk6,vn6,⟨#[]⟩,none,0,0⟩):=fun h=>⟨by rw [HACT0.out,h,hat6,hfs6],by rw [ht6];exact z25 (fun i=>O6 i\/i<w.heap.size) W6 vk6 vn6 ⟨#[]⟩ HMB.out.1 HMB.out.2 (by decide)⟩
    have HBD6:Hid (er6=0->BdO (stO fs6) p.toNat):=fun h=>by rw [hfs6];exact HBD.out
    rw [<- hfs6,<- hS6_,<- hc6,<- hO6] at HS6;rw [<- hat6];clear hat6 hfs6 hS6_ hc6 hO6 ht6 HME HS4 HS5 HB11 p0 p1 p2 p3 p4 p5 p6 p7;obtain⟨y0,y1,y2,y3,u0,u1,u2,u3⟩:=(show Blk W6 gv 25 #[.int .i64 vk6,.int .i64 vn6,.string ⟨#[]⟩,.slice none 0 0] from HS6.out.h1).cl4;obtain⟨z0,z1,z2,z3,zf0,zf1,zf2,zf3⟩:=HS6.out.h2.cl4;obtain⟨nf,hnf⟩:∃ nf,nf=fs6.length:=⟨_,rfl⟩
    have qs:=HS6.out.cells' hnf;have HNF:=kf hnf;clear hnf;by_cases he6:er6=0
    ·subst he6;obtain⟨hact,hins⟩:=HAO6.out rfl;have HACT:=kf hact;have HINS:=kf hins;clear hact hins HAE6 HAO6;rcases List.eq_nil_or_concat fs6 with hnil|⟨fs7,f7,hcon⟩
     ·subst hnil;obtain rfl:nf=0:=HNF.out;have HR:=kf (show R=(0,t6,at6) from HT.out.2.2.trans (z0m (by rw [HACT.out];unfold z3x;rw [if_neg (by decide)];rfl)));have HG6O:=kf HS6.out.a2.o;go_wp2_with fail;(try simp only [z1t])
      refine bodyPost_ret (v:=.tuple #[.agg #[.int .i64 vk6,.int .i64 vn6,.string ⟨#[]⟩,.slice none 0 0],.int .i64 (at6:Nat),.int .i64 0]) (by simp [results,Tryz.results79,go_sem,z0,z1,z2,z3]) rfl ?_;exact⟨⟨vk6,vn6,⟨#[]⟩,none,0,0⟩,by rw [HR.out];rfl,by rw [HR.out];exact fun V hV=>HINS.out V (((z0l W6 g6 _ _ _ _).mono (fun i _ e=>.inl (by rw [e];exact HG6O.out))).trans hV (fun i _ e=>.inr e)),Chg.newc HG6.out (Chg.newc HG6.out (Chg.newc HG6.out (Chg.newc HG6.out HS6.out.chg)))⟩
     ·rw [List.concat_eq_append] at hcon;subst hcon;have hnf1:nf=fs7.length+1:=by rw [HNF.out];simp
      have f1:((nf:Int)==0)=false:=by simp;omega
      have f2:(nf==0)=false:=by simp;omega
      have f3:¬nf=0:=by omega
      have HNF1:=kf hnf1;have hbd:=HBD6.out rfl;have HAD:=kf (z60 HS6.out nf hnf1 (by have:=(z0o hbd).1;rw [List.length_append] at this;have:=HPL.out;omega) (fun x hx=>by have:=(z0o hbd).2 x hx;have:=HPL.out;omega) t6 ⟨vk6,vn6,⟨#[]⟩,none,0,0⟩ HINS.out);unfold VC.val at HAD;simp only [] at HAD;obtain⟨er7,her7⟩:∃ er7,er7=z26 (stO (fs7++[f7])) t6.kind:=⟨_,rfl⟩
      rw [<- her7] at HAD;have HER7:=kf her7;clear her7 hnf1 hbd;by_cases he7:er7=0
      ·subst he7;have HAT:=kf (show z3c bs last (z07 bs p last) (stO fs)=.next at6 ((f7.k,f7.ts++[t6])::stO fs7) from by rw [HACT.out,z0a];unfold z3x;rw [if_neg (by decide)];simp only [];rw [<- z0a,<- HER7.out];rfl);obtain⟨hr1,hr2,hr3,hr4⟩:=z1s HAT.out;have HRN:=kf (HT.out.2.2.trans hr1);have HBDN:=kf (HBD6.out rfl);have HPQ:=kf hr2;clear hr1;go_wp2_with (go_at_call 116;refine HAD.out.mono ?_;rintro e w8 ⟨rfl,hor⟩;have HOR:=kf hor;clear hor);go_step3;rename_i hK;refine hK _ _ ?_;clear hK;go_wp2_with fail;go_step3;obtain⟨_,A8,c8,O8,hst8⟩:=HOR.out.resolve_right (fun h=>h.1 rfl);exact⟨2*(bs.length-at6)+2,by omega,.inl ⟨rfl,rfl,rfl,rfl,rfl,rfl,rfl,rfl,(at6:Nat),_,S6_,c6,O8,⟨vk6,vn6,⟨#[]⟩,none,0,0⟩,rfl,by simp,kf ⟨hst8,y3o HBDN.out (by omega),by rw [HRN.out,z0a]⟩⟩⟩
      ·have g1:(er7==0)=false:=by simpa using he7
       have HAT:=kf (show R=(er7,z28,0) from HT.out.2.2.trans (z0m (by rw [HACT.out,z0a];unfold z3x;rw [if_neg (by decide)];simp only [];rw [<- z0a,<- HER7.out,if_pos he7])));have HE7:=kf he7;clear he7 z0 z1 z2 z3 zf0 zf1 zf2 zf3;go_wp2_with (go_at_call 116;refine HAD.out.mono ?_;rintro e w8 ⟨rfl,hor⟩;have HS8:=kf (hor.resolve_left (fun h=>HE7.out h.1)).2;clear hor;obtain⟨z0,z1,z2,z3,zf0,zf1,zf2,zf3⟩:=HS8.out.h2.cl4);go_step3;rename_i hK;refine hK _ _ ?_;clear hK;go_wp2_with fail;(try simp only [z1t])
       refine bodyPost_ret (v:=.tuple #[.agg #[.int .i64 0,.int .i64 0,.string ⟨#[]⟩,.slice none 0 0],.int .i64 0,.int .i64 er7]) (by simp [results,Tryz.results79,go_sem,z0,z1,z2,z3]) rfl ?_;exact⟨⟨0,0,⟨#[]⟩,none,0,0⟩,by rw [HAT.out];rfl,by rw [HAT.out];exact fun V _=>z3r V,Chg.newc HG6.out (Chg.newc HG6.out (Chg.newc HG6.out (Chg.newc HG6.out HS8.out.chg)))⟩
    ·have g1:(er6==0)=false:=by simpa using he6
     have HAT:=kf (show R=(er6,z28,0) from HT.out.2.2.trans (z0m (HAE6.out he6)));clear he6;go_wp2_with fail;go_step3;rename_i hK;refine hK _ _ ?_;clear hK;go_wp2_with fail;(try simp only [z1t])
     refine bodyPost_ret (v:=.tuple #[.agg #[.int .i64 0,.int .i64 0,.string ⟨#[]⟩,.slice none 0 0],.int .i64 0,.int .i64 er6]) (by simp [results,Tryz.results79,go_sem,z0,z1,z2,z3]) rfl ?_;exact⟨⟨0,0,⟨#[]⟩,none,0,0⟩,by rw [HAT.out];rfl,by rw [HAT.out];exact fun V _=>z3r V,Chg.newc HG6.out (Chg.newc HG6.out (Chg.newc HG6.out (Chg.newc HG6.out HS6.out.chg)))⟩
   obtain rfl:tk=1:=by omega
   clear hk0 hk6 k2 k4 k3 k5 k6;go_upto_region 4 with(go_at_call 108;refine HTK1.out.mono ?_;rintro e w3 ⟨rfl,hc3⟩;have HC3:=kf hc3;clear hc3);have HS4:=kf ((HT.out.1.call HC3.out).call ((Chg.refl NoS w3).alloc (.cells #[.int .i64 1,.int .i64 (tf:Nat),.int .i64 (tt_:Nat),.int .i64 (tvk:Nat),.int .i64 tvn,.string S6,.slice none 0 0,.string S7] 131)));have HB11:=kf (Blk.new w3 131 #[.int .i64 1,.int .i64 (tf:Nat),.int .i64 (tt_:Nat),.int .i64 (tvk:Nat),.int .i64 tvn,.string S6,.slice none 0 0,.string S7]);obtain⟨W4,hW4⟩:∃ W4,W4=w3.alloc (.cells #[.int .i64 1,.int .i64 (tf:Nat),.int .i64 (tt_:Nat),.int .i64 (tvk:Nat),.int .i64 tvn,.string S6,.slice none 0 0,.string S7] 131):=⟨_,rfl⟩
   obtain⟨g11,hg11⟩:∃ g11,g11=w3.heap.size:=⟨_,rfl⟩
   rw [<- hW4] at HS4 HB11 ⊢;rw [<- hg11] at HB11 ⊢;clear hW4 hg11;obtain⟨p0,p1,p2,p3,p4,p5,p6,p7,_,_,_,_,_,_,_,_⟩:=HB11.out.cl8;have HTV:Hid (v8f bs.length ⟨1,tf,tt_,tvk,tvn,tvs,ts⟩):=by have h:=HNV.out p.toNat;rw [HPP.out.2.2.2.2] at h;exact h rfl rfl
   have HIT1:=kf (HIT.out ⟨1,tf,tt_,tvk,tvn,tvs,ts⟩ HPP.out.2.2.2.1 W4 HS4.out.chg);have HRI:=kf (fun(O:Nat->Prop) (W:World)=>v4a (O:=fun i=>O i\/i<w.heap.size) (w:=W) (bs:=bs) (last:=last) HTV.out HPL.out);have HACT1:Hid (z3c bs last (z07 bs p last) (stO fs)=z3x (z4w bs last ⟨1,tf,tt_,tvk,tvn,tvs,ts⟩).1 (z4w bs last ⟨1,tf,tt_,tvk,tvn,tvs,ts⟩).2.1 (z4w bs last ⟨1,tf,tt_,tvk,tvn,tvs,ts⟩).2.2 (stO fs)):=by show _=_;rw [HNX.out];rfl
   obtain⟨Q,hQ⟩:∃ Q,Q=z4w bs last ⟨1,tf,tt_,tvk,tvn,tvs,ts⟩:=⟨_,rfl⟩
   unfold v5w z78 at HIT1;simp only [] at HIT1;rw [<- HS6_.out,<- HS7.out] at HIT1;rw [<- hQ] at HIT1 HRI HACT1;obtain⟨er6,t6,at6⟩:=Q;simp only [] at HIT1 HRI HACT1;clear hQ;obtain⟨vk6,hvk6⟩:∃ z,z=t6.kind:=⟨_,rfl⟩
   obtain⟨vn6,hvn6⟩:∃ z,z=t6.num:=⟨_,rfl⟩
   obtain⟨vs6,hvs6⟩:∃ z,z=t6.str:=⟨_,rfl⟩
   rw [<- hvk6,<- hvn6,<- hvs6] at HIT1 HRI;clear hvk6 hvn6 hvs6;go_upto_region 18 with(go_at_call 115;refine HIT1.out.mono ?_;rintro e w5 ⟨rfl,hc5⟩;have HS5:=kf (HS4.out.call hc5);clear hc5;obtain⟨y0,y1,y2,y3,u0,u1,u2,u3⟩:=(show Blk w5 gv 25 #[.int .i64 vk,.int .i64 vn,.string vs,.slice vA vl vc] from HS5.out.h1).cl4);have HS6:=kf (HS5.out.set1 (c1':=VC.arr ⟨vk6,vn6,vs6,none,0,0⟩) (z0l w5 gv (.int .i64 vk6) (.int .i64 vn6) (.string vs6) (.slice none 0 0)) (Blk.set4 HS5.out.h1 _ _ _ _));obtain⟨W6,hW6⟩:∃ W6,W6=((((w5.setCell ⟨gv,0,none⟩ (.int .i64 vk6)).setCell ⟨gv,1,none⟩ (.int .i64 vn6)).setCell ⟨gv,2,none⟩ (.string vs6)).setCell ⟨gv,3,none⟩ (.slice none 0 0)):=⟨_,rfl⟩
   rw [<- hW6] at HS6 ⊢;clear hW6 y0 y1 y2 y3 u0 u1 u2 u3;obtain⟨fs6,hfs6⟩:∃ fs6,fs6=fs:=⟨_,rfl⟩
   obtain⟨S6_,hS6_⟩:∃ S6_,S6_=S:=⟨_,rfl⟩
   obtain⟨c6,hc6⟩:∃ c6,c6=cS:=⟨_,rfl⟩
   obtain⟨O6,hO6⟩:∃ O6,O6=O:=⟨_,rfl⟩
   have HACT0:Hid (z3c bs last (z07 bs p last) (stO fs)=z3x er6 t6 at6 (stO fs)):=HACT1.out;have HAE6:Hid (er6≠0->z3c bs last (z07 bs p last) (stO fs)=.done er6 z28 0):=fun h=>by rw [HACT0.out];unfold z3x;rw [if_pos h]
   have HAO6:Hid (er6=0->z3c bs last (z07 bs p last) (stO fs)=z3x 0 t6 at6 (stO fs6)/\InsB w O6 W6 t6 ⟨vk6,vn6,vs6,none,0,0⟩):=fun h=>⟨by rw [HACT0.out,h,hfs6],HRI.out O6 W6⟩
   have HBD6:Hid (er6=0->BdO (stO fs6) p.toNat):=fun h=>by rw [hfs6];exact HBD.out
   rw [<- hfs6,<- hS6_,<- hc6,<- hO6] at HS6;clear hfs6 hS6_ hc6 hO6 HIT1 HS4 HS5 HB11 p0 p1 p2 p3 p4 p5 p6 p7;obtain⟨y0,y1,y2,y3,u0,u1,u2,u3⟩:=(show Blk W6 gv 25 #[.int .i64 vk6,.int .i64 vn6,.string vs6,.slice none 0 0] from HS6.out.h1).cl4;obtain⟨z0,z1,z2,z3,zf0,zf1,zf2,zf3⟩:=HS6.out.h2.cl4;obtain⟨nf,hnf⟩:∃ nf,nf=fs6.length:=⟨_,rfl⟩
   have qs:=HS6.out.cells' hnf;have HNF:=kf hnf;clear hnf;by_cases he6:er6=0
   ·subst he6;obtain⟨hact,hins⟩:=HAO6.out rfl;have HACT:=kf hact;have HINS:=kf hins;clear hact hins HAE6 HAO6;rcases List.eq_nil_or_concat fs6 with hnil|⟨fs7,f7,hcon⟩
    ·subst hnil;obtain rfl:nf=0:=HNF.out;have HR:=kf (show R=(0,t6,at6) from HT.out.2.2.trans (z0m (by rw [HACT.out];unfold z3x;rw [if_neg (by decide)];rfl)));have HG6O:=kf HS6.out.a2.o;go_wp2_with fail;(try simp only [z1t])
     refine bodyPost_ret (v:=.tuple #[.agg #[.int .i64 vk6,.int .i64 vn6,.string vs6,.slice none 0 0],.int .i64 (at6:Nat),.int .i64 0]) (by simp [results,Tryz.results79,go_sem,z0,z1,z2,z3]) rfl ?_;exact⟨⟨vk6,vn6,vs6,none,0,0⟩,by rw [HR.out];rfl,by rw [HR.out];exact fun V hV=>HINS.out V (((z0l W6 g6 _ _ _ _).mono (fun i _ e=>.inl (by rw [e];exact HG6O.out))).trans hV (fun i _ e=>.inr e)),Chg.newc HG6.out (Chg.newc HG6.out (Chg.newc HG6.out (Chg.newc HG6.out HS6.out.chg)))⟩
    ·rw [List.concat_eq_append] at hcon;subst hcon;have hnf1:nf=fs7.length+1:=by rw [HNF.out];simp
     have f1:((nf:Int)==0)=false:=by simp;omega
     have f2:(nf==0)=false:=by simp;omega
     have f3:¬nf=0:=by omega
     have HNF1:=kf hnf1;have hbd:=HBD6.out rfl;have HAD:=kf (z60 HS6.out nf hnf1 (by have:=(z0o hbd).1;rw [List.length_append] at this;have:=HPL.out;omega) (fun x hx=>by have:=(z0o hbd).2 x hx;have:=HPL.out;omega) t6 ⟨vk6,vn6,vs6,none,0,0⟩ HINS.out);unfold VC.val at HAD;simp only [] at HAD;obtain⟨er7,her7⟩:∃ er7,er7=z26 (stO (fs7++[f7])) t6.kind:=⟨_,rfl⟩
     rw [<- her7] at HAD;have HER7:=kf her7;clear her7 hnf1 hbd;by_cases he7:er7=0
     ·subst he7;have HAT:=kf (show z3c bs last (z07 bs p last) (stO fs)=.next at6 ((f7.k,f7.ts++[t6])::stO fs7) from by rw [HACT.out,z0a];unfold z3x;rw [if_neg (by decide)];simp only [];rw [<- z0a,<- HER7.out];rfl);obtain⟨hr1,hr2,hr3,hr4⟩:=z1s HAT.out;have HRN:=kf (HT.out.2.2.trans hr1);have HBDN:=kf (HBD6.out rfl);have HPQ:=kf hr2;clear hr1;go_wp2_with (go_at_call 116;refine HAD.out.mono ?_;rintro e w8 ⟨rfl,hor⟩;have HOR:=kf hor;clear hor);go_step3;rename_i hK;refine hK _ _ ?_;clear hK;go_wp2_with fail;go_step3;obtain⟨_,A8,c8,O8,hst8⟩:=HOR.out.resolve_right (fun h=>h.1 rfl);exact⟨2*(bs.length-at6)+2,by omega,.inl ⟨rfl,rfl,rfl,rfl,rfl,rfl,rfl,rfl,(at6:Nat),_,S6_,c6,O8,⟨vk6,vn6,vs6,none,0,0⟩,rfl,by simp,kf ⟨hst8,y3o HBDN.out (by omega),by rw [HRN.out,z0a]⟩⟩⟩
     ·have g1:(er7==0)=false:=by simpa using he7
      have HAT:=kf (show R=(er7,z28,0) from HT.out.2.2.trans (z0m (by rw [HACT.out,z0a];unfold z3x;rw [if_neg (by decide)];simp only [];rw [<- z0a,<- HER7.out,if_pos he7])));have HE7:=kf he7;clear he7 z0 z1 z2 z3 zf0 zf1 zf2 zf3;go_wp2_with (go_at_call 116;refine HAD.out.mono ?_;rintro e w8 ⟨rfl,hor⟩;have HS8:=kf (hor.resolve_left (fun h=>HE7.out h.1)).2;clear hor;obtain⟨z0,z1,z2,z3,zf0,zf1,zf2,zf3⟩:=HS8.out.h2.cl4);go_step3;rename_i hK;refine hK _ _ ?_;clear hK;go_wp2_with fail;(try simp only [z1t])
      refine bodyPost_ret (v:=.tuple #[.agg #[.int .i64 0,.int .i64 0,.string ⟨#[]⟩,.slice none 0 0],.int .i64 0,.int .i64 er7]) (by simp [results,Tryz.results79,go_sem,z0,z1,z2,z3]) rfl ?_;exact⟨⟨0,0,⟨#[]⟩,none,0,0⟩,by rw [HAT.out];rfl,by rw [HAT.out];exact fun V _=>z3r V,Chg.newc HG6.out (Chg.newc HG6.out (Chg.newc HG6.out (Chg.newc HG6.out HS8.out.chg)))⟩
   ·have g1:(er6==0)=false:=by simpa using he6
    have HAT:=kf (show R=(er6,z28,0) from HT.out.2.2.trans (z0m (HAE6.out he6)));clear he6;go_wp2_with fail;go_step3;rename_i hK;refine hK _ _ ?_;clear hK;go_wp2_with fail;(try simp only [z1t])
    refine bodyPost_ret (v:=.tuple #[.agg #[.int .i64 0,.int .i64 0,.string ⟨#[]⟩,.slice none 0 0],.int .i64 0,.int .i64 er6]) (by simp [results,Tryz.results79,go_sem,z0,z1,z2,z3]) rfl ?_;exact⟨⟨0,0,⟨#[]⟩,none,0,0⟩,by rw [HAT.out];rfl,by rw [HAT.out];exact fun V _=>z3r V,Chg.newc HG6.out (Chg.newc HG6.out (Chg.newc HG6.out (Chg.newc HG6.out HS6.out.chg)))⟩
  ·have HTE:=kf (HMA.out.1 he);obtain rfl:tk=0:=HMK.out.2 he;have e1:(er==0)=false:=by simpa using he
   have HAT:=kf (show R=(er,z28,0) from HT.out.2.2.trans (z0m HTE.out));clear he HMA HMK;go_upto_region 4 with(go_at_call 108;refine HTK1.out.mono ?_;rintro e w3 ⟨rfl,hc3⟩;have HC3:=kf hc3;clear hc3);have HS4:=kf ((HT.out.1.call HC3.out).call ((Chg.refl NoS w3).alloc (.cells #[.int .i64 0,.int .i64 (tf:Nat),.int .i64 (tt_:Nat),.int .i64 (tvk:Nat),.int .i64 tvn,.string S6,.slice none 0 0,.string S7] 131)));have HB11:=kf (Blk.new w3 131 #[.int .i64 0,.int .i64 (tf:Nat),.int .i64 (tt_:Nat),.int .i64 (tvk:Nat),.int .i64 tvn,.string S6,.slice none 0 0,.string S7]);obtain⟨W4,hW4⟩:∃ W4,W4=w3.alloc (.cells #[.int .i64 0,.int .i64 (tf:Nat),.int .i64 (tt_:Nat),.int .i64 (tvk:Nat),.int .i64 tvn,.string S6,.slice none 0 0,.string S7] 131):=⟨_,rfl⟩
   obtain⟨g11,hg11⟩:∃ g11,g11=w3.heap.size:=⟨_,rfl⟩
   rw [<- hW4] at HS4 HB11 ⊢;rw [<- hg11] at HB11 ⊢;clear hW4 hg11;obtain⟨p0,p1,p2,p3,p4,p5,p6,p7,_,_,_,_,_,_,_,_⟩:=HB11.out.cl8;obtain⟨z0,z1,z2,z3,zf0,zf1,zf2,zf3⟩:=HS4.out.h2.cl4;go_wp2_with fail;go_step3;rename_i hK;refine hK _ _ ?_;clear hK;go_wp2_with fail;(try simp only [z1t])
   refine bodyPost_ret (v:=.tuple #[.agg #[.int .i64 0,.int .i64 0,.string ⟨#[]⟩,.slice none 0 0],.int .i64 0,.int .i64 er]) (by simp [results,Tryz.results79,go_sem,z0,z1,z2,z3]) rfl ?_;exact⟨⟨0,0,⟨#[]⟩,none,0,0⟩,by rw [HAT.out];rfl,by rw [HAT.out];exact fun V _=>z3r V,Chg.newc HG6.out (Chg.newc HG6.out (Chg.newc HG6.out (Chg.newc HG6.out HS4.out.chg)))⟩
structure RSrc (w0:World) (bs:List Nat) (A:Option Addr) (c:Nat):Prop where
 src:Src w0 1 A bs.length c (z08 bs)
 len:bs.length<=400000
 cap:bs.length<=c
 byt:∀ x∈bs,x<256
abbrev z88 (R:Nat):Nat->Prop:=fun i=>i=R
theorem z10 (W:World) (R i:Nat) (u:Value):Chg (z88 R) W (W.setCell ⟨R,i,none⟩ u):=(Chg.refl (z88 R) W).setCell (p:=⟨R,i,none⟩) (fun _=>rfl) u
theorem z13 {R:Nat} {W W':World} (h:Chg NoS W W'):Chg (z88 R) W W':=h.mono (fun _ _ e=>e.elim)
theorem z09 {R:Nat} {a b c:World} (h:Chg (z88 R) a b) (k:Chg (z88 R) b c):Chg (z88 R) a c:=h.trans k (fun _ _ e=>e)
structure XB (w0:World) (bs:List Nat) (A:Option Addr) (c R:Nat) (last:Bool) (s:FS) (W:World):Prop where
 blk:Blk W R 82 #[.slice A bs.length c,.int .i64 s.1,.bool last,.int .i64 s.2]
 chg:Chg NoS w0 W
 new:w0.heap.size<=R
section
variable {w0 W W':World} {bs:List Nat} {A:Option Addr} {c R:Nat} {last:Bool} {s:FS}
theorem XB.call (h:XB w0 bs A c R last s W) (hc:Chg NoS W W'):XB w0 bs A c R last s W':=⟨h.blk.chg hc (fun e=>e),h.chg.trans hc (fun _ _ e=>e),h.new⟩
theorem XB.far {S:Nat->Prop} (h:XB w0 bs A c R last s W) (hc:Chg S W W') (hR:¬S R) (hS:∀ i,i<w0.heap.size->¬S i):XB w0 bs A c R last s W':=⟨h.blk.chg hc hR,h.chg.trans hc (fun i hi e=>absurd e (hS i hi)),h.new⟩
theorem XB.setA (h:XB w0 bs A c R last s W) (a:Int):XB w0 bs A c R last (a,s.2) (W.setCell ⟨R,1,none⟩ (.int .i64 a)) :=
 ⟨h.blk.set_ 1 _,h.chg.setCell (p:=⟨R,1,none⟩) (fun e=>absurd e (Nat.not_lt.2 h.new)) _,h.new⟩
theorem XB.setE (h:XB w0 bs A c R last s W) (e:Int):XB w0 bs A c R last (s.1,e) (W.setCell ⟨R,3,none⟩ (.int .i64 e)) :=
 ⟨h.blk.set_ 3 _,h.chg.setCell (p:=⟨R,3,none⟩) (fun e=>absurd e (Nat.not_lt.2 h.new)) _,h.new⟩
theorem XB.cells (h:XB w0 bs A c R last s W):W.cell? ⟨R,0,none⟩=some (.slice A bs.length c)/\W.cell? ⟨R,1,none⟩=some (.int .i64 s.1)/\W.cell? ⟨R,2,none⟩=some (.bool last)/\W.cell? ⟨R,3,none⟩=some (.int .i64 s.2)/\W.frozen? ⟨R,1,none⟩=false/\W.frozen? ⟨R,3,none⟩=false :=
 ⟨h.blk.cl4.c0,h.blk.cl4.c1,h.blk.cl4.c2,h.blk.cl4.c3,h.blk.frozen 1,h.blk.frozen 3⟩
theorem XB.lt (h:XB w0 bs A c R last s W):R<W.heap.size:=h.blk.lt
end
def XTo (w0:World) (bs:List Nat) (A:Option Addr) (c R:Nat) (last:Bool) (w:World) (v:Value) (s:FS) (e:Ending) (w':World):Prop:=e=.returned v/\XB w0 bs A c R last s w'/\Chg (z88 R) w w'
theorem z0u {w0 w:World} {bs:List Nat} {A:Option Addr} {c R:Nat} {last:Bool} {s:FS} (h:XB w0 bs A c R last s w) (x:Bool) :
  Calls Tryz.prog 77 #[.pointer (some ⟨R,0,none⟩),.bool x] w (XTo w0 bs A c R last w (.tuple #[]) (s.1,z3q s.2 x)):=by
 obtain⟨a,e⟩:=s;obtain⟨q0,q1,q2,q3,z1,z3⟩:=h.cells;have HR:=kf h;have HX:∀ y,z3q e x=y->Hid (z3q e x=y):=fun _ h=>h;simp only [] at q1 q3;clear h;by_cases he:e=0
 ·subst he;cases x with
  |true =>
   have HY:=HX 0 rfl;clear HX;go_enter Tryz.func77,Tryz.ntmps77;go_wp2_with fail;first|go_end0|go_ret|go_ret2
   exact⟨rfl,by rw [HY.out];exact HR.out,Chg.refl _ _⟩
  |false =>
   have HY:=HX 20 rfl;clear HX;go_enter Tryz.func77,Tryz.ntmps77;go_wp2_with fail;first|go_end0|go_ret|go_ret2
   exact⟨rfl,by rw [HY.out];exact HR.out.setE 20,z10 _ _ _ _⟩
 ·have e1:(e==0)=false:=by simpa using he
  have e2:(e != 0)=true:=by simpa using he
  have HY:=HX e (z96 he);clear HX he;go_enter Tryz.func77,Tryz.ntmps77;go_wp2_with fail;first|go_end0|go_ret|go_ret2
  exact⟨rfl,by rw [HY.out];exact HR.out,Chg.refl _ _⟩
theorem z9d (a b:Int) (w:World) (ha:-9223372036854775808<=a/\a<=9223372036854775807) (hb:-9223372036854775808<=b/\b<=9223372036854775807) :
  Calls Tryz.prog 65 #[.int .i64 a,.int .i64 b] w fun e w'=>e=.returned (.bool (z29 a b))/\w=w':=by
 have HX:∀ y,z29 a b=y->Hid (z29 a b=y):=fun _ h=>h;by_cases h1:0<=a
 ·by_cases h2:0<=b
  ·have hw:IntKind.i64.wrap (4097-b)=4097-b:=by rw [IntKind.wrap_i64];omega
   by_cases h3:a<=4097-b
   ·have HY:=HX true (by unfold z29;simp [h1,h2,h3]);rw [HY.out];clear HX HY;go_enter Tryz.func65,Tryz.ntmps65;go_wp2_with fail;go_ret;exact⟨rfl,rfl⟩
   ·have HY:=HX false (by unfold z29;simp [h1,h2,h3]);have d3:decide (a<=4097-b)=false:=by simpa using h3
    rw [HY.out];clear HX HY;go_enter Tryz.func65,Tryz.ntmps65;go_wp2_with fail;go_ret;exact⟨rfl,rfl⟩
  ·have HY:=HX false (by unfold z29;simp [h1,h2]);have d2:decide (0<=b)=false:=by simpa using h2
   rw [HY.out];clear HX HY;go_enter Tryz.func65,Tryz.ntmps65;go_wp2_with fail;go_ret;exact⟨rfl,rfl⟩
 ·have HY:=HX false (by unfold z29;simp [h1]);have d1:decide (0<=a)=false:=by simpa using h1
  rw [HY.out];clear HX HY;go_enter Tryz.func65,Tryz.ntmps65;go_wp2_with fail;go_ret;exact⟨rfl,rfl⟩
theorem y5g (c:Nat) (w:World):Calls Tryz.prog 154 #[.int .u8 (c:Nat)] w fun e w'=>e=.returned (.bool (decide (c=32) || (decide (c=10) || decide (c=13))))/\w=w':=by
 have HX:∀ y,(decide (c=32) || (decide (c=10) || decide (c=13)))=y->Hid ((decide (c=32) || (decide (c=10) || decide (c=13)))=y):=fun _ h=>h;by_cases h1:c=32
 ·subst h1;have HY:=HX true rfl;rw [HY.out];clear HX HY;go_enter Tryz.func154,Tryz.ntmps154;go_wp2_with fail;go_ret;exact⟨rfl,rfl⟩
 have r1:((c:Int)==32)=false:=by simp;omega
 by_cases h2:c=10
 ·subst h2;have HY:=HX true rfl;rw [HY.out];clear HX HY;go_enter Tryz.func154,Tryz.ntmps154;go_wp2_with fail;go_ret;exact⟨rfl,rfl⟩
 have r2:((c:Int)==10)=false:=by simp;omega
 by_cases h3:c=13
 ·subst h3;have HY:=HX true rfl;rw [HY.out];clear HX HY;go_enter Tryz.func154,Tryz.ntmps154;go_wp2_with fail;go_ret;exact⟨rfl,rfl⟩
 have r3:((c:Int)==13)=false:=by simp;omega
 have HY:=HX false (by simp [h1,h2,h3]);rw [HY.out];clear HX HY h1 h2 h3;go_enter Tryz.func154,Tryz.ntmps154;go_wp2_with fail;go_ret;exact⟨rfl,rfl⟩
theorem y3x (A:Option Addr) (n c:Nat) (a:Int) (last:Bool) (w:World) :
  Calls Tryz.prog 152 #[.agg #[.slice A n c,.int .i64 a,.bool last]] w fun e w'=>e=.returned (.int .i64 (v5x last))/\Chg NoS w w':=by
 cases last with
 |true =>
  go_enter Tryz.func152,Tryz.ntmps152;go_wp2_with fail;go_ret;exact⟨rfl,(Chg.refl NoS w).alloc _⟩
 |false =>
  go_enter Tryz.func152,Tryz.ntmps152;go_wp2_with fail;go_ret;exact⟨rfl,(Chg.refl NoS w).alloc _⟩
theorem y9s {w0 w:World} {bs:List Nat} {A:Option Addr} {c R:Nat} {last:Bool} {s:FS} (h:XB w0 bs A c R last s w) (t:Tkn) :
  Calls Tryz.prog 76 #[.pointer (some ⟨R,0,none⟩),z78 t] w (XTo w0 bs A c R last w (.int .i64 t.vn) (z5y t s)):=by
 obtain⟨tk,tf,tt_,tvk,tvn,tvs,ts⟩:=t;obtain⟨a,e⟩:=s;unfold z78 z5y;simp only [];obtain⟨S6,hS6⟩:∃ S6,S6=sb tvs:=⟨_,rfl⟩
 obtain⟨S7,hS7⟩:∃ S7,S7=sb ts:=⟨_,rfl⟩
 rw [<- hS6,<- hS7];have HB:=kf (Blk.new w 131 #[.int .i64 (tk:Nat),.int .i64 (tf:Nat),.int .i64 (tt_:Nat),.int .i64 (tvk:Nat),.int .i64 tvn,.string S6,.slice none 0 0,.string S7]);have HC:=kf ((Chg.refl NoS w).alloc (.cells #[.int .i64 (tk:Nat),.int .i64 (tf:Nat),.int .i64 (tt_:Nat),.int .i64 (tvk:Nat),.int .i64 tvn,.string S6,.slice none 0 0,.string S7] 131));have HR:=kf (h.call HC.out);have HNE:Hid (R≠w.heap.size):=by have h1:=h.lt;show R≠_;omega
 clear hS6 hS7 h;go_enter Tryz.func76,Tryz.ntmps76;go_upto_region 1 with fail;obtain⟨W1,hW1⟩:∃ W1,W1=w.alloc (.cells #[.int .i64 (tk:Nat),.int .i64 (tf:Nat),.int .i64 (tt_:Nat),.int .i64 (tvk:Nat),.int .i64 tvn,.string S6,.slice none 0 0,.string S7] 131):=⟨_,rfl⟩
 obtain⟨g3,hg3⟩:∃ g3,g3=w.heap.size:=⟨_,rfl⟩
 rw [<- hW1] at HB HC HR ⊢;rw [<- hg3] at HB HNE ⊢;clear hW1 hg3;obtain⟨p0,p1,p2,p3,p4,p5,p6,p7,_,_,_,_,_,_,_,_⟩:=HB.out.cl8;by_cases h2:tvk=2
 ·subst h2;have HA:=kf (z0u HR.out true);go_wp2_with (go_at_call 77;refine HA.out.mono ?_;rintro e w6 ⟨rfl,hr6,hc6⟩;have HR6:=kf hr6;have HC6:=kf (z09 (z13 HC.out) hc6);have hb6:=HB.out.chg hc6 (fun e=>HNE.out e.symm);clear p0 p1 p2 p3 p4 p5 p6 p7;obtain⟨p0,p1,p2,p3,p4,p5,p6,p7,_,_,_,_,_,_,_,_⟩:=hb6.cl8;clear hr6 hc6 hb6);go_ret;exact⟨rfl,HR6.out,HC6.out⟩
 ·have r1:((tvk:Int)==2)=false:=by simp;omega
  have HA:=kf (z0u HR.out false);have HD:=kf (decide_eq_false h2);clear h2;go_wp2_with (go_at_call 77;refine HA.out.mono ?_;rintro e w6 ⟨rfl,hr6,hc6⟩;have HR6:=kf hr6;have HC6:=kf (z09 (z13 HC.out) hc6);have hb6:=HB.out.chg hc6 (fun e=>HNE.out e.symm);clear p0 p1 p2 p3 p4 p5 p6 p7;obtain⟨p0,p1,p2,p3,p4,p5,p6,p7,_,_,_,_,_,_,_,_⟩:=hb6.cl8;clear hr6 hc6 hb6);go_ret;refine⟨rfl,?_,HC6.out⟩;rw [HD.out];exact HR6.out
end Go.Proofs.YtnhlalkeaaiefaaGreatDoor
