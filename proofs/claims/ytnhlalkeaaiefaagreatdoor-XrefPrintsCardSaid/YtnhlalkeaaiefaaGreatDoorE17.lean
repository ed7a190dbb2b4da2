import Derived.Test.YtnhlalkeaaiefaaGreatDoorE06
import Derived.Test.YtnhlalkeaaiefaaGreatDoorE15
set_option linter.unusedVariables false
set_option maxHeartbeats 64000000
set_option maxRecDepth 100000
set_option linter.unusedSimpArgs false
namespace Go.Proofs.YtnhlalkeaaiefaaGreatDoor
open Go.RowKit
theorem TxR.call {V w X X':World} {A:Option Addr} {bs:List Nat} {c:Nat} {last:Bool} {R g p k deep:Nat} {out:List Nat} (h:TxR V w A bs c last R g p k deep out X) (hc:Chg NoS X X'):TxR V w A bs c last R g p k deep out X' :=
 ⟨h.1.call hc,h.2.1.chg hc (fun h=>h),h.2.2⟩
theorem y6g:∀ (l:List Nat),∀ d∈l.take (rgs l),y0c d=true
 |[],d,h=>by simp at h
 |x::l,d,h=>by
  rw [rgs] at h;by_cases hx:y0c x=true
  ·rw [if_pos hx,List.take_succ_cons] at h;rcases List.mem_cons.1 h with rfl|h
   ·exact hx
   ·exact y6g l d h
  ·rw [if_neg hx] at h;simp at h
def y9o (last:Bool) (p:Nat) (l:List Nat):Int × List Nat × Nat:=if z99 last l≠0 then(6,[],0) else((z5g (l.take (rgs l))).1,(z5g (l.take (rgs l))).2,p+rgs l)
theorem y2m (last:Bool) (l:List Nat):z99 last l=0\/z99 last l=6:=by
 unfold z99;split
 ·exact .inr rfl
 ·exact .inl rfl
def NmJ (V w:World) (A:Option Addr) (bs:List Nat) (c:Nat) (last:Bool) (R g k:Nat) (ws:List Nat) (n:Nat) (x:Act) (w':World):Prop :=
 x.defers=[]/\x.tmps.size=57/\x.tmps.getD 0 undef=.pointer (some ⟨R,0,none⟩)/\x.tmps.getD 2 undef=.pointer (some ⟨g,0,none⟩)/\∃ (m out:List Nat),x.tmps.getD 4 undef=.string (sb m)/\n=m.length+1/\out.length+m.length<=500000 /\
  Hid (TxR V w A bs c last R g 0 k 0 out w'/\nmR [] ws=nmR out m/\0 ∉ out/\0 ∉ m/\∀ d∈m,d<256)
theorem y67 {x:Act} {v0 v2 v4:Value} {C:Act->Prop} (h1:x.defers=[]) (h2:x.tmps.size=57) (h3:x.tmps.getD 0 undef=v0) (h4:x.tmps.getD 2 undef=v2) (h5:x.tmps.getD 4 undef=v4)
  (k:∀ f:Nat->Value,C { tmps:=#[v0,f 1,v2,f 3,v4,f 5,f 6,f 7,f 8,f 9,f 10,f 11,f 12,f 13,f 14,f 15,f 16,f 17,f 18,f 19,f 20,f 21,f 22,f 23,f 24,f 25,f 26,f 27,f 28,f 29,f 30,f 31,f 32,f 33,f 34,f 35,f 36,f 37,f 38,f 39,f 40,f 41,f 42,f 43,f 44,f 45,f 46,f 47,f 48,f 49,f 50,f 51,f 52,f 53,f 54,f 55,f 56],defers:=[] }):C x:=by
 obtain⟨t,d⟩:=x;simp only at h1 h2 h3 h4 h5;subst h1;have h6:=k (fun i=>t.getD i undef);rw [<- h3,<- h4,<- h5] at h6;rw [z2m t 57 h2];exact h6
theorem y6x {V w W:World} {A:Option Addr} {bs:List Nat} {c R p:Nat} {last:Bool} (h:RD V w W A bs.length c last R p []) (hS:Src w 1 A bs.length c (z08 bs)) (hl:bs.length<=500000) (hc:bs.length<=c) (hp:p<=bs.length) (hb:∀ d∈bs,d<256) (hn0:0<bs.length) :
  Calls Tryz.prog 188 #[.pointer (some ⟨R,0,none⟩)] W (PTo V w R 5 (y9o last p (bs.drop p))):=by
 have HRU:=kf (fun X (hX:RD X w X A bs.length c last R p [])=>y2v hX hS hl hc hp hn0);have HWB:=kf (fun X out k y (hX:RD X w X A bs.length c last R k out) (ho:out.length<=1000000)=>z58 hX y ho);have HWS:=kf (fun X out k m (hX:RD X w X A bs.length c last R k out) (hm:∀ d∈m,d<256) (ho:out.length<=1000000) (ho2:m.length<=1000000)=>y6q hX m hm ho ho2);have HLE:=kf (fun X out k (hX:RD X w X A bs.length c last R k out)=>v0x hX);have HBU:=kf (fun X out k (hX:RD X w X A bs.length c last R k out) (ho:∀ d∈out,d<256) (hm:out.length<=1000000)=>z5b hX ho hm 5);have HCT:=kf (fun m (hm:∀ d∈m,d<256) (ho:m.length<=1000000) X=>y3j 35 m hm ho X);have HCO:=kf (fun m (hm:∀ d∈m,d<256) (ho:m.length<=1000000) X=>y6y m hm ho X);have HKB:=kf h.kb;have HR0:=kf h.here;have hRW:=h.lt;have hwW:=h.chg.size;obtain⟨g,hg⟩:∃ g,g=W.heap.size:=⟨_,rfl⟩
 have HG:=kf hg;have hgR:g≠R:=by omega
 have hgW:W.heap.size<=g:=by omega
 have hgw:w.heap.size<=g:=by omega
 obtain⟨l,hl0⟩:∃ l,l=bs.drop p:=⟨_,rfl⟩
 have hll:l.length<=500000:=by rw [hl0,List.length_drop];omega
 have hlb:∀ d∈l,d<256:=fun d hd=>hb d (by rw [hl0] at hd;exact List.mem_of_mem_drop hd);obtain⟨ws,hws⟩:∃ ws,ws=l.take (rgs l):=⟨_,rfl⟩
 have hwl:ws.length<=500000:=by rw [hws,List.length_take];omega
 have HWB2:=kf (show ∀ d∈ws,d<256 from fun d hd=>hlb d (by rw [hws] at hd;exact List.mem_of_mem_take hd));have HW0:=kf (show 0 ∉ ws from fun hd=>by rw [hws] at hd;exact absurd (y6g l 0 hd) (by decide));obtain⟨L,hL⟩:∃ L,L=p+rgs l:=⟨_,rfl⟩
 have HTO:=kf (show y9o last p l=if z99 last l≠0 then(6,[],0) else((z5g ws).1,(z5g ws).2,L) from by unfold y9o;rw [hws,hL]);rw [<- hl0] at HRU ⊢;rw [<- hws,<- hL] at HRU;have HTR:=kf (fun(X X':World) (k k' deep deep':Nat) (out out':List Nat) (h:TxR W w A bs c last R g 0 k deep out X) (h':RD X w X' A bs.length c last R k' out') (hb:∀ d∈out',d<256)=>TxR.step (deep':=deep') h h' hgR hb);have HT0:=kf (show TxR W w A bs c last R g 0 p 0 [] (W.alloc (.cells #[.int .i64 0,.int .i64 0,.string ⟨#[]⟩,.slice none 0 0] 25)) from⟨HR0.out.alloc _,by rw [HG.out];exact Blk.new _ _ _,fun d hd=>by cases hd⟩);clear h hS hb hc hg hwW hRW hl0 hll hlb hws hL hl hp hn0;rcases y2m last l with hE|hE
 case inr =>
  rw [hE] at HRU HTO;clear hE;obtain⟨t,ht⟩:∃ t,sb ws=t:=⟨_,rfl⟩
  rw [ht] at HRU;clear ht;go_enter Tryz.func188,Tryz.ntmps188;go_wp2;go_step3;go_wp2_with (go_at_call 209;refine(HRU.out _ HT0.out.1.here).mono ?_;rintro e w3 ⟨rfl,h3⟩;have HT3:=kf (HTR.out _ _ _ _ _ 0 _ _ HT0.out h3 HT0.out.2.2);clear h3;obtain⟨r0,r1,r2,r3,z0,z1,z2,z3⟩:=HT3.out.2.1.cl4;rw [HG.out] at r0 r1 r2 r3 z0 z1 z2 z3);all_goals (try simp only [Exit.noGoto_ret])
  refine bodyPost_ret (v:=.tuple #[.agg #[.int .i64 0,.int .i64 0,.string ⟨#[]⟩,.slice none 0 0],.int .i64 6]) (by simp [results,Tryz.results188,go_sem,r0,r1,r2,r3]) rfl ?_;have HTO6:=kf (HTO.out.trans (if_pos (show(6:Int)≠0 by decide)));refine⟨by rw [HTO6.out];rfl,L,fun e=>absurd (by rw [HTO6.out] at e;exact e) (show ¬(6:Int)=0 by decide),?_⟩;exact(HT3.out.1.re.set4 (by have h9:=HG.out;omega) (Nat.le_refl _) (by have h9:=HG.out;omega) _ _ _ _).back HKB.out
 rw [hE] at HRU HTO;clear hE;have HTOK:=kf (show y9o last p l=((nmR [] ws).1,(nmR [] ws).2,L) from by rw [HTO.out,if_neg (fun h9=>h9 rfl),v4l]);go_enter Tryz.func188,Tryz.ntmps188;go_wp2;refine z9f (NmJ W w A bs c last R g L ws) rfl ?pass0 ?first
 case first =>
  intro hpass;have HPass:=kf hpass;clear hpass;obtain⟨t,ht⟩:∃ t,sb ws=t:=⟨_,rfl⟩
  have HTS:=kf ht;rw [ht] at HRU;clear ht
  ·go_wp2_with (go_at_call 209;refine(HRU.out _ HT0.out.1.here).mono ?_;rintro e w3 ⟨rfl,h3⟩;have HT3:=kf (HTR.out _ _ _ _ _ 0 _ _ HT0.out h3 HT0.out.2.2);clear h3);go_step3;rename_i hK;refine hK _ _ (HPass.out _ _ _ ⟨rfl,rfl,rfl,by rw [HG.out];rfl,ws,[],by rw [HTS.out];rfl,rfl,by simpa using hwl,kf ⟨HT3.out,rfl,by simp,HW0.out,HWB2.out⟩⟩)
 case pass0 =>
  intro n x w1 hx;obtain⟨h1,h2,h3,h4,m,out,h5,rfl,hm,HT⟩:=hx;refine y67 h1 h2 h3 h4 h5 (C:=fun y=>Code.wp _ _ _ y w1) ?_;intro f;clear h1 h2 h3 h4 h5;have HX:=kf HT.out.2;have HT1:=kf HT.out.1;have HCT1:=kf (HCT.out m HX.out.2.2.2 (by omega));rw [show(35:UInt8).toNat=35 from rfl] at HCT1;obtain⟨t,ht⟩:∃ t,sb m=t:=⟨_,rfl⟩
  rw [ht] at HCT1 ⊢;clear ht HT HCT;cases hf:(z47 35 m).2.2 with
  |false =>
   have hcb:=v5k hf;have hnm:=z86 (c:=35) (m:=m);rw [hcb] at HCT1 hnm;simp only at HCT1 hnm;have HTO1:=kf (show nmR [] ws=if 127<(out++m).length then(17,[]) else(0,out++m) from by rw [HX.out.1,v4m hnm HX.out.2.1 HX.out.2.2.1]);have HWS1:=kf (fun X hX=>HWS.out X out L m hX HX.out.2.2.2 (by omega) (by omega));obtain⟨t1,ht1⟩:∃ t1,sb m=t1:=⟨_,rfl⟩
   rw [ht1] at HCT1 HWS1;obtain⟨N,hN⟩:∃ N,(out++m).length=N:=⟨_,rfl⟩
   have hN2:N<=500000:=by rw [<- hN,List.length_append];exact hm
   have HLE1:=kf (fun X hX=>HLE.out X (out++m) L hX);have HNN:=kf hN;rw [hN] at HLE1 HTO1;have HMB:=kf (show ∀ d∈out++m,d<256 from fun d hd=>by rcases List.mem_append.1 hd with h9|h9;exact HT1.out.2.2 d h9;exact HX.out.2.2.2 d h9);clear hf hcb hnm ht1 hN;by_cases h127:127<N
   ·have HTO2:=kf (HTO1.out.trans (if_pos h127));have d1:decide ((127:Int)<N)=true:=by simp;omega
    go_wp2_with first
     |(go_at_call 210;refine(HCT1.out _).mono ?_;rintro e w2 ⟨rfl,hc2⟩;have HT2:=kf (HT1.out.call hc2);clear hc2)
     |(go_at_call 136;refine(HWS1.out _ HT2.out.1.here).mono ?_;rintro e w3 ⟨rfl,h3⟩;have HT3:=kf (HTR.out _ _ _ _ _ 0 _ _ HT2.out h3 HMB.out);clear h3;obtain⟨r0,r1,r2,r3,z0,z1,z2,z3⟩:=HT3.out.2.1.cl4)
     |(go_at_call 146;refine(HLE1.out _ HT3.out.1.here).mono ?_;rintro e w4 ⟨rfl,rfl⟩)
    all_goals (try simp only [z1t])
    refine bodyPost_ret (v:=.tuple #[.agg #[.int .i64 0,.int .i64 0,.string ⟨#[]⟩,.slice none 0 0],.int .i64 17]) (by simp [results,Tryz.results188,go_sem,r0,r1,r2,r3]) rfl ?_;refine⟨by rw [HTOK.out,HTO2.out];rfl,L,fun e=>absurd (by rw [HTOK.out,HTO2.out] at e;exact e) (show ¬(17:Int)=0 by decide),?_⟩;exact(HT3.out.1.re.set4 hgR hgW hgw _ _ _ _).back HKB.out
   ·have HTO2:=kf (HTO1.out.trans (if_neg h127));have d1:decide ((127:Int)<N)=false:=by simp;omega
    have HBU1:=kf (fun X hX=>HBU.out X (out++m) L hX HMB.out (by rw [HNN.out];omega));obtain⟨u,hu⟩:∃ u,sb (out++m)=u:=⟨_,rfl⟩
    have HU:=kf hu;rw [hu] at HBU1;clear hu
    go_wp2_with first
     |(go_at_call 210;refine(HCT1.out _).mono ?_;rintro e w2 ⟨rfl,hc2⟩;have HT2:=kf (HT1.out.call hc2);clear hc2)
     |(go_at_call 136;refine(HWS1.out _ HT2.out.1.here).mono ?_;rintro e w3 ⟨rfl,h3⟩;have HT3:=kf (HTR.out _ _ _ _ _ 0 _ _ HT2.out h3 HMB.out);clear h3)
     |(go_at_call 146;refine(HLE1.out _ HT3.out.1.here).mono ?_;rintro e w4 ⟨rfl,rfl⟩)
     |(go_at_call 205;refine(HBU1.out _ HT3.out.1.here).mono ?_;rintro e w5 ⟨rfl,h5⟩;obtain⟨r0,r1,r2,r3,z0,z1,z2,z3⟩:=(h5.kb _ _ _ hgR (by decide) HT3.out.2.1).cl4;have HRE:=kf (h5.back HT3.out.1.kb);clear h5)
    all_goals (try simp only [z1t])
    refine bodyPost_ret (v:=.tuple #[.agg #[.int .i64 5,.int .i64 0,.string u,.slice none 0 0],.int .i64 0]) (by simp [results,Tryz.results188,go_sem,r0,r1,r2,r3]) rfl ?_;refine⟨by rw [HTOK.out,HTO2.out,<- HU.out];rfl,L,fun e=>by rw [HTOK.out],?_⟩;exact(HRE.out.set4 hgR hgW hgw _ _ _ _).back HKB.out
  |true =>
   have hcb:=v2f hf;have hnm:=z86 (c:=35) (m:=m);rw [hf] at HCT1;obtain⟨a,ha⟩:∃ a,(z47 35 m).1=a:=⟨_,rfl⟩
   obtain⟨d,hd⟩:∃ d,(z47 35 m).2.1=d:=⟨_,rfl⟩
   rw [ha,hd] at HCT1 hcb;rw [ha] at hnm;have hml:m.length=a.length+(d.length+1):=by rw [hcb,List.length_append,List.length_cons]
   have hab:∀ y∈a,y<256:=fun y hy=>HX.out.2.2.2 y (by rw [hcb];exact List.mem_append.2 (.inl hy));have hdb:∀ y∈d,y<256:=fun y hy=>HX.out.2.2.2 y (by rw [hcb];exact List.mem_append.2 (.inr (List.mem_cons_of_mem _ hy)));have ha0:0 ∉ a:=fun hy=>HX.out.2.2.1 (by rw [hcb];exact List.mem_append.2 (.inl hy));have hd0:0 ∉ d:=fun hy=>HX.out.2.2.1 (by rw [hcb];exact List.mem_append.2 (.inr (List.mem_cons_of_mem _ hy)));have HWS1:=kf (fun X hX=>HWS.out X out L a hX hab (by omega) (by omega));have HCO1:=kf (fun X=>HCO.out d hdb (by omega) X);have HOB:=kf (show ∀ y∈out++a,y<256 from fun y hy=>by rcases List.mem_append.1 hy with h9|h9;exact HT1.out.2.2 y h9;exact hab y h9);have HDB:=kf hdb;have HML:=kf hml;have hol:(out++a).length=out.length+a.length:=List.length_append;have HWBo:=kf (fun X y hX=>HWB.out X (out++a) L y hX (by omega));have HOL:=kf hol;obtain⟨u,hu⟩:∃ u,sb a=u:=⟨_,rfl⟩
   have hsd:=z01 d;have hdrop:=y0n (l:=d) 2 d.length rfl;obtain⟨v,hv⟩:∃ v,sb d=v:=⟨_,rfl⟩
   rw [hu,hv] at HCT1;rw [hu] at HWS1;rw [hv] at HCO1 hsd hdrop;have HC0:=kf hcb;have hm3:out.length+a.length+d.length+1<=500000:=by omega
   cases hcB:z90 d with
   |false =>
    have HTO2:=kf (show nmR [] ws=(17,[]) from by rw [HX.out.1,HC0.out,v4n hnm hcB]);rw [hcB] at HCO1;obtain⟨y,hy⟩:∃ y,z8z d=y:=⟨_,rfl⟩
    rw [hy] at HCO1;clear hcb hnm ha hd hml hab hdb ha0 hd0 hu hv hf hol hsd hdrop hcB hy
    go_wp2_with first
     |(go_at_call 210;refine(HCT1.out _).mono ?_;rintro e w2 ⟨rfl,hc2⟩;have HT2:=kf (HT1.out.call hc2);clear hc2)
     |(go_at_call 136;refine(HWS1.out _ HT2.out.1.here).mono ?_;rintro e w3 ⟨rfl,h3⟩;have HT3:=kf (HTR.out _ _ _ _ _ 0 _ _ HT2.out h3 HOB.out);clear h3;obtain⟨r0,r1,r2,r3,z0,z1,z2,z3⟩:=HT3.out.2.1.cl4)
     |(go_at_call 211;refine(HCO1.out _).mono ?_;rintro e w4 ⟨rfl,rfl⟩)
    all_goals (try simp only [z1t])
    refine bodyPost_ret (v:=.tuple #[.agg #[.int .i64 0,.int .i64 0,.string ⟨#[]⟩,.slice none 0 0],.int .i64 17]) (by simp [results,Tryz.results188,go_sem,r0,r1,r2,r3]) rfl ?_;refine⟨by rw [HTOK.out,HTO2.out];rfl,L,fun e=>absurd (by rw [HTOK.out,HTO2.out] at e;exact e) (show ¬(17:Int)=0 by decide),?_⟩;exact(HT3.out.1.re.set4 hgR hgW hgw _ _ _ _).back HKB.out
   |true =>
    obtain⟨k2,k0,kE⟩:=v16 (out:=out) hnm hcB;have HTO2:=kf (show nmR [] ws=nmR (out++a++[z8z d]) (d.drop 2) from by rw [HX.out.1,HC0.out,kE]);rw [hcB] at HCO1;have hy256:=v2g d;obtain⟨y,hy⟩:∃ y,z8z d=y:=⟨_,rfl⟩
    rw [hy] at HCO1 hy256 k0 HTO2
    have HN0:=kf (show 0 ∉ out++a++[y] from fun h9=>by
     rcases List.mem_append.1 h9 with h9|h9
     ·rcases List.mem_append.1 h9 with h9|h9
      ·exact HX.out.2.1 h9
      ·exact ha0 h9
     ·exact k0 (List.mem_singleton.1 h9).symm)
    have HD0:=kf (show 0 ∉ d.drop 2 from fun h9=>hd0 (List.mem_of_mem_drop h9));have HDB2:=kf (show ∀ z∈d.drop 2,z<256 from fun z hz=>HDB.out z (List.mem_of_mem_drop hz));obtain⟨b,hb2⟩:∃ b,sb (d.drop 2)=b:=⟨_,rfl⟩
    rw [hb2] at hdrop;have HB2:=kf hb2;obtain⟨D,hD⟩:∃ D,d.length=D:=⟨_,rfl⟩
    have HDL:=kf hD;have HD2:=kf (show(d.drop 2).length=D-2 from by rw [List.length_drop,hD]);have HMM:=kf (show m.length=a.length+(D+1) from by rw [hml,hD]);rw [hD] at hsd hdrop k2 hm3;have i2:(2:Int)<=D:=by omega
    clear hcb hnm ha hd hml hab hdb ha0 hd0 hu hv hf hol hcB hy k0 kE hb2 hD
    go_wp2_with first
     |(go_at_call 210;refine(HCT1.out _).mono ?_;rintro e w2 ⟨rfl,hc2⟩;have HT2:=kf (HT1.out.call hc2);clear hc2)
     |(go_at_call 136;refine(HWS1.out _ HT2.out.1.here).mono ?_;rintro e w3 ⟨rfl,h3⟩;have HT3:=kf (HTR.out _ _ _ _ _ 0 _ _ HT2.out h3 HOB.out);clear h3)
     |(go_at_call 211;refine(HCO1.out _).mono ?_;rintro e w4 ⟨rfl,rfl⟩)
     |(go_at_call 172;refine(HWBo.out _ y HT3.out.1.here).mono ?_;rintro e w5 ⟨rfl,h5⟩;have HT5:=kf (HTR.out _ _ _ _ _ 0 _ _ HT3.out h5 (z1c HOB.out hy256));clear h5)
    go_step3;exact⟨(d.drop 2).length+1,by rw [HMM.out,HD2.out];omega,rfl,rfl,rfl,rfl,rfl,d.drop 2,out++a++[y],by rw [HB2.out];rfl,rfl,by rw [HD2.out,List.length_append,HOL.out];simp only [List.length_cons,List.length_nil];omega,kf ⟨HT5.out,HTO2.out,HN0.out,HD0.out,HDB2.out⟩⟩
theorem z6n (k:Nat) (n er:Int) (s:ByteArray) (w:World):Calls Tryz.prog 183 #[.agg #[.int .i64 (k:Nat),.int .i64 n,.string s,.slice none 0 0],.int .i64 er] w
  fun e w'=>e=.returned (.tuple #[.agg #[.int .i64 1,.int .i64 0,.int .i64 0,.int .i64 (k:Nat),.int .i64 n,.string s,.slice none 0 0,.string ⟨#[]⟩],.int .i64 er])/\Chg NoS w w':=by
 go_enter Tryz.func183,Tryz.ntmps183;go_wp2_with fail;refine bodyPost_ret (v:=.tuple #[.agg #[.int .i64 1,.int .i64 0,.int .i64 0,.int .i64 (k:Nat),.int .i64 n,.string s,.slice none 0 0,.string ⟨#[]⟩],.int .i64 er]) (by simp [results,Tryz.results183,go_sem]) rfl ?_;exact⟨rfl,((Chg.refl _ _).alloc _).alloc _⟩
def PTk (V w:World) (R:Nat) (r:Int × Tkn) (e:Ending) (W:World):Prop :=
 ∃ (t:Tkn) (p:Nat),e=.returned (.tuple #[z78 t,.int .i64 r.1])/\(r.1=0->t=⟨r.2.kind,0,0,r.2.vk,r.2.vn,r.2.vs,r.2.s⟩/\p=r.2.to)/\RE V w W R p
def noK:Tkn:=⟨0,0,0,0,0,[],[]⟩
theorem v8y:z78 noK=.agg #[.int .i64 0,.int .i64 0,.int .i64 0,.int .i64 0,.int .i64 0,.string ⟨#[]⟩,.slice none 0 0,.string ⟨#[]⟩]:=rfl
theorem PTk.err {V w:World} {R p:Nat} {r:Int × Tkn} {er:Int} {W:World} (h:r.1=er) (he:er≠0) (hR:RE V w W R p):PTk V w R r (.returned (.tuple #[.agg #[.int .i64 0,.int .i64 0,.int .i64 0,.int .i64 0,.int .i64 0,.string ⟨#[]⟩,.slice none 0 0,.string ⟨#[]⟩],.int .i64 er])) W :=
 ⟨noK,p,by rw [h,v8y],fun e=>absurd (h.symm.trans e) he,hR⟩
def z7h (last:Bool) (f p:Nat) (l:List Nat):Int × Tkn:=if l.head?=some 62 then(0,⟨5,f,p+1,0,0,[],[]⟩) else if l=[]/\last=false then(6,noT f) else(11,noT f)
theorem y1e {V w W:World} {A:Option Addr} {bs:List Nat} {c R p:Nat} {last:Bool} {out:List Nat} (h:RD V w W A bs.length c last R p out) (hS:Src w 1 A bs.length c (z08 bs)) (hl:bs.length<=1000000) (hc:bs.length<=c) (hp:p<=bs.length) (f:Nat) :
  Calls Tryz.prog 187 #[.pointer (some ⟨R,0,none⟩)] W (PTk V w R (z7h last f p (bs.drop p))):=by
 have HKB:=kf h.kb;have HR0:=kf h.here;have hRW:=h.lt;have hwW:=h.chg.size;obtain⟨g,hg⟩:∃ g,g=W.heap.size:=⟨_,rfl⟩
 have HG:=kf hg;have hgR:g≠R:=by omega
 have hgW:W.heap.size<=g:=by omega
 have hgw:w.heap.size<=g:=by omega
 have HBW:=kf (show Blk (W.alloc (.cells #[.int .i64 0,.int .i64 0,.int .i64 0,.int .i64 0,.int .i64 0,.string ⟨#[]⟩,.slice none 0 0,.string ⟨#[]⟩] 131)) g 131 #[.int .i64 0,.int .i64 0,.int .i64 0,.int .i64 0,.int .i64 0,.string ⟨#[]⟩,.slice none 0 0,.string ⟨#[]⟩] from by rw [hg];exact Blk.new _ _ _);have HPE:=kf (fun X (hX:RD X w X A bs.length c last R bs.length out)=>z6p hX 62);have HPN:=kf (fun X x (hX:RD X w X A bs.length c last R p out) (hx:bs[p]?=some x) (hy:x≠62)=>z8j hX hS hl hc hx 62 hy);have HPA:=kf (fun X (hX:RD X w X A bs.length c last R p out) (hx:bs[p]?=some 62)=>z8k hX hS hl hc hx);have HCU:=kf (fun X k (hX:RD X w X A bs.length c last R k out)=>z4f hX 11);have HW1:=kf (HR0.out.alloc (.cells #[.int .i64 0,.int .i64 0,.int .i64 0,.int .i64 0,.int .i64 0,.string ⟨#[]⟩,.slice none 0 0,.string ⟨#[]⟩] 131));obtain⟨W1,hW1⟩:∃ W1,W1=W.alloc (.cells #[.int .i64 0,.int .i64 0,.int .i64 0,.int .i64 0,.int .i64 0,.string ⟨#[]⟩,.slice none 0 0,.string ⟨#[]⟩] 131):=⟨_,rfl⟩
 rw [<- hW1] at HW1 HBW;have HWW:=kf hW1;clear h hS hg hwW hRW hW1;by_cases hpn:p=bs.length
 ·have HD:=kf (show z7h last f p (bs.drop p)=if last=false then(6,noT f) else(11,noT f) from by
   rw [hpn,List.drop_of_length_le (Nat.le_refl _)];unfold z7h;rw [if_neg (by simp)];cases last<;>simp)
  have HCU1:=kf (fun X hX=>HCU.out X p hX);have HPE1:=kf (show ∀ X,RD X w X A bs.length c last R p out->Calls Tryz.prog 185 #[.pointer (some ⟨R,0,none⟩),.int .u8 (62:Nat)] X fun e W'=>e=.returned (.bool false)/\RD X w W' A bs.length c last R p out from fun X hX=>by rw [hpn] at hX ⊢;exact HPE.out X hX);have k2:((p:Int)==bs.length)=true:=by simp;omega
  have k3:(p==bs.length)=true:=by simp;omega
  obtain⟨er,her⟩:∃ er,er=(if last then(11:Int) else 6):=⟨_,rfl⟩
  have HER:=kf (show(z7h last f p (bs.drop p)).1=er/\er≠0 from by rw [HD.out,her];cases last<;>exact⟨rfl,by decide⟩);rw [<- her] at HCU1;clear hpn her;go_enter Tryz.func187,Tryz.ntmps187;go_upto_region 1 with fail;rw [<- HWW.out,<- HG.out];go_upto_region 3 with(go_at_call 185;refine(HPE1.out _ HW1.out.here).mono ?_;rintro e w3 ⟨rfl,h3⟩;obtain⟨c2,c3,c4,f3⟩:=h3.cells;have HB3:=kf (h3.kb _ _ _ hgR (by decide) HBW.out);have HR3:=kf (h3.base (HW1.out.kb.trans h3.kb));clear h3);go_quiet (fail);obtain⟨r0,r1,r2,r3,r4,r5,r6,r7,z0,z1,z2,z3,z4,z5,z6,z7⟩:=(HB3.out.drewN nq).cl8;go_wp2_with (go_at_call 182;refine(HCU1.out _ (HR3.out.drewN nq).here).mono ?_;rintro e w4 ⟨rfl,rfl⟩);refine bodyPost_ret (v:=.tuple #[.agg #[.int .i64 0,.int .i64 0,.int .i64 0,.int .i64 0,.int .i64 0,.string ⟨#[]⟩,.slice none 0 0,.string ⟨#[]⟩],.int .i64 er]) (by simp [results,Tryz.results187,go_sem,r0,r1,r2,r3,r4,r5,r6,r7]) rfl ?_;exact PTk.err HER.out.1 HER.out.2 (((HR3.out.drewN nq).re.set8 hgR hgW hgw _ _ _ _ _ _ _ _).back HKB.out)
 obtain⟨x,hx,hd⟩:=z19 (bs:=bs) (k:=p) (by omega);by_cases h62:x=62
 ·subst h62;have HD:=kf (show z7h last f p (bs.drop p)=(0,⟨5,f,p+1,0,0,[],[]⟩) from by rw [hd];exact if_pos rfl);have HPA1:=kf (fun X hX=>HPA.out X hX hx);clear hx hd hpn;go_enter Tryz.func187,Tryz.ntmps187;go_upto_region 1 with fail;rw [<- HWW.out,<- HG.out];go_wp2_with (go_at_call 185;refine(HPA1.out _ HW1.out.here).mono ?_;rintro e w3 ⟨rfl,h3⟩;have HB3:=kf (h3.kb _ _ _ hgR (by decide) HBW.out);have HR3:=kf (h3.base (HW1.out.kb.trans h3.kb));clear h3;obtain⟨r0,r1,r2,r3,r4,r5,r6,r7,z0,z1,z2,z3,z4,z5,z6,z7⟩:=HB3.out.cl8);refine bodyPost_ret (v:=.tuple #[.agg #[.int .i64 5,.int .i64 0,.int .i64 0,.int .i64 0,.int .i64 0,.string ⟨#[]⟩,.slice none 0 0,.string ⟨#[]⟩],.int .i64 0]) (by simp [results,Tryz.results187,go_sem,r0,r1,r2,r3,r4,r5,r6,r7]) rfl ?_;exact⟨⟨5,0,0,0,0,[],[]⟩,p+1,by rw [HD.out];rfl,fun _=>by rw [HD.out];exact⟨rfl,rfl⟩,(HR3.out.re.set8 hgR hgW hgw _ _ _ _ _ _ _ _).back HKB.out⟩
 ·have HD:=kf (show(z7h last f p (bs.drop p)).1=11 from by rw [hd];unfold z7h;rw [if_neg (by simpa using h62),if_neg (by simp)]);have HPN1:=kf (fun X hX=>HPN.out X x hX hx h62);have k2:((p:Int)==bs.length)=false:=by simp;omega
  have k3:(p==bs.length)=false:=by simp;omega
  clear hx hd hpn;go_enter Tryz.func187,Tryz.ntmps187;go_upto_region 1 with fail;rw [<- HWW.out,<- HG.out];go_upto_region 3 with(go_at_call 185;refine(HPN1.out _ HW1.out.here).mono ?_;rintro e w3 ⟨rfl,h3⟩;obtain⟨c2,c3,c4,f3⟩:=h3.cells;have HB3:=kf (h3.kb _ _ _ hgR (by decide) HBW.out);have HR3:=kf (h3.base (HW1.out.kb.trans h3.kb));clear h3);go_quiet (fail);obtain⟨r0,r1,r2,r3,r4,r5,r6,r7,z0,z1,z2,z3,z4,z5,z6,z7⟩:=(HB3.out.drewN nq).cl8;go_wp2_with fail;refine bodyPost_ret (v:=.tuple #[.agg #[.int .i64 0,.int .i64 0,.int .i64 0,.int .i64 0,.int .i64 0,.string ⟨#[]⟩,.slice none 0 0,.string ⟨#[]⟩],.int .i64 11]) (by simp [results,Tryz.results187,go_sem,r0,r1,r2,r3,r4,r5,r6,r7]) rfl ?_;exact PTk.err HD.out (by decide) (((HR3.out.drewN nq).re.set8 hgR hgW hgw _ _ _ _ _ _ _ _).back HKB.out)
def y56 (last:Bool) (f p x:Nat) (l:List Nat):Int × Tkn :=
 if z99 last l≠0 then(6,noT f)
 else if y5a x then
  if (z0j (l.take (rgs l))).1≠0 then((z0j (l.take (rgs l))).1,noT f) else(0,⟨1,f,p+rgs l,(z0j (l.take (rgs l))).2.1,(z0j (l.take (rgs l))).2.2,[],[]⟩)
 else(0,⟨6,f,p+rgs l,0,0,[],l.take (rgs l)⟩)
theorem y6z {V w W:World} {A:Option Addr} {bs:List Nat} {c R p x:Nat} {last:Bool} (h:RD V w W A bs.length c last R p []) (hS:Src w 1 A bs.length c (z08 bs)) (hl:bs.length<=500000) (hc:bs.length<=c) (hb:∀ d∈bs,d<256) (hx:bs[p]?=some x) (hr:y0c x=true) (f:Nat) :
  Calls Tryz.prog 189 #[.pointer (some ⟨R,0,none⟩)] W (PTk V w R (y56 last f p x (bs.drop p))):=by
 have hp:p<bs.length:=(List.getElem?_eq_some_iff.1 hx).1;have hx256:x<256:=hb x (List.mem_of_getElem? hx);have HRU:=kf (fun X (hX:RD X w X A bs.length c last R p [])=>y2v hX hS hl hc (by omega) (by omega));have HCR:=kf (fun X=>y97 x hx256 X);have HVA:=kf (fun k n er X=>z6n k n er ⟨#[]⟩ X);have HKB:=kf h.kb;have HR0:=kf h.here;have hRW:=h.lt;have hwW:=h.chg.size;obtain⟨g,hg⟩:∃ g,g=W.heap.size:=⟨_,rfl⟩
 have HG:=kf hg;have hgR:g≠R:=by omega
 have hgW:W.heap.size<=g:=by omega
 have hgw:w.heap.size<=g:=by omega
 have HBW:=kf (show Blk (W.alloc (.cells #[.int .i64 0,.int .i64 0,.int .i64 0,.int .i64 0,.int .i64 0,.string ⟨#[]⟩,.slice none 0 0,.string ⟨#[]⟩] 131)) g 131 #[.int .i64 0,.int .i64 0,.int .i64 0,.int .i64 0,.int .i64 0,.string ⟨#[]⟩,.slice none 0 0,.string ⟨#[]⟩] from by rw [hg];exact Blk.new _ _ _);have HW1:=kf (HR0.out.alloc (.cells #[.int .i64 0,.int .i64 0,.int .i64 0,.int .i64 0,.int .i64 0,.string ⟨#[]⟩,.slice none 0 0,.string ⟨#[]⟩] 131));obtain⟨W1,hW1⟩:∃ W1,W1=W.alloc (.cells #[.int .i64 0,.int .i64 0,.int .i64 0,.int .i64 0,.int .i64 0,.string ⟨#[]⟩,.slice none 0 0,.string ⟨#[]⟩] 131):=⟨_,rfl⟩
 rw [<- hW1] at HW1 HBW;have HWW:=kf hW1;obtain⟨l,hl0⟩:∃ l,l=bs.drop p:=⟨_,rfl⟩
 obtain⟨m,hm⟩:∃ m,l=x::m:=by
  obtain⟨y,hy,hd⟩:=z19 (bs:=bs) hp;rw [hx] at hy;injection hy with hy
  exact⟨bs.drop (p+1),by rw [hl0,hd,hy]⟩
 have hlb:∀ d∈l,d<256:=fun d hd=>hb d (by rw [hl0] at hd;exact List.mem_of_mem_drop hd);have hll:l.length<=500000:=by rw [hl0,List.length_drop];omega
 obtain⟨ws,hws⟩:∃ ws,ws=l.take (rgs l):=⟨_,rfl⟩
 have hwsx:ws=x::m.take (rgs m):=by rw [hws,hm,z9v hr,List.take_succ_cons]
 have hwsb:∀ d∈ws,d<256:=fun d hd=>hlb d (by rw [hws] at hd;exact List.mem_of_mem_take hd);have hwsl:ws.length<=500000:=by rw [hws,List.length_take];omega
 have hsl:=z6f ws hwsb;have hsz:=z01 ws;have HPA:=kf (fun X=>y70 (sb ws) X (by rw [z01];exact hwsl));rw [hsl] at HPA;obtain⟨L,hL⟩:∃ L,L=p+rgs l:=⟨_,rfl⟩
 have HB:=kf (show y56 last f p x l=if z99 last l≠0 then(6,noT f) else if y5a x then(if (z0j ws).1≠0 then((z0j ws).1,noT f) else(0,⟨1,f,L,(z0j ws).2.1,(z0j ws).2.2,[],[]⟩)) else(0,⟨6,f,L,0,0,[],ws⟩) from by unfold y56;rw [hws,hL]);rw [<- hl0] at HRU ⊢;rw [<- hws,<- hL] at HRU;obtain⟨t,ht⟩:∃ t,sb ws=t:=⟨_,rfl⟩
 have HTS:=kf ht;rw [ht] at HRU HPA hsl hsz;have g0:∀ k:0<t.size,(t[0]'k).toNat=x:=fun k=>by rw [z5t,hsl,hwsx];rfl
 obtain⟨N,hN⟩:∃ N,t.size=N:=⟨_,rfl⟩
 have hN0:0<N:=by rw [<- hN,hsz,hwsx];exact Nat.zero_lt_succ _
 have hN1:(0:Int)<N:=by omega
 obtain⟨er0,K,n,hNu⟩:∃ er0 K n,z0j ws=(er0,K,n):=⟨_,_,_,rfl⟩
 rw [hNu] at HB
 have HPA1:=kf (fun X=>(show Calls Tryz.prog 213 #[.string t] X fun e w'=>e=.returned (.tuple #[.agg #[.int .i64 (K:Nat),.int .i64 n,.string ⟨#[]⟩,.slice none 0 0],.int .i64 er0])/\Chg NoS X w' from by
  have h9:=HPA.out X;unfold PaTo at h9;rw [hNu] at h9;exact h9))
 have hw32:IntKind.i32.wrap (x:Int)=(x:Int):=by rw [IntKind.wrap_i32];omega
 clear h hS hg hwW hRW hW1 hl0 hm hlb hll hws hwsx hwsb hwsl hsl hsz hL ht hb hx hNu HPA hl hc hp;rcases y2m last l with hE|hE
 case inr =>
  rw [hE] at HRU HB;clear hE;have HB2:=kf (HB.out.trans (if_pos (show(6:Int)≠0 by decide)));go_enter Tryz.func189,Tryz.ntmps189;go_upto_region 1 with fail;rw [<- HWW.out,<- HG.out];go_wp2_with (go_at_call 209;refine(HRU.out _ HW1.out.here).mono ?_;rintro e w3 ⟨rfl,h3⟩;have HB3:=kf (h3.kb _ _ _ hgR (by decide) HBW.out);have HR3:=kf (h3.base (HW1.out.kb.trans h3.kb));clear h3;obtain⟨r0,r1,r2,r3,r4,r5,r6,r7,z0,z1,z2,z3,z4,z5,z6,z7⟩:=HB3.out.cl8);refine bodyPost_ret (v:=.tuple #[.agg #[.int .i64 0,.int .i64 0,.int .i64 0,.int .i64 0,.int .i64 0,.string ⟨#[]⟩,.slice none 0 0,.string ⟨#[]⟩],.int .i64 6]) (by simp [results,Tryz.results189,go_sem,r0,r1,r2,r3,r4,r5,r6,r7]) rfl ?_;exact PTk.err (by rw [HB2.out]) (by decide) ((HR3.out.re.set8 hgR hgW hgw _ _ _ _ _ _ _ _).back HKB.out)
 rw [hE] at HRU HB;clear hE;have HB1:=kf (HB.out.trans (if_neg (fun h9=>h9 rfl)));cases hNm:y5a x with
 |false =>
  rw [hNm] at HCR HB1;have HB2:=kf (HB1.out.trans (if_neg (by decide)));clear hNm;go_enter Tryz.func189,Tryz.ntmps189;go_upto_region 1 with fail;rw [<- HWW.out,<- HG.out]
  go_wp2_with first
   |(go_at_call 209;refine(HRU.out _ HW1.out.here).mono ?_;rintro e w3 ⟨rfl,h3⟩;have HB3:=kf (h3.kb _ _ _ hgR (by decide) HBW.out);have HR3:=kf (h3.base (HW1.out.kb.trans h3.kb));clear h3)
   |(go_at_call 212;refine(HCR.out _).mono ?_;rintro e w4 ⟨rfl,hc4⟩;have HR4:=kf (HR3.out.call hc4);have HB4:=kf (HB3.out.chg hc4 (fun h=>h));clear hc4;obtain⟨r0,r1,r2,r3,r4,r5,r6,r7,z0,z1,z2,z3,z4,z5,z6,z7⟩:=HB4.out.cl8)
  refine bodyPost_ret (v:=.tuple #[.agg #[.int .i64 6,.int .i64 0,.int .i64 0,.int .i64 0,.int .i64 0,.string ⟨#[]⟩,.slice none 0 0,.string t],.int .i64 0]) (by simp [results,Tryz.results189,go_sem,r0,r1,r2,r3,r4,r5,r6,r7]) rfl ?_;exact⟨⟨6,0,0,0,0,[],ws⟩,L,by rw [HB2.out,<- HTS.out];rfl,fun _=>by rw [HB2.out];exact⟨rfl,rfl⟩,(HR4.out.re.set8 hgR hgW hgw _ _ _ _ _ _ _ _).back HKB.out⟩
 |true =>
  rw [hNm] at HCR HB1;have HB2:=kf (HB1.out.trans (if_pos rfl));clear hNm;go_enter Tryz.func189,Tryz.ntmps189;go_upto_region 1 with fail;rw [<- HWW.out,<- HG.out]
  go_wp2_with first
   |(go_at_call 209;refine(HRU.out _ HW1.out.here).mono ?_;rintro e w3 ⟨rfl,h3⟩;have HB3:=kf (h3.kb _ _ _ hgR (by decide) HBW.out);have HR3:=kf (h3.base (HW1.out.kb.trans h3.kb));clear h3)
   |(go_at_call 212;refine(HCR.out _).mono ?_;rintro e w4 ⟨rfl,hc4⟩;have HR4:=kf (HR3.out.call hc4);have HB4:=kf (HB3.out.chg hc4 (fun h=>h));clear hc4)
   |(go_at_call 213;refine(HPA1.out _).mono ?_;rintro e w5 ⟨rfl,hc5⟩;have HR5:=kf (HR4.out.call hc5);have HB5:=kf (HB4.out.chg hc5 (fun h=>h));clear hc5)
   |(go_at_call 183;refine(HVA.out _ _ _ _).mono ?_;rintro e w6 ⟨rfl,hc6⟩;have HR6:=kf (HR5.out.call hc6);have HB6:=kf (HB5.out.chg hc6 (fun h=>h));clear hc6;obtain⟨r0,r1,r2,r3,r4,r5,r6,r7,z0,z1,z2,z3,z4,z5,z6,z7⟩:=HB6.out.cl8)
  refine bodyPost_ret (v:=.tuple #[.agg #[.int .i64 1,.int .i64 0,.int .i64 0,.int .i64 (K:Nat),.int .i64 n,.string ⟨#[]⟩,.slice none 0 0,.string ⟨#[]⟩],.int .i64 er0]) (by simp [results,Tryz.results189,go_sem,r0,r1,r2,r3,r4,r5,r6,r7]) rfl ?_;have HRF:=kf ((HR6.out.re.set8 hgR hgW hgw (.int .i64 1) (.int .i64 0) (.int .i64 0) (.int .i64 (K:Nat)) (.int .i64 n) (.string ⟨#[]⟩) (.slice none 0 0) (.string ⟨#[]⟩)).back HKB.out);by_cases he:er0=0
  ·have HB3:=kf (HB2.out.trans (if_neg (fun h9=>h9 he)));exact⟨⟨1,0,0,K,n,[],[]⟩,L,by rw [HB3.out,he];rfl,fun _=>by rw [HB3.out];exact⟨rfl,rfl⟩,HRF.out⟩
  ·have HB3:=kf (HB2.out.trans (if_pos he));exact⟨⟨1,0,0,K,n,[],[]⟩,L,by rw [HB3.out];rfl,fun h9=>absurd (by rw [HB3.out] at h9;exact h9) he,HRF.out⟩
theorem PTo.open_ {V w:World} {R kind:Nat} {r:Int × List Nat × Nat} {e:Ending} {W:World} (h:PTo V w R kind r e W) :
  ∃ (K:Nat) (vs:List Nat) (S:ByteArray) (p:Nat),Hid (S=sb vs)/\e=.returned (.tuple #[.agg #[.int .i64 (K:Nat),.int .i64 0,.string S,.slice none 0 0],.int .i64 r.1])/\Hid (r.1=0->K=kind/\vs=r.2.1/\p=r.2.2)/\RE V w W R p:=by
 obtain⟨he,p,hp,hR⟩:=h;by_cases h0:r.1=0
 ·refine⟨kind,r.2.1,sb r.2.1,p,rfl,?_,fun _=>⟨rfl,rfl,hp h0⟩,hR⟩;rw [he];unfold TkV;rw [if_pos h0]
 ·refine⟨0,[],⟨#[]⟩,p,rfl,?_,fun h9=>absurd h9 h0,hR⟩;rw [he];unfold TkV;rw [if_neg h0];rfl
theorem PTk.value {V w:World} {R f kind K p:Nat} {r:Int × List Nat × Nat} {q:Int × Tkn} {vs:List Nat} {S:ByteArray} {W:World} (h:q=if r.1≠0 then(r.1,noT f) else(0,⟨1,f,r.2.2,kind,0,r.2.1,[]⟩)) (hS:Hid (S=sb vs)) (hk:Hid (r.1=0->K=kind/\vs=r.2.1/\p=r.2.2)) (hR:RE V w W R p) :
  PTk V w R q (.returned (.tuple #[.agg #[.int .i64 1,.int .i64 0,.int .i64 0,.int .i64 (K:Nat),.int .i64 0,.string S,.slice none 0 0,.string ⟨#[]⟩],.int .i64 r.1])) W:=by
 by_cases h0:r.1=0
 ·obtain⟨rfl,rfl,rfl⟩:=hk.out h0;rw [if_neg (fun e=>e h0)] at h;subst h;exact⟨⟨1,0,0,K,0,r.2.1,[]⟩,r.2.2,by rw [h0,hS.out];rfl,fun _=>⟨rfl,rfl⟩,hR⟩
 ·rw [if_pos h0] at h;subst h;exact⟨⟨1,0,0,K,0,vs,[]⟩,p,by rw [hS.out];rfl,fun e=>absurd e h0,hR⟩
def tkR (last:Bool) (p:Nat):List Nat->Int × Tkn
 |[]=>(if last then 0 else 6,noT p)
 |x::l=>z1y last p x l
theorem v2s {last:Bool} {p:Nat} {l:List Nat} (h:¬l.head?=some 60):z1y last p 60 l=if (z2c last [] (p+1) l).1≠0 then((z2c last [] (p+1) l).1,noT p) else(0,⟨1,p,(z2c last [] (p+1) l).2.2,4,0,(z2c last [] (p+1) l).2.1,[]⟩):=v3x last p l h
theorem v3u (last:Bool) (p:Nat) (l:List Nat):z1y last p 62 l=z7h last p (p+1) l:=by
 unfold z7h;by_cases h:l.head?=some 62
 ·rw [v0b h,if_pos h]
 ·rw [if_neg h];by_cases h2:l=[]/\last=false
  ·rw [if_pos h2,v3s h2.1 h2.2]
  ·rw [if_neg h2,v3t h h2]
theorem v3v (last:Bool) (p:Nat) (l:List Nat):z1y last p 47 l=if (y9o last (p+1) l).1≠0 then((y9o last (p+1) l).1,noT p) else(0,⟨1,p,(y9o last (p+1) l).2.2,5,0,(y9o last (p+1) l).2.1,[]⟩):=by
 rw [v6m];unfold y9o z99;by_cases h:rgs l=l.length/\last=false
 ·rw [if_pos h,if_pos h,if_pos (show(6:Int)≠0 by decide),if_pos (show(6:Int)≠0 by decide)]
 ·rw [if_neg h,if_neg h,if_neg (show ¬(0:Int)≠0 by decide)]
theorem v0a {last:Bool} {p x:Nat} {l:List Nat} (hr:y0c x=true):z1y last p x l=y56 last p p x (x::l):=by
 have hd:z4p x=false:=by
  unfold y0c at hr;cases h:z4p x with
  |false=>rfl
  |true=>rw [h] at hr;cases h2:z3s x<;>rw [h2] at hr<;>cases hr
 have hne:∀ k,z4p k=true->x≠k:=fun k hk e=>by rw [e,hk] at hd;cases hd
 rw [y29 (hne 91 rfl) (hne 93 rfl) (hne 60 rfl) (hne 62 rfl) (hne 40 rfl) (hne 47 rfl),hd];rw [if_neg (show ¬(false=true) by decide)];by_cases h:rgs l=l.length/\last=false
 ·have hE:z99 last (x::l)=6:=by unfold z99;rw [z9v hr];exact if_pos ⟨by simp only [List.length_cons];omega,h.2⟩
  rw [if_pos h];exact(if_pos (show z99 last (x::l)≠0 from by rw [hE];decide)).symm
 ·have hE:z99 last (x::l)=0:=by unfold z99;rw [z9v hr];exact if_neg (fun e=>h ⟨by have:=e.1;simp only [List.length_cons] at this;omega,e.2⟩)
  rw [if_neg h];refine Eq.trans ?_ (if_neg (show ¬z99 last (x::l)≠0 from fun e=>e hE)).symm;rw [z9v hr,show p+(rgs l+1)=p+1+rgs l by omega]
theorem y4n {V w W:World} {A:Option Addr} {bs:List Nat} {c R p:Nat} {last:Bool} (h:RD V w W A bs.length c last R p []) (hS:Src w 1 A bs.length c (z08 bs)) (hl:bs.length<=500000) (hc:bs.length<=c) (hp:p<=bs.length) (hb:∀ d∈bs,d<256) (hns:∀ x,bs[p]?=some x->z3s x=false/\x≠37) :
  Calls Tryz.prog 150 #[.pointer (some ⟨R,0,none⟩)] W (PTk V w R (tkR last p (bs.drop p))):=by
 have hl6:bs.length<=1000000:=by omega
 have hp9:p<=500000:=by omega
 have HTE:=kf (fun X (hX:RD X w X A bs.length c last R bs.length [])=>z6o hX);have HTA:=kf (fun X k x (hX:RD X w X A bs.length c last R k []) (hx:bs[k]?=some x)=>z8i hX hS hl6 hc hx);have HPE:=kf (fun X (hX:RD X w X A bs.length c last R bs.length [])=>z6p hX 60);have HPN:=kf (fun X k x (hX:RD X w X A bs.length c last R k []) (hx:bs[k]?=some x) (hy:x≠60)=>z8j hX hS hl6 hc hx 60 hy);have HPA:=kf (fun X k (hX:RD X w X A bs.length c last R k []) (hx:bs[k]?=some 60)=>z8k hX hS hl6 hc hx);have HCU:=kf (fun X k (hX:RD X w X A bs.length c last R k [])=>z4f hX 0);have HTX:=kf (fun X k (hX:RD X w X A bs.length c last R k []) (hk:k<=bs.length)=>y6s hX hS hl hc hk hb);have HHX:=kf (fun X k (hX:RD X w X A bs.length c last R k []) (hk:k<=bs.length)=>v0y hX hS hl hc hk hb);have HNM:=kf (fun X k (hX:RD X w X A bs.length c last R k []) (hk:k<=bs.length) (h0:0<bs.length)=>y6x hX hS hl hc hk hb h0);have HCD:=kf (fun X k f (hX:RD X w X A bs.length c last R k []) (hk:k<=bs.length)=>y1e hX hS hl6 hc hk f);have HBA:=kf (fun X k x f (hX:RD X w X A bs.length c last R k []) (hx:bs[k]?=some x) (hr:y0c x=true)=>y6z hX hS hl hc hb hx hr f);have HVA:=kf (fun k n er s X=>z6n k n er s X);have HKB:=kf h.kb;have HR0:=kf h.here;have hRW:=h.lt;have hwW:=h.chg.size;obtain⟨g,hg⟩:∃ g,g=W.heap.size:=⟨_,rfl⟩
 have HG:=kf hg;have hgR:g≠R:=by omega
 have hgW:W.heap.size<=g:=by omega
 have hgw:w.heap.size<=g:=by omega
 have HBW:=kf (show Blk (W.alloc (.cells #[.int .i64 0,.int .i64 0,.int .i64 0,.int .i64 0,.int .i64 0,.string ⟨#[]⟩,.slice none 0 0,.string ⟨#[]⟩] 131)) g 131 #[.int .i64 0,.int .i64 0,.int .i64 0,.int .i64 0,.int .i64 0,.string ⟨#[]⟩,.slice none 0 0,.string ⟨#[]⟩] from by rw [hg];exact Blk.new _ _ _);have HW1:=kf (HR0.out.alloc (.cells #[.int .i64 0,.int .i64 0,.int .i64 0,.int .i64 0,.int .i64 0,.string ⟨#[]⟩,.slice none 0 0,.string ⟨#[]⟩] 131));obtain⟨W1,hW1⟩:∃ W1,W1=W.alloc (.cells #[.int .i64 0,.int .i64 0,.int .i64 0,.int .i64 0,.int .i64 0,.string ⟨#[]⟩,.slice none 0 0,.string ⟨#[]⟩] 131):=⟨_,rfl⟩
 rw [<- hW1] at HW1 HBW;have HWW:=kf hW1;clear h hS hg hwW hRW hW1 hb hl hc hl6;by_cases hpn:p=bs.length
 ·have HD:=kf (show tkR last p (bs.drop p)=(if last then 0 else 6,noT p) from by rw [hpn,List.drop_of_length_le (Nat.le_refl _)];rfl);have HTE1:=kf (show ∀ X,RD X w X A bs.length c last R p []->Calls Tryz.prog 181 #[.pointer (some ⟨R,0,none⟩)] X fun e W'=>e=.returned (.tuple #[.int .u8 0,.bool false])/\RD X w W' A bs.length c last R p [] from fun X hX=>by rw [hpn] at hX ⊢;exact HTE.out X hX);have HCU1:=kf (fun X hX=>HCU.out X p hX);obtain⟨er,her⟩:∃ er,er=(if last then(0:Int) else 6):=⟨_,rfl⟩
  rw [<- her] at HD HCU1;clear hpn her hns;go_enter Tryz.func150,Tryz.ntmps150;go_upto_region 1 with fail;rw [<- HWW.out,<- HG.out]
  go_wp2_with first
   |(go_at_call 181;refine(HTE1.out _ HW1.out.here).mono ?_;rintro e w3 ⟨rfl,h3⟩;have HB3:=kf (h3.kb _ _ _ hgR (by decide) HBW.out);have HR3:=kf (h3.base (HW1.out.kb.trans h3.kb));clear h3;obtain⟨r0,r1,r2,r3,r4,r5,r6,r7,z0,z1,z2,z3,z4,z5,z6,z7⟩:=HB3.out.cl8)
   |(go_at_call 182;refine(HCU1.out _ HR3.out.here).mono ?_;rintro e w4 ⟨rfl,rfl⟩)
  refine bodyPost_ret (v:=.tuple #[.agg #[.int .i64 0,.int .i64 0,.int .i64 0,.int .i64 0,.int .i64 0,.string ⟨#[]⟩,.slice none 0 0,.string ⟨#[]⟩],.int .i64 er]) (by simp [results,Tryz.results150,go_sem,r0,r1,r2,r3,r4,r5,r6,r7]) rfl ?_;exact⟨noK,p,by rw [HD.out];rfl,fun _=>by rw [HD.out];exact⟨rfl,rfl⟩,(HR3.out.re.set8 hgR hgW hgw _ _ _ _ _ _ _ _).back HKB.out⟩
 obtain⟨x,hx,hd⟩:=z19 (bs:=bs) (k:=p) (by omega);have hk1:p+1<=bs.length:=by omega
 have h0:0<bs.length:=by omega
 have HX:=kf hx;obtain⟨hsp,h37⟩:=hns x hx;have HT:=kf (show tkR last p (bs.drop p)=z1y last p x (bs.drop (p+1)) from by rw [hd];rfl);clear hx hd hns hpn;by_cases h91:x=91
 ·subst h91;have HD:=kf (HT.out.trans v6l);go_enter Tryz.func150,Tryz.ntmps150;go_upto_region 1 with fail;rw [<- HWW.out,<- HG.out];go_wp2_with (go_at_call 181;refine(HTA.out _ _ _ HW1.out.here HX.out).mono ?_;rintro e w3 ⟨rfl,h3⟩;have HB3:=kf (h3.kb _ _ _ hgR (by decide) HBW.out);have HR3:=kf (h3.base (HW1.out.kb.trans h3.kb));clear h3;obtain⟨r0,r1,r2,r3,r4,r5,r6,r7,z0,z1,z2,z3,z4,z5,z6,z7⟩:=HB3.out.cl8);refine bodyPost_ret (v:=.tuple #[.agg #[.int .i64 2,.int .i64 0,.int .i64 0,.int .i64 0,.int .i64 0,.string ⟨#[]⟩,.slice none 0 0,.string ⟨#[]⟩],.int .i64 0]) (by simp [results,Tryz.results150,go_sem,r0,r1,r2,r3,r4,r5,r6,r7]) rfl ?_;exact⟨⟨2,0,0,0,0,[],[]⟩,p+1,by rw [HD.out];rfl,fun _=>by rw [HD.out];exact⟨rfl,rfl⟩,(HR3.out.re.set8 hgR hgW hgw _ _ _ _ _ _ _ _).back HKB.out⟩
 have e91:((x:Int)==91)=false:=by simp;omega
 by_cases h93:x=93
 ·subst h93;have HD:=kf (HT.out.trans v6k);go_enter Tryz.func150,Tryz.ntmps150;go_upto_region 1 with fail;rw [<- HWW.out,<- HG.out];go_wp2_with (go_at_call 181;refine(HTA.out _ _ _ HW1.out.here HX.out).mono ?_;rintro e w3 ⟨rfl,h3⟩;have HB3:=kf (h3.kb _ _ _ hgR (by decide) HBW.out);have HR3:=kf (h3.base (HW1.out.kb.trans h3.kb));clear h3;obtain⟨r0,r1,r2,r3,r4,r5,r6,r7,z0,z1,z2,z3,z4,z5,z6,z7⟩:=HB3.out.cl8);refine bodyPost_ret (v:=.tuple #[.agg #[.int .i64 3,.int .i64 0,.int .i64 0,.int .i64 0,.int .i64 0,.string ⟨#[]⟩,.slice none 0 0,.string ⟨#[]⟩],.int .i64 0]) (by simp [results,Tryz.results150,go_sem,r0,r1,r2,r3,r4,r5,r6,r7]) rfl ?_;exact⟨⟨3,0,0,0,0,[],[]⟩,p+1,by rw [HD.out];rfl,fun _=>by rw [HD.out];exact⟨rfl,rfl⟩,(HR3.out.re.set8 hgR hgW hgw _ _ _ _ _ _ _ _).back HKB.out⟩
 have e93:((x:Int)==93)=false:=by simp;omega
 by_cases h40:x=40
 ·subst h40;have HD:=kf (HT.out.trans v6n);obtain⟨r,hr⟩:∃ r,r=z11 last 1 [] (p+1) (bs.drop (p+1)):=⟨_,rfl⟩
  have HTX1:=kf (fun X hX=>HTX.out X (p+1) hX hk1);rw [<- hr] at HD HTX1;clear hr;go_enter Tryz.func150,Tryz.ntmps150;go_upto_region 1 with fail;rw [<- HWW.out,<- HG.out]
  go_wp2_with first
   |(go_at_call 181;refine(HTA.out _ _ _ HW1.out.here HX.out).mono ?_;rintro e w3 ⟨rfl,h3⟩;have HB3:=kf (h3.kb _ _ _ hgR (by decide) HBW.out);have HR3:=kf (h3.base (HW1.out.kb.trans h3.kb));clear h3)
   |(go_at_call 184;refine(HTX1.out _ HR3.out.here).mono ?_;rintro e w4 h4;obtain⟨K,vs,S,p4,hS4,rfl,hk4,hre⟩:=h4.open_;have HB4:=kf (hre.kb _ _ _ hgR (by decide) HB3.out);have HR4:=kf (hre.back HR3.out.kb);clear hre h4)
   |(go_at_call 183;refine(HVA.out _ _ _ _ _).mono ?_;rintro e w6 ⟨rfl,hc6⟩;have HR6:=kf (HR4.out.call hc6);have HB6:=kf (HB4.out.chg hc6 (fun h=>h));clear hc6;obtain⟨r0,r1,r2,r3,r4,r5,r6,r7,z0,z1,z2,z3,z4,z5,z6,z7⟩:=HB6.out.cl8)
  refine bodyPost_ret (v:=.tuple #[.agg #[.int .i64 1,.int .i64 0,.int .i64 0,.int .i64 (K:Nat),.int .i64 0,.string S,.slice none 0 0,.string ⟨#[]⟩],.int .i64 r.1]) (by simp [results,Tryz.results150,go_sem,r0,r1,r2,r3,r4,r5,r6,r7]) rfl ?_;have HRF:=kf ((HR6.out.set8 hgR hgW hgw (.int .i64 1) (.int .i64 0) (.int .i64 0) (.int .i64 (K:Nat)) (.int .i64 0) (.string S) (.slice none 0 0) (.string ⟨#[]⟩)).back HKB.out);exact PTk.value HD.out hS4 hk4 HRF.out
 have e40:((x:Int)==40)=false:=by simp;omega
 by_cases h60:x=60
 ·subst h60;clear e91 e93 h91 h93 h40 e40;by_cases hz:p+1=bs.length
  ·have HZ:=kf (show bs.drop (p+1)=[] from List.drop_of_length_le (by omega));have HPE1:=kf (show ∀ X,RD X w X A bs.length c last R (p+1) []->Calls Tryz.prog 185 #[.pointer (some ⟨R,0,none⟩),.int .u8 (60:Nat)] X fun e W'=>e=.returned (.bool false)/\RD X w W' A bs.length c last R (p+1) [] from fun X hX=>by rw [hz] at hX ⊢;exact HPE.out X hX);have HD:=kf (HT.out.trans (v2s (by rw [HZ.out];simp)));obtain⟨r,hr⟩:∃ r,r=z2c last [] (p+1) (bs.drop (p+1)):=⟨_,rfl⟩
   have HHX1:=kf (fun X hX=>HHX.out X (p+1) hX hk1);rw [<- hr] at HD HHX1;clear hr hz;go_enter Tryz.func150,Tryz.ntmps150;go_upto_region 1 with fail;rw [<- HWW.out,<- HG.out];go_wp2_with first
   |(go_at_call 181;refine(HTA.out _ _ _ HW1.out.here HX.out).mono ?_;rintro e w3 ⟨rfl,h3⟩;have HB3:=kf (h3.kb _ _ _ hgR (by decide) HBW.out);have HR3:=kf (h3.base (HW1.out.kb.trans h3.kb));clear h3)
   |(go_at_call 185;refine(HPE1.out _ HR3.out.here).mono ?_;rintro e w5 ⟨rfl,h5⟩;have HB5:=kf (h5.kb _ _ _ hgR (by decide) HB3.out);have HR5:=kf (h5.base (HR3.out.kb.trans h5.kb));clear h5)
   |(go_at_call 186;refine(HHX1.out _ HR5.out.here).mono ?_;rintro e w4 h4;obtain⟨K,vs,S,p4,hS4,rfl,hk4,hre⟩:=h4.open_;have HB4:=kf (hre.kb _ _ _ hgR (by decide) HB5.out);have HR4:=kf (hre.back HR5.out.kb);clear hre h4)
   |(go_at_call 183;refine(HVA.out _ _ _ _ _).mono ?_;rintro e w6 ⟨rfl,hc6⟩;have HR6:=kf (HR4.out.call hc6);have HB6:=kf (HB4.out.chg hc6 (fun h=>h));clear hc6;obtain⟨r0,r1,r2,r3,r4,r5,r6,r7,z0,z1,z2,z3,z4,z5,z6,z7⟩:=HB6.out.cl8)
   refine bodyPost_ret (v:=.tuple #[.agg #[.int .i64 1,.int .i64 0,.int .i64 0,.int .i64 (K:Nat),.int .i64 0,.string S,.slice none 0 0,.string ⟨#[]⟩],.int .i64 r.1]) (by simp [results,Tryz.results150,go_sem,r0,r1,r2,r3,r4,r5,r6,r7]) rfl ?_;have HRF:=kf ((HR6.out.set8 hgR hgW hgw (.int .i64 1) (.int .i64 0) (.int .i64 0) (.int .i64 (K:Nat)) (.int .i64 0) (.string S) (.slice none 0 0) (.string ⟨#[]⟩)).back HKB.out);exact PTk.value HD.out hS4 hk4 HRF.out
  obtain⟨y,hy,hdy⟩:=z19 (bs:=bs) (k:=p+1) (by omega);by_cases hy60:y=60
  ·subst hy60;have HPA1:=kf (fun X hX=>HPA.out X (p+1) hX hy);have HD:=kf (HT.out.trans (v0c (by rw [hdy];rfl)));clear hy hdy hz;go_enter Tryz.func150,Tryz.ntmps150;go_upto_region 1 with fail;rw [<- HWW.out,<- HG.out];go_wp2_with first
   |(go_at_call 181;refine(HTA.out _ _ _ HW1.out.here HX.out).mono ?_;rintro e w3 ⟨rfl,h3⟩;have HB3:=kf (h3.kb _ _ _ hgR (by decide) HBW.out);have HR3:=kf (h3.base (HW1.out.kb.trans h3.kb));clear h3)
   |(go_at_call 185;refine(HPA1.out _ HR3.out.here).mono ?_;rintro e w5 ⟨rfl,h5⟩;have HB5:=kf (h5.kb _ _ _ hgR (by decide) HB3.out);have HR5:=kf (h5.base (HR3.out.kb.trans h5.kb));clear h5;obtain⟨r0,r1,r2,r3,r4,r5,r6,r7,z0,z1,z2,z3,z4,z5,z6,z7⟩:=HB5.out.cl8)
   refine bodyPost_ret (v:=.tuple #[.agg #[.int .i64 4,.int .i64 0,.int .i64 0,.int .i64 0,.int .i64 0,.string ⟨#[]⟩,.slice none 0 0,.string ⟨#[]⟩],.int .i64 0]) (by simp [results,Tryz.results150,go_sem,r0,r1,r2,r3,r4,r5,r6,r7]) rfl ?_;exact⟨⟨4,0,0,0,0,[],[]⟩,p+1+1,by rw [HD.out];rfl,fun _=>by rw [HD.out];exact⟨rfl,rfl⟩,(HR5.out.re.set8 hgR hgW hgw _ _ _ _ _ _ _ _).back HKB.out⟩
  ·have HPN1:=kf (fun X hX=>HPN.out X (p+1) y hX hy hy60);have HD:=kf (HT.out.trans (v2s (by rw [hdy];simpa using hy60)));obtain⟨r,hr⟩:∃ r,r=z2c last [] (p+1) (bs.drop (p+1)):=⟨_,rfl⟩
   have HHX1:=kf (fun X hX=>HHX.out X (p+1) hX hk1);rw [<- hr] at HD HHX1;clear hr hz hy hdy;go_enter Tryz.func150,Tryz.ntmps150;go_upto_region 1 with fail;rw [<- HWW.out,<- HG.out];go_wp2_with first
   |(go_at_call 181;refine(HTA.out _ _ _ HW1.out.here HX.out).mono ?_;rintro e w3 ⟨rfl,h3⟩;have HB3:=kf (h3.kb _ _ _ hgR (by decide) HBW.out);have HR3:=kf (h3.base (HW1.out.kb.trans h3.kb));clear h3)
   |(go_at_call 185;refine(HPN1.out _ HR3.out.here).mono ?_;rintro e w5 ⟨rfl,h5⟩;have HB5:=kf (h5.kb _ _ _ hgR (by decide) HB3.out);have HR5:=kf (h5.base (HR3.out.kb.trans h5.kb));clear h5)
   |(go_at_call 186;refine(HHX1.out _ HR5.out.here).mono ?_;rintro e w4 h4;obtain⟨K,vs,S,p4,hS4,rfl,hk4,hre⟩:=h4.open_;have HB4:=kf (hre.kb _ _ _ hgR (by decide) HB5.out);have HR4:=kf (hre.back HR5.out.kb);clear hre h4)
   |(go_at_call 183;refine(HVA.out _ _ _ _ _).mono ?_;rintro e w6 ⟨rfl,hc6⟩;have HR6:=kf (HR4.out.call hc6);have HB6:=kf (HB4.out.chg hc6 (fun h=>h));clear hc6;obtain⟨r0,r1,r2,r3,r4,r5,r6,r7,z0,z1,z2,z3,z4,z5,z6,z7⟩:=HB6.out.cl8)
   refine bodyPost_ret (v:=.tuple #[.agg #[.int .i64 1,.int .i64 0,.int .i64 0,.int .i64 (K:Nat),.int .i64 0,.string S,.slice none 0 0,.string ⟨#[]⟩],.int .i64 r.1]) (by simp [results,Tryz.results150,go_sem,r0,r1,r2,r3,r4,r5,r6,r7]) rfl ?_;have HRF:=kf ((HR6.out.set8 hgR hgW hgw (.int .i64 1) (.int .i64 0) (.int .i64 0) (.int .i64 (K:Nat)) (.int .i64 0) (.string S) (.slice none 0 0) (.string ⟨#[]⟩)).back HKB.out);exact PTk.value HD.out hS4 hk4 HRF.out
 have e60:((x:Int)==60)=false:=by simp;omega
 by_cases h62:x=62
 ·subst h62;have HD:=kf (HT.out.trans (v3u last p _));have HCD1:=kf (fun X hX=>HCD.out X (p+1) p hX hk1);go_enter Tryz.func150,Tryz.ntmps150;go_upto_region 1 with fail;rw [<- HWW.out,<- HG.out]
  go_wp2_with first
   |(go_at_call 181;refine(HTA.out _ _ _ HW1.out.here HX.out).mono ?_;rintro e w3 ⟨rfl,h3⟩;have HB3:=kf (h3.kb _ _ _ hgR (by decide) HBW.out);have HR3:=kf (h3.base (HW1.out.kb.trans h3.kb));clear h3)
   |(go_at_call 187;refine(HCD1.out _ HR3.out.here).mono ?_;rintro e w4 ⟨t4,p4,rfl,ht4,hre⟩;have HT4:=kf ht4;have HB4:=kf (hre.kb _ _ _ hgR (by decide) HB3.out);have HR4:=kf (hre.back HR3.out.kb);clear hre ht4;obtain⟨r0,r1,r2,r3,r4,r5,r6,r7,z0,z1,z2,z3,z4,z5,z6,z7⟩:=HB4.out.cl8;obtain⟨k1,k2,k3,k4,k5,k6,k7⟩:=t4;unfold z78;obtain⟨S6,hS6⟩:∃ S6,S6=sb k6:=⟨_,rfl⟩;obtain⟨S7,hS7⟩:∃ S7,S7=sb k7:=⟨_,rfl⟩;simp only [];rw [<- hS6,<- hS7];have HS6:=kf hS6;have HS7:=kf hS7;clear hS6 hS7)
  refine bodyPost_ret (v:=.tuple #[.agg #[.int .i64 (k1:Nat),.int .i64 (k2:Nat),.int .i64 (k3:Nat),.int .i64 (k4:Nat),.int .i64 k5,.string S6,.slice none 0 0,.string S7],.int .i64 (z7h last p (p+1) (bs.drop (p+1))).1]) (by simp [results,Tryz.results150,go_sem,r0,r1,r2,r3,r4,r5,r6,r7]) rfl ?_;exact⟨⟨k1,k2,k3,k4,k5,k6,k7⟩,p4,by rw [HD.out,HS6.out,HS7.out];rfl,fun h9=>by rw [HD.out] at h9 ⊢;exact HT4.out h9,(HR4.out.set8 hgR hgW hgw _ _ _ _ _ _ _ _).back HKB.out⟩
 have e62:((x:Int)==62)=false:=by simp;omega
 by_cases h47:x=47
 ·subst h47;have HD:=kf (HT.out.trans (v3v last p _));obtain⟨r,hr⟩:∃ r,r=y9o last (p+1) (bs.drop (p+1)):=⟨_,rfl⟩
  have HNM1:=kf (fun X hX=>HNM.out X (p+1) hX hk1 h0);rw [<- hr] at HD HNM1;clear hr;go_enter Tryz.func150,Tryz.ntmps150;go_upto_region 1 with fail;rw [<- HWW.out,<- HG.out]
  go_wp2_with first
   |(go_at_call 181;refine(HTA.out _ _ _ HW1.out.here HX.out).mono ?_;rintro e w3 ⟨rfl,h3⟩;have HB3:=kf (h3.kb _ _ _ hgR (by decide) HBW.out);have HR3:=kf (h3.base (HW1.out.kb.trans h3.kb));clear h3)
   |(go_at_call 188;refine(HNM1.out _ HR3.out.here).mono ?_;rintro e w4 h4;obtain⟨K,vs,S,p4,hS4,rfl,hk4,hre⟩:=h4.open_;have HB4:=kf (hre.kb _ _ _ hgR (by decide) HB3.out);have HR4:=kf (hre.back HR3.out.kb);clear hre h4)
   |(go_at_call 183;refine(HVA.out _ _ _ _ _).mono ?_;rintro e w6 ⟨rfl,hc6⟩;have HR6:=kf (HR4.out.call hc6);have HB6:=kf (HB4.out.chg hc6 (fun h=>h));clear hc6;obtain⟨r0,r1,r2,r3,r4,r5,r6,r7,z0,z1,z2,z3,z4,z5,z6,z7⟩:=HB6.out.cl8)
  refine bodyPost_ret (v:=.tuple #[.agg #[.int .i64 1,.int .i64 0,.int .i64 0,.int .i64 (K:Nat),.int .i64 0,.string S,.slice none 0 0,.string ⟨#[]⟩],.int .i64 r.1]) (by simp [results,Tryz.results150,go_sem,r0,r1,r2,r3,r4,r5,r6,r7]) rfl ?_;have HRF:=kf ((HR6.out.set8 hgR hgW hgw (.int .i64 1) (.int .i64 0) (.int .i64 0) (.int .i64 (K:Nat)) (.int .i64 0) (.string S) (.slice none 0 0) (.string ⟨#[]⟩)).back HKB.out);exact PTk.value HD.out hS4 hk4 HRF.out
 have e47:((x:Int)==47)=false:=by simp;omega
 by_cases hD:z4p x=true
 ·have HD:=kf (show(tkR last p (bs.drop p)).1=11 from by rw [HT.out,y29 h91 h93 h60 h62 h40 h47,if_pos hD])
  have hx3:x=41\/x=123\/x=125:=by
   simp only [z4p,Bool.or_eq_true,beq_iff_eq] at hD;omega
  clear h91 h93 h60 h62 h40 h47 e91 e93 e60 e62 e40 e47 hD h37;rcases hx3 with rfl|rfl|rfl
  all_goals
   go_enter Tryz.func150,Tryz.ntmps150;go_upto_region 1 with fail;rw [<- HWW.out,<- HG.out];go_wp2_with (go_at_call 181;refine(HTA.out _ _ _ HW1.out.here HX.out).mono ?_;rintro e w3 ⟨rfl,h3⟩;have HB3:=kf (h3.kb _ _ _ hgR (by decide) HBW.out);have HR3:=kf (h3.base (HW1.out.kb.trans h3.kb));clear h3;obtain⟨r0,r1,r2,r3,r4,r5,r6,r7,z0,z1,z2,z3,z4,z5,z6,z7⟩:=HB3.out.cl8);refine bodyPost_ret (v:=.tuple #[.agg #[.int .i64 0,.int .i64 0,.int .i64 0,.int .i64 0,.int .i64 0,.string ⟨#[]⟩,.slice none 0 0,.string ⟨#[]⟩],.int .i64 11]) (by simp [results,Tryz.results150,go_sem,r0,r1,r2,r3,r4,r5,r6,r7]) rfl ?_;exact PTk.err HD.out (by decide) ((HR3.out.re.set8 hgR hgW hgw _ _ _ _ _ _ _ _).back HKB.out)
 have hD0:z4p x=false:=by simpa using hD
 have hr:y0c x=true:=by unfold y0c;rw [hsp,hD0];rfl
 have hne:∀ k,z4p k=true->x≠k:=fun k hk e=>hD (by rw [e];exact hk);have h41:=hne 41 rfl;have h123:=hne 123 rfl;have h125:=hne 125 rfl;have e41:((x:Int)==41)=false:=by simp;omega
 have e123:((x:Int)==123)=false:=by simp;omega
 have e125:((x:Int)==125)=false:=by simp;omega
 have HD:=kf (show tkR last p (bs.drop p)=y56 last p p x (bs.drop p) from by
  obtain⟨y,hy,hd⟩:=z19 (bs:=bs) (k:=p) (by omega);rw [HX.out] at hy;injection hy with hy
  subst hy;rw [HT.out,v0a hr,hd])
 have HBA1:=kf (fun X hX=>HBA.out X p x p hX HX.out hr);clear h91 h93 h60 h62 h40 h47 hD hD0 hr hne h41 h123 h125 h37 hsp;have i1:((p:Int)+1-1)=(p:Int):=by omega
 go_enter Tryz.func150,Tryz.ntmps150;go_upto_region 1 with fail;rw [<- HWW.out,<- HG.out];go_upto_region 24 with(go_at_call 181;refine(HTA.out _ _ _ HW1.out.here HX.out).mono ?_;rintro e w3 ⟨rfl,h3⟩;have HB3:=kf (h3.kb _ _ _ hgR (by decide) HBW.out);have HR3:=kf (h3.base (HW1.out.kb.trans h3.kb));clear h3;obtain⟨c2,c3,c4,f3⟩:=HR3.out.cells);go_wp2_with (go_at_call 189;refine(HBA1.out _ (HR3.out.at_ p).here).mono ?_;rintro e w4 ⟨t4,p4,rfl,ht4,hre⟩;have HT4:=kf ht4;have HB4:=kf (hre.kb _ _ _ hgR (by decide) (HB3.out.far (p:=⟨R,3,none⟩) hgR _));have HR4:=kf (hre.back (HR3.out.at_ p).kb);clear hre ht4;obtain⟨r0,r1,r2,r3,r4,r5,r6,r7,z0,z1,z2,z3,z4,z5,z6,z7⟩:=HB4.out.cl8;obtain⟨k1,k2,k3,k4,k5,k6,k7⟩:=t4;unfold z78;obtain⟨S6,hS6⟩:∃ S6,S6=sb k6:=⟨_,rfl⟩;obtain⟨S7,hS7⟩:∃ S7,S7=sb k7:=⟨_,rfl⟩;simp only [];rw [<- hS6,<- hS7];have HS6:=kf hS6;have HS7:=kf hS7;clear hS6 hS7);refine bodyPost_ret (v:=.tuple #[.agg #[.int .i64 (k1:Nat),.int .i64 (k2:Nat),.int .i64 (k3:Nat),.int .i64 (k4:Nat),.int .i64 k5,.string S6,.slice none 0 0,.string S7],.int .i64 (y56 last p p x (bs.drop p)).1]) (by simp [results,Tryz.results150,go_sem,r0,r1,r2,r3,r4,r5,r6,r7]) rfl ?_;exact⟨⟨k1,k2,k3,k4,k5,k6,k7⟩,p4,by rw [HD.out,HS6.out,HS7.out];rfl,fun h9=>by rw [HD.out] at h9 ⊢;exact HT4.out h9,(HR4.out.set8 hgR hgW hgw _ _ _ _ _ _ _ _).back HKB.out⟩
end Go.Proofs.YtnhlalkeaaiefaaGreatDoor
