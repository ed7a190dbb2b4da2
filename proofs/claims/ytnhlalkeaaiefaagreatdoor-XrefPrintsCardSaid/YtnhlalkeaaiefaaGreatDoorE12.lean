import Derived.Test.YtnhlalkeaaiefaaGreatDoorE07
set_option linter.unusedVariables false
set_option maxHeartbeats 64000000
set_option maxRecDepth 100000
set_option linter.unusedSimpArgs false
namespace Go.Proofs.YtnhlalkeaaiefaaGreatDoor
open Go.RowKit
theorem z6o {V w W:World} {A:Option Addr} {n c R:Nat} {last:Bool} {out:List Nat} (h:RD V w W A n c last R n out) :
  Calls Tryz.prog 181 #[.pointer (some ⟨R,0,none⟩)] W fun e W'=>e=.returned (.tuple #[.int .u8 0,.bool false])/\RD V w W' A n c last R n out:=by
 obtain⟨c2,c3,c4,f3⟩:=h.cells;have H:=kf h;clear h;go_enter Tryz.func181,Tryz.ntmps181;go_upto_region 1 with fail;go_quiet (fail);go_wp2_with fail;go_ret2;exact⟨rfl,H.out.drewN _⟩
theorem z8i {V w W:World} {A:Option Addr} {bs:List Nat} {c R p x:Nat} {last:Bool} {out:List Nat} (h:RD V w W A bs.length c last R p out) (hS:Src w 1 A bs.length c (z08 bs)) (hl:bs.length<=1000000) (hc:bs.length<=c) (hx:bs[p]?=some x) :
  Calls Tryz.prog 181 #[.pointer (some ⟨R,0,none⟩)] W fun e W'=>e=.returned (.tuple #[.int .u8 (x:Nat),.bool true])/\RD V w W' A bs.length c last R (p+1) out:=by
 have hp:p<bs.length:=(List.getElem?_eq_some_iff.1 hx).1;obtain⟨c2,c3,c4,f3⟩:=h.cells;have hR:=h.new;obtain⟨b,off,rfl,hcell⟩:=z5x hS h.chg (by omega);have c0:=hcell p x hx
 have hbR:b≠R:=by
  have h0:=(z5x hS (Chg.refl NoS w) (by omega))
  obtain⟨b',off',e,hc'⟩:=h0;cases e
  have:=z04 (hc' p x hx);simp only at this;omega
 have H:=kf h;obtain⟨n,hn⟩:∃ n,bs.length=n:=⟨_,rfl⟩
 rw [hn] at c2 hp hl hc H ⊢;clear h hS hx hcell hn;have e1:((p:Int)==n)=false:=by simp;omega
 have e2:(p==n)=false:=by simp;omega
 have i1:((p:Int)+1-1)=p:=by omega
 have i2:((p:Int)+1).toNat=p+1:=by omega
 go_enter Tryz.func181,Tryz.ntmps181;go_upto_region 1 with fail;go_quiet (fail);go_upto_region 4 with fail;go_quiet (fail);go_wp2_with fail;go_ret2;exact⟨rfl,((H.out.drewN _).at_ _).drewN _⟩
theorem z6p {V w W:World} {A:Option Addr} {n c R:Nat} {last:Bool} {out:List Nat} (h:RD V w W A n c last R n out) (y:Nat) :
  Calls Tryz.prog 185 #[.pointer (some ⟨R,0,none⟩),.int .u8 (y:Nat)] W fun e W'=>e=.returned (.bool false)/\RD V w W' A n c last R n out:=by
 obtain⟨c2,c3,c4,f3⟩:=h.cells;have H:=kf h;clear h;go_enter Tryz.func185,Tryz.ntmps185;go_upto_region 1 with fail;go_quiet (fail);go_wp2_with fail;go_ret;exact⟨rfl,H.out.drewN _⟩
theorem z8j {V w W:World} {A:Option Addr} {bs:List Nat} {c R p x:Nat} {last:Bool} {out:List Nat} (h:RD V w W A bs.length c last R p out) (hS:Src w 1 A bs.length c (z08 bs)) (hl:bs.length<=1000000) (hc:bs.length<=c) (hx:bs[p]?=some x) (y:Nat) (hy:x≠y) :
  Calls Tryz.prog 185 #[.pointer (some ⟨R,0,none⟩),.int .u8 (y:Nat)] W fun e W'=>e=.returned (.bool false)/\RD V w W' A bs.length c last R p out:=by
 have hp:p<bs.length:=(List.getElem?_eq_some_iff.1 hx).1;obtain⟨c2,c3,c4,f3⟩:=h.cells;have hR:=h.new;obtain⟨b,off,rfl,hcell⟩:=z5x hS h.chg (by omega);have c0:=hcell p x hx
 have hbR:b≠R:=by
  have h0:=(z5x hS (Chg.refl NoS w) (by omega))
  obtain⟨b',off',e,hc'⟩:=h0;cases e
  have:=z04 (hc' p x hx);simp only at this;omega
 have H:=kf h;obtain⟨n,hn⟩:∃ n,bs.length=n:=⟨_,rfl⟩
 rw [hn] at c2 hp hl hc H ⊢;clear h hS hx hcell hn;have e1:((p:Int)==n)=false:=by simp;omega
 have e2:(p==n)=false:=by simp;omega
 have e3:((x:Int) != y)=true:=by simp;omega
 have e4:(x != y)=true:=by simp;omega
 go_enter Tryz.func185,Tryz.ntmps185;go_upto_region 1 with fail;go_quiet (fail);go_wp2_with fail;go_ret;exact⟨rfl,H.out.drewN _⟩
theorem z8k {V w W:World} {A:Option Addr} {bs:List Nat} {c R p x:Nat} {last:Bool} {out:List Nat} (h:RD V w W A bs.length c last R p out) (hS:Src w 1 A bs.length c (z08 bs)) (hl:bs.length<=1000000) (hc:bs.length<=c) (hx:bs[p]?=some x) :
  Calls Tryz.prog 185 #[.pointer (some ⟨R,0,none⟩),.int .u8 (x:Nat)] W fun e W'=>e=.returned (.bool true)/\RD V w W' A bs.length c last R (p+1) out:=by
 have hp:p<bs.length:=(List.getElem?_eq_some_iff.1 hx).1;obtain⟨c2,c3,c4,f3⟩:=h.cells;have hR:=h.new;obtain⟨b,off,rfl,hcell⟩:=z5x hS h.chg (by omega);have c0:=hcell p x hx
 have hbR:b≠R:=by
  have h0:=(z5x hS (Chg.refl NoS w) (by omega))
  obtain⟨b',off',e,hc'⟩:=h0;cases e
  have:=z04 (hc' p x hx);simp only at this;omega
 have H:=kf h;obtain⟨n,hn⟩:∃ n,bs.length=n:=⟨_,rfl⟩
 rw [hn] at c2 hp hl hc H ⊢;clear h hS hx hcell hn;have e1:((p:Int)==n)=false:=by simp;omega
 have e2:(p==n)=false:=by simp;omega
 go_enter Tryz.func185,Tryz.ntmps185;go_upto_region 1 with fail;go_quiet (fail);go_wp2_with fail;go_ret;exact⟨rfl,(H.out.drewN _).at_ _⟩
theorem z4f {V w W:World} {A:Option Addr} {n c R p:Nat} {last:Bool} {out:List Nat} (h:RD V w W A n c last R p out) (er:Int) :
  Calls Tryz.prog 182 #[.pointer (some ⟨R,0,none⟩),.int .i64 er] W fun e W'=>e=.returned (.int .i64 (if last then er else 6))/\W=W':=by
 obtain⟨c2,c3,c4,f3⟩:=h.cells;clear h;cases last
 all_goals
  go_enter Tryz.func182,Tryz.ntmps182;go_wp2_with fail;go_ret;exact⟨rfl,rfl⟩
theorem z5b {V w W:World} {A:Option Addr} {n c R p:Nat} {last:Bool} {out:List Nat} (h:RD V w W A n c last R p out) (hb:∀ d∈out,d<256) (hl:out.length<=1000000) (k:Nat) :
  Calls Tryz.prog 205 #[.pointer (some ⟨R,0,none⟩),.int .i64 (k:Nat)] W fun e W'=>e=.returned (.tuple #[.agg #[.int .i64 (k:Nat),.int .i64 0,.string (sb out),.slice none 0 0],.int .i64 0])/\RE V w W' R p:=by
 have HST:=kf (fun(X:World) (hX:Chg NoS W X)=>y1c (h.call hX).here hb hl);obtain⟨s,hs⟩:∃ s,sb out=s:=⟨_,rfl⟩
 rw [hs] at HST ⊢;have hR:=h.lt;have HKB:=kf (h.kb);have hwg:=h.chg.size;clear hs h hb hl;go_enter Tryz.func205,Tryz.ntmps205;go_upto_region 1 with fail;have HNEW:=kf (Blk.new W 25 #[.int .i64 0,.int .i64 0,.string ⟨#[]⟩,.slice none 0 0]);have HCH:=kf ((Chg.refl NoS W).alloc (.cells #[.int .i64 0,.int .i64 0,.string ⟨#[]⟩,.slice none 0 0] 25));obtain⟨W1,hW1⟩:∃ W1,W1=W.alloc (.cells #[.int .i64 0,.int .i64 0,.string ⟨#[]⟩,.slice none 0 0] 25):=⟨_,rfl⟩
 rw [<- hW1] at HNEW HCH ⊢;clear hW1;obtain⟨g,hg⟩:∃ g,g=W.heap.size:=⟨_,rfl⟩
 rw [<- hg] at HNEW ⊢;have hgR:g≠R:=by omega
 have HG:=kf hg;clear hg;go_upto_region 2 with(go_at_call 99;refine(HST.out _ HCH.out).mono ?_;rintro e w3 ⟨rfl,hre⟩;have hcl:=(hre.kb _ _ _ hgR (by decide) HNEW.out).cl4;obtain⟨r0,r1,r2,r3,z0,z1,z2,z3⟩:=hcl;have HRE:=kf hre;clear hre);go_wp2_with fail;refine bodyPost_ret (v:=.tuple #[.agg #[.int .i64 (k:Nat),.int .i64 0,.string s,.slice none 0 0],.int .i64 0]) (by simp [results,Tryz.results205,go_sem,r0,r1,r2,r3]) rfl ?_;have h8:=HG.out;exact⟨rfl,((HRE.out.back (KB.chg HCH.out)).set4 hgR (by omega) (by omega) _ _ _ _).back HKB.out⟩
theorem z4k {k m:Nat} {l:List Nat} (h:l=[]\/∃ x r,l=x::r/\¬(48<=x/\x<=55)):z1w (k+1) m l=(m,0):=by
 rcases h with rfl|⟨x,r,rfl,h⟩
 ·rfl
 ·rw [z1w,if_neg h]
theorem z4j {k m x:Nat} {r:List Nat} (h:48<=x/\x<=55):z1w (k+1) m (x::r)=((z1w k (8*m+(x-48)) r).1,(z1w k (8*m+(x-48)) r).2+1):=by rw [z1w,if_pos h]
theorem y33:∀ (k:Nat) (l:List Nat) (m m':Nat),m%256=m'%256->(z1w k m l).1%256=(z1w k m' l).1%256/\(z1w k m l).2=(z1w k m' l).2:=by
 intro k;induction k with
 |zero=>intro l m m' h;exact⟨h,rfl⟩
 |succ k ih =>
  intro l m m' h;cases l with
  |nil=>exact⟨h,rfl⟩
  |cons x r =>
   by_cases hx:48<=x/\x<=55
   ·rw [z4j hx,z4j hx];have:=ih r (8*m+(x-48)) (8*m'+(x-48)) (by omega);exact⟨this.1,by simp only [];rw [this.2]⟩
   ·rw [z4k (.inr ⟨x,r,rfl,hx⟩),z4k (.inr ⟨x,r,rfl,hx⟩)];exact⟨h,rfl⟩
def v9h (V w wr:World) (A:Option Addr) (bs:List Nat) (c:Nat) (last:Bool) (R p x:Nat) (out:List Nat) (j k z:Nat):Prop :=
 RD V w wr A bs.length c last R k out/\(z1w 2 x (bs.drop p)).1%256=(z1w (2-j) z (bs.drop k)).1%256/\p+(z1w 2 x (bs.drop p)).2=k+(z1w (2-j) z (bs.drop k)).2
theorem y4o {V w W:World} {A:Option Addr} {bs:List Nat} {c R p:Nat} {last:Bool} {out:List Nat} (h:RD V w W A bs.length c last R p out) (hS:Src w 1 A bs.length c (z08 bs)) (hl:bs.length<=1000000) (hc:bs.length<=c) (hp:p<=bs.length) (hb:∀ d∈bs,d<256) (x:Nat) (hx:x<8) :
  Calls Tryz.prog 206 #[.pointer (some ⟨R,0,none⟩),.int .u8 (x:Nat)] W fun e W'=>e=.returned (.int .u8 ((z1w 2 x (bs.drop p)).1%256:Nat))/\RD V w W' A bs.length c last R (p+(z1w 2 x (bs.drop p)).2) out:=by
 have HR:=h.new;have HO:=kf (show v9h V w W A bs c last R p x out 0 p x from⟨h,rfl,rfl⟩);have HCELL:=kf (fun(X:World) (hX:Chg NoS w X) (hn:0<bs.length)=>z5x hS hX hn);have HCELL0:=kf (fun(hn:0<bs.length)=>z5x hS (Chg.refl NoS w) hn);have HB:=kf hb;obtain⟨n,hn⟩:∃ n,bs.length=n:=⟨_,rfl⟩
 have HN:=kf hn;rw [hn] at hl hc hp;clear h hS hn hb;go_enter Tryz.func206,Tryz.ntmps206;go_upto_region 2 with fail;go_loopw [1,5] (fun vz vj wr=>∃ j k z:Nat,j<=2/\k<=n/\z<256/\vz=.int .u8 (z:Nat)/\vj=.int .i64 (j:Nat)/\Hid (v9h V w wr A bs c last R p x out j k z)) (fun _ vj _=>2-(intOf vj).toNat)
 case atStart=>exact⟨0,p,x,by omega,hp,by omega,rfl,rfl,HO⟩
 case round =>
  obtain⟨j,k,z,hj,hk,hz,rfl,rfl,HI⟩:=hrel;obtain⟨c2,c3,c4,f3⟩:=HI.out.1.cells;rw [HN.out] at c2;by_cases hj2:j=2
  ·subst hj2;have HE:=kf HI.out.2;go_wp2_with fail;go_ret;refine⟨?_,?_⟩
   ·rw [HE.out.1,show z1w (2-2) z (bs.drop k)=(z,0) from rfl];simp only [];rw [Nat.mod_eq_of_lt hz];rfl
   ·rw [HE.out.2];exact HI.out.1
  obtain⟨i,hi⟩:∃ i,2-j=i+1:=⟨1-j,by omega⟩
  have j1:(j:Int)<2:=by omega
  by_cases hkn:k=n
  ·have HE:=kf (show z1w (2-j) z (bs.drop k)=(z,0) from by rw [hi,z4k (.inl (List.drop_of_length_le (by rw [HN.out];omega)))]);have HE2:=kf HI.out.2;subst hkn;clear hi hj2;go_upto_region 3 with fail;go_quiet (fail);go_wp2_with fail;go_ret;refine⟨?_,?_⟩
   ·rw [HE2.out.1,HE.out];simp only [];rw [Nat.mod_eq_of_lt hz];rfl
   ·rw [HE2.out.2,HE.out];exact HI.out.1.drewN _
  obtain⟨y,hy,hd⟩:=z19 (bs:=bs) (k:=k) (by rw [HN.out];omega);obtain⟨b,off,rfl,hcell⟩:=HCELL.out wr HI.out.1.chg (by rw [HN.out];omega);have c0:=hcell k y hy
  have hbR:b≠R:=by
   obtain⟨b',off',e,hc'⟩:=HCELL0.out (by rw [HN.out];omega);cases e
   have:=z04 (hc' k y hy);simp only at this;omega
  have hy256:=HB.out y (List.mem_of_getElem? hy);have k1:(k:Int)<n:=by omega
  have k2:((k:Int)==n)=false:=by simp;omega
  have k3:(k==n)=false:=by simp;omega
  have HE2:=kf HI.out.2;by_cases hoct:48<=y/\y<=55
  ·have HD:=kf (show z1w (2-j) z (bs.drop k)=((z1w i (8*z+(y-48)) (bs.drop (k+1))).1,(z1w i (8*z+(y-48)) (bs.drop (k+1))).2+1) from by rw [hi,hd,z4j hoct]);have HI1:=kf (show 2-(j+1)=i from by omega);obtain⟨o1,o2⟩:=hoct;obtain⟨t,ht⟩:∃ t,t=8*z%256:=⟨_,rfl⟩
   obtain⟨u,hu⟩:∃ u,u=y-48:=⟨_,rfl⟩
   obtain⟨v,hv⟩:∃ v,v=(t+u)%256:=⟨_,rfl⟩
   have w1:IntKind.u8.wrap (8*(z:Int))=(t:Int):=by rw [IntKind.wrap_u8];omega
   have w2:IntKind.u8.wrap ((y:Int)-48)=(u:Int):=by rw [IntKind.wrap_u8];omega
   have w3:IntKind.u8.wrap ((t:Int)+(u:Int))=(v:Int):=by rw [IntKind.wrap_u8];omega
   have HV:=kf (show(8*z+(y-48))%256=v%256 from by omega);have hv2:v<256:=by omega
   have m1:decide ((y:Int)<48)=false:=by simp;omega
   have m2:decide ((55:Int)<y)=false:=by simp;omega
   have m3:decide (y<48)=false:=by simp;omega
   have m4:decide (55<y)=false:=by simp;omega
   clear ht hu hv hi hj2 hkn hy hd hcell hy256 o1 o2;go_upto_region 3 with fail;go_quiet (fail);go_upto_region 4 with fail;go_quiet (fail);go_wp2_with fail;go_roundw
   case rel =>
    refine⟨j+1,k+1,v,by omega,by omega,hv2,rfl,by go_num,kf ⟨(HI.out.1.drewN _).at_ _,?_,?_⟩⟩
    ·rw [HE2.out.1,HD.out,HI1.out];exact(y33 i _ _ _ HV.out).1
    ·rw [HE2.out.2,HD.out,HI1.out,<- (y33 i (bs.drop (k+1)) _ _ HV.out).2];simp only [];omega
   case measure=>simp [intOf];omega
  ·have HE:=kf (show z1w (2-j) z (bs.drop k)=(z,0) from by rw [hi,z4k (.inr ⟨y,_,hd,hoct⟩)]);clear hi hd hj2 hkn hcell hy;by_cases hlo:y<48
   ·clear hoct;have m1:decide ((y:Int)<48)=true:=by simp;omega
    have m3:decide (y<48)=true:=by simp;omega
    go_upto_region 3 with fail;go_quiet (fail);go_wp2_with fail;go_ret;refine⟨?_,?_⟩
    ·rw [HE2.out.1,HE.out];simp only [];rw [Nat.mod_eq_of_lt hz];rfl
    ·rw [HE2.out.2,HE.out];exact HI.out.1.drewN _
   ·have hhi:55<y:=by omega
    clear hoct;have m1:decide ((y:Int)<48)=false:=by simp;omega
    have m3:decide (y<48)=false:=by simp;omega
    have m2:decide ((55:Int)<y)=true:=by simp;omega
    have m4:decide (55<y)=true:=by simp;omega
    go_upto_region 3 with fail;go_quiet (fail);go_wp2_with fail;go_ret;refine⟨?_,?_⟩
    ·rw [HE2.out.1,HE.out];simp only [];rw [Nat.mod_eq_of_lt hz];rfl
    ·rw [HE2.out.2,HE.out];exact HI.out.1.drewN _
end Go.Proofs.YtnhlalkeaaiefaaGreatDoor
