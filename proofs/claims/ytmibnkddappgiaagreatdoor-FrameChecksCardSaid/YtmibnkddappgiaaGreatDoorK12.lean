import Derived.Test.YtmibnkddappgiaaGreatDoorK11
set_option linter.unusedVariables false
set_option maxHeartbeats 64000000
set_option maxRecDepth 100000
set_option linter.unusedSimpArgs false
namespace Go.Proofs.YtmibnkddappgiaaGreatDoor
open Go.RowKit
theorem y3n:(Tryz.prog.info? 130).map (·.size)=some 2:=by kernel_rfl
theorem v26:liesAt Tryz.prog Tryz.prog.depth 146 (5 / Tryz.prog.cellsOf 146) 0 130 1=true:=by kernel_rfl
theorem z88:Tryz.prog.cellsOf 5=1:=by kernel_rfl
theorem z4u:Tryz.prog.funcs[(182:Nat)]?=some Tryz.f182:=by kernel_rfl
theorem y0v {V w W:World} {A A2:Option Addr} {n c R p c2:Nat} {last:Bool} {out:List Nat} {q:Value} (h:RDx V w W A n c last R p out q A2 c2) :
  Calls Tryz.prog 149 #[.pointer (some ⟨R,0,none⟩)] W fun e W'=>e=.returned (.tuple #[])/\RDx V w W' A n c last R p out (.pointer (some ⟨R,0,none⟩)) A2 c2:=by
 obtain⟨j,hj,hjs⟩:=Option.map_eq_some_iff.1 y3n;rcases h.used with rfl|rfl
 ·have h0:=h.cells.1;have hf:=h.frozen 0;have hsh:=h.shape;have HU:=kf h.use
  have g1:(convert 128 211 (.pointer (some ⟨R,0,none⟩))).run Tryz.prog W=.ok (.pointer (some ⟨R,0,none⟩)) W :=
   Lib.run_to_unsafe W ⟨R,0,none⟩ Tryz.underlying128 Tryz.underlying211 hj (by rw [hjs];decide) hsh (Nat.zero_lt_succ 4)
  have g2:(convert 211 128 (.pointer (some ⟨R,0,none⟩))).run Tryz.prog W=.ok (.pointer (some ⟨R,0,none⟩)) W :=
   Lib.run_from_unsafe W ⟨R,0,none⟩ Tryz.underlying211 Tryz.underlying128 hj hsh v26
  clear h;go_enter Tryz.func149,Tryz.ntmps149;go_wp2;rw [run_callFunc_extern z4u (by kernel_rfl) (by kernel_rfl) (by kernel_rfl) (e:=Extern.AbiNoEscape.same) (by kernel_rfl)];rw [Lib.run_noEscape];simp only [Result.andThen];rw [Oper.upon_value];go_wp2;go_end0;exact⟨rfl,HU.out⟩
 ·have h0:=h.cells.1;have HU:=kf h;clear h;go_enter Tryz.func149,Tryz.ntmps149;go_wp2;rw [Lib.run_neq_ptr_same W _ Tryz.underlying128 hj];go_wp2;go_end0;exact⟨rfl,HU.out⟩
theorem z5a {V w W:World} {A:Option Addr} {n c R p:Nat} {last:Bool} {out:List Nat} (h:RD V w W A n c last R p out) (x:Nat) (hl:out.length<=1000000) :
  Calls Tryz.prog 156 #[.pointer (some ⟨R,0,none⟩),.int .u8 (x:Nat)] W fun e W'=>e=.returned .nilIface/\RD V w W' A n c last R p (out++[x]):=by
 obtain⟨q,A2,c2,h⟩:=h;obtain⟨i0,hi,hz0,hz1,hz2⟩:=z2z z6d;have HC:=kf (y0v h);clear h;go_enter Tryz.func156,Tryz.ntmps156;go_wp2_with (go_at_call 149;refine HC.out.mono ?_);rintro e w1 ⟨rfl,h1⟩;have c0:=h1.cells.1;have c1:=h1.cells.2.1;have hs:=h1.chg.size;have hown:=h1.own;have HR:=kf h1;clear h1;go_wp2_with (at_builtin;refine wpList_append_own _ rfl _ _ 37 rfl w.heap.size 5 i0 (.int .u8 0) 1 1 Tryz.underlying37 hi hz0 hz1 hz2 rfl (by decide) _ _ _ rfl (hown.alloc _) ⟨w1.heap.size,0,none⟩ 1 1 [.int .u8 (x:Nat)] rfl rfl ?c1 ?c2 ?c3 ?c4 ?c5 ?_)
 case c1 =>
  intro j u hj;match j,hj with
  |0,hj=>simp at hj;subst hj;simp [Addr.add]
 case c2=>intro u hu;simp at hu;subst hu;rfl
 case c3=>unfold maxLen;omega
 case c4=>omega
 case c5=>simp;omega
 intro v' w2 hown' hgrow _;have h2:=(HR.out.alloc (.cells #[.int .u8 (x:Nat)] 5)).at_cells hgrow;obtain⟨d0,d1,f1⟩:=h2;obtain⟨A3,c3,rfl,_⟩:=z0t hown';have hl1:(out++[x]).length=out.length+1:=by simp
 have HF:=kf ((HR.out.alloc (.cells #[.int .u8 (x:Nat)] 5)).grow (out':=out++[x]) (A3:=A3) (c3:=c3) hgrow (by rw [hl1,z3p];exact hown'));rw [hl1] at HF;clear hown hown' hgrow hl1;go_wp2;go_ret;exact⟨rfl,HF.out.rd⟩
theorem z6h (l:List Nat) (h:∀ d∈l,d<256):Lib.strCells (sb l)=z09 l:=by
 unfold Lib.strCells sb z09;rw [List.map_map];refine List.map_congr_left fun d hd=>?_;have:=h d hd;simp;omega
theorem y62 {V w W:World} {A:Option Addr} {n c R p:Nat} {last:Bool} {out:List Nat} (h:RD V w W A n c last R p out) (l:List Nat) (hb:∀ d∈l,d<256) (hl:out.length<=1000000) (hl2:l.length<=1000000) :
  Calls Tryz.prog 113 #[.pointer (some ⟨R,0,none⟩),.string (sb l)] W fun e W'=>e=.returned (.tuple #[.int .i64 (l.length:Nat),.nilIface])/\RD V w W' A n c last R p (out++l):=by
 obtain⟨q,A2,c2,h⟩:=h;obtain⟨i0,hi,hz0,hz1,hz2⟩:=z2z z6d;have HC:=kf (y0v h);have hsz:=z0k l;have HS:=kf (z6h l hb);obtain⟨s,hs⟩:∃ s,sb l=s:=⟨_,rfl⟩
 rw [hs] at hsz HS ⊢;obtain⟨m,hm⟩:∃ m,l.length=m:=⟨_,rfl⟩
 have hm2:(out++l).length=out.length+m:=by rw [List.length_append,hm]
 rw [hm] at hsz hl2 ⊢;clear h hs hb;go_enter Tryz.func113,Tryz.ntmps113;go_wp2_with (go_at_call 149;refine HC.out.mono ?_);rintro e w1 ⟨rfl,h1⟩;have c0:=h1.cells.1;have c1:=h1.cells.2.1;have hs:=h1.chg.size;have hown:=h1.own;have HR:=kf h1;clear h1;go_wp2_with (at_builtin;refine Lib.wpList_append_own_string _ rfl _ _ 37 9 rfl w.heap.size 5 i0 Tryz.underlying37 Tryz.underlying9 hi hz0 hz1 hz2 _ _ _ rfl hown s rfl ?c3 ?c4 ?c5 ?_)
 case c3=>unfold maxLen;omega
 case c4=>omega
 case c5=>omega
 intro v' w2 hown' hgrow _;have h2:=HR.out.at_cells hgrow;obtain⟨d0,d1,f1⟩:=h2;(try rw [hsz] at hown')
 rw [HS.out,<- z3p] at hown';obtain⟨A3,c3,rfl,_⟩:=z0t hown';have HF:=kf (HR.out.grow (out':=out++l) (A3:=A3) (c3:=c3) hgrow (by rw [hm2];exact hown'));rw [hm2] at HF;clear hown hown' hgrow hm2 hm HS;go_wp2;go_ret2;exact⟨rfl,HF.out.rd⟩
theorem y9w {V w W:World} {A:Option Addr} {n c R p:Nat} {last:Bool} {out:List Nat} (h:RD V w W A n c last R p out) :
  Calls Tryz.prog 173 #[.pointer (some ⟨R,0,none⟩)] W fun e W'=>e=.returned (.int .i64 (out.length:Nat))/\W=W':=by
 obtain⟨q,A2,c2,h⟩:=h;have c1:=h.cells.2.1;clear h;go_enter Tryz.func173,Tryz.ntmps173;go_wp2;go_ret;exact⟨rfl,rfl⟩
theorem y1d {V w W:World} {A:Option Addr} {n c R p:Nat} {last:Bool} {out:List Nat} (h:RD V w W A n c last R p out) (hb:∀ d∈out,d<256) (hl:out.length<=1000000) :
  Calls Tryz.prog 93 #[.pointer (some ⟨R,0,none⟩)] W fun e W'=>e=.returned (.string (sb out))/\RE V w W' R p:=by
 obtain⟨q,A2,c2,h⟩:=h;have mixed:Tryz.prog.follows Departure.mixedOrders=true:=by kernel_rfl
 have hre:=h.rd.re.call ((Chg.refl NoS W).drew);have c1:=h.drew.cells.2.1;have hown:=h.own;have hne:=h.neq;have hnew:=h.new;obtain⟨m,hm⟩:∃ m,out.length=m:=⟨_,rfl⟩
 rw [hm] at c1 hown hne hl;rcases hown.2 with⟨hv,h0⟩|⟨g,cap,cur,hv,hbg,hg,hnc,hcm,hcs,htake⟩
 ·simp only [Value.slice.injEq] at hv;obtain⟨rfl,h0',rfl⟩:=hv;subst h0';obtain rfl:out=[]:=List.eq_nil_of_length_eq_zero hm;have hUS:∀ W2,(Builtin.unsafeString_ #[157,3] 9 #[.pointer none,.int .i64 0]).run Tryz.prog W2=.ok (.string .empty) W2:=fun W2=>Lib.run_unsafeString_none W2 _ _ _ none;have hSD:(Builtin.unsafeSliceData_ #[37] 157 #[.slice none 0 0]).run Tryz.prog W.drew=.ok (.pointer none) W.drew:=rfl;have HRE:=kf hre;clear hre hne hown h hm;go_enter Tryz.func93,Tryz.ntmps93;go_wp2;go_region_o
  all_goals (go_wp2;go_ret;exact⟨rfl,HRE.out⟩)
 ·simp only [Value.slice.injEq] at hv;obtain⟨rfl,_,rfl⟩:=hv;have hgR:R≠g:=fun e=>hne (by rw [e];rfl);have hgd:W.drew.heap[g]?=some (.cells cur 5 (0,0)):=hg;have hsh:W.drew.shape? g=some (5,cur.size):=by simp [World.shape?,hgd]
  by_cases h0:m=0
  ·subst h0;obtain rfl:out=[]:=List.eq_nil_of_length_eq_zero hm;have hUS:∀ W2 q,(Builtin.unsafeString_ #[157,3] 9 #[.pointer q,.int .i64 0]).run Tryz.prog W2=.ok (.string .empty) W2:=fun W2 q=>Lib.run_unsafeString_none W2 _ _ _ q;by_cases hc0:c2=0
   ·subst hc0
    have hSD:(Builtin.unsafeSliceData_ #[37] 157 #[.slice (some ⟨g,0,none⟩) 0 0]).run Tryz.prog W.drew=.ok (.pointer (some ⟨W.drew.heap.size,0,none⟩)) (W.drew.alloc (.view ⟨g,0,none⟩ 5)) :=
     Lib.run_unsafeSliceData_zero W.drew _ _ 5 Tryz.underlying157 ⟨g,0,none⟩ 0 (5,cur.size) hsh
    have k2:(W.drew.alloc (.view ⟨g,0,none⟩ 5)).cell? ⟨R,1,none⟩=some (.slice (some ⟨g,0,none⟩) 0 0) :=
     (((Chg.refl NoS W.drew).alloc _).cell (p:=⟨R,1,none⟩) (z05 c1) (fun h=>h)).trans c1
    have c3:(W.alloc (.view ⟨g,0,none⟩ 5)).drew.cell? ⟨R,1,none⟩=some (.slice (some ⟨g,0,none⟩) 0 0):=k2;have c0:W.cell? ⟨R,1,none⟩=some (.slice (some ⟨g,0,none⟩) 0 0):=c1;have HRE:=kf (hre.call ((Chg.refl NoS W.drew).alloc (.view ⟨g,0,none⟩ 5)));clear hre hne hown h hm hsh hgd hg hgR htake hcs hcm hnc;go_enter Tryz.func93,Tryz.ntmps93;go_wp2;go_region_o
    all_goals (go_wp2;go_ret;exact⟨rfl,HRE.out⟩)
   ·have hSD:(Builtin.unsafeSliceData_ #[37] 157 #[.slice (some ⟨g,0,none⟩) 0 c2]).run Tryz.prog W.drew=.ok (.pointer (some ⟨g,0,none⟩)) W.drew :=
     Lib.run_unsafeSliceData_row _ _ _ _ _ _ hc0
    have HRE:=kf hre;clear hre hne hown h hm hsh hgd hg hgR htake hcs hcm hnc hc0;go_enter Tryz.func93,Tryz.ntmps93;go_wp2;go_region_o
    all_goals (go_wp2;go_ret;exact⟨rfl,HRE.out⟩)
  ·have hSD:(Builtin.unsafeSliceData_ #[37] 157 #[.slice (some ⟨g,0,none⟩) m c2]).run Tryz.prog W.drew=.ok (.pointer (some ⟨g,0,none⟩)) W.drew :=
    Lib.run_unsafeSliceData_row _ _ _ _ _ _ (by omega)
   have hml:(out.map UInt8.ofNat).length=m:=by rw [List.length_map,hm]
   have hUS:(Builtin.unsafeString_ #[157,3] 9 #[.pointer (some ⟨g,0,none⟩),.int .i64 (m:Nat)]).run Tryz.prog W.drew=.ok (.string (sb out)) (W.drew.freeze ⟨g,0,none⟩ m):=by
    have hu:=Lib.run_unsafeString_row (P:=Tryz.prog) W.drew 157 3 9 5 Tryz.underlying157 z88 g cur.size hsh (out.map UInt8.ofNat) (fun e=>h0 (by rw [<- hml,e];rfl)) (by rw [hml];omega) (by rw [hml];unfold maxLen at hcm;omega) (fun j x hx=>by
     rw [List.getElem?_map] at hx;cases hj:out[j]? with
     |none=>rw [hj] at hx;cases hx
     |some y =>
      rw [hj] at hx;simp only [Option.map_some,Option.some.injEq] at hx;subst hx;have hy:=hb y (List.mem_of_getElem? hj);have:=hown.cells (g:=g) rfl j _ (z4s hj);have e:((UInt8.ofNat y).toNat:Nat)=y:=by simp;omega
      rw [e];exact this)
    rw [hml] at hu;exact hu
   have HRE:=kf (show RE V w (W.drew.freeze ⟨g,0,none⟩ m) R p from⟨(y1v hgR m).trans hre.cell,hre.chg.freeze hbg m,hre.kb.freeze hgd m⟩);obtain⟨s,hs⟩:∃ s,sb out=s:=⟨_,rfl⟩
   rw [hs] at hUS ⊢;clear hre hne hown h hm hsh hgd hg hgR htake hcs hcm hnc hml hs;go_enter Tryz.func93,Tryz.ntmps93;go_wp2;go_region_o
   all_goals (go_wp2;go_ret;exact⟨rfl,HRE.out⟩)
theorem z6p {V w W:World} {A:Option Addr} {n c R:Nat} {last:Bool} {out:List Nat} (h:RD V w W A n c last R n out) :
  Calls Tryz.prog 130 #[.pointer (some ⟨R,0,none⟩)] W fun e W'=>e=.returned (.tuple #[.int .u8 0,.bool false])/\RD V w W' A n c last R n out:=by
 obtain⟨c2,c3,c4,f3⟩:=h.cells;have H:=kf h;clear h;go_enter Tryz.func130,Tryz.ntmps130;go_upto_region 1 with fail;go_quiet (fail);go_wp2_with fail;go_ret2;exact⟨rfl,H.out.drewN _⟩
theorem z8o {V w W:World} {A:Option Addr} {bs:List Nat} {c R p x:Nat} {last:Bool} {out:List Nat} (h:RD V w W A bs.length c last R p out) (hS:Src w 1 A bs.length c (z09 bs)) (hl:bs.length<=1000000) (hc:bs.length<=c) (hx:bs[p]?=some x) :
  Calls Tryz.prog 130 #[.pointer (some ⟨R,0,none⟩)] W fun e W'=>e=.returned (.tuple #[.int .u8 (x:Nat),.bool true])/\RD V w W' A bs.length c last R (p+1) out:=by
 have hp:p<bs.length:=(List.getElem?_eq_some_iff.1 hx).1;obtain⟨c2,c3,c4,f3⟩:=h.cells;have hR:=h.new;obtain⟨b,off,rfl,hcell⟩:=z7f hS h.chg (by omega);have c0:=hcell p x hx
 have hbR:b≠R:=by
  have h0:=(z7f hS (Chg.refl NoS w) (by omega))
  obtain⟨b',off',e,hc'⟩:=h0;cases e
  have:=z05 (hc' p x hx);simp only at this;omega
 have H:=kf h;obtain⟨n,hn⟩:∃ n,bs.length=n:=⟨_,rfl⟩
 rw [hn] at c2 hp hl hc H ⊢;clear h hS hx hcell hn;have e1:((p:Int)==n)=false:=by simp;omega
 have e2:(p==n)=false:=by simp;omega
 have i1:((p:Int)+1-1)=p:=by omega
 have i2:((p:Int)+1).toNat=p+1:=by omega
 go_enter Tryz.func130,Tryz.ntmps130;go_upto_region 1 with fail;go_quiet (fail);go_upto_region 4 with fail;go_quiet (fail);go_wp2_with fail;go_ret2;exact⟨rfl,((H.out.drewN _).at_ _).drewN _⟩
theorem z6q {V w W:World} {A:Option Addr} {n c R:Nat} {last:Bool} {out:List Nat} (h:RD V w W A n c last R n out) (y:Nat) :
  Calls Tryz.prog 134 #[.pointer (some ⟨R,0,none⟩),.int .u8 (y:Nat)] W fun e W'=>e=.returned (.bool false)/\RD V w W' A n c last R n out:=by
 obtain⟨c2,c3,c4,f3⟩:=h.cells;have H:=kf h;clear h;go_enter Tryz.func134,Tryz.ntmps134;go_upto_region 1 with fail;go_quiet (fail);go_wp2_with fail;go_ret;exact⟨rfl,H.out.drewN _⟩
theorem z8p {V w W:World} {A:Option Addr} {bs:List Nat} {c R p x:Nat} {last:Bool} {out:List Nat} (h:RD V w W A bs.length c last R p out) (hS:Src w 1 A bs.length c (z09 bs)) (hl:bs.length<=1000000) (hc:bs.length<=c) (hx:bs[p]?=some x) (y:Nat) (hy:x≠y) :
  Calls Tryz.prog 134 #[.pointer (some ⟨R,0,none⟩),.int .u8 (y:Nat)] W fun e W'=>e=.returned (.bool false)/\RD V w W' A bs.length c last R p out:=by
 have hp:p<bs.length:=(List.getElem?_eq_some_iff.1 hx).1;obtain⟨c2,c3,c4,f3⟩:=h.cells;have hR:=h.new;obtain⟨b,off,rfl,hcell⟩:=z7f hS h.chg (by omega);have c0:=hcell p x hx
 have hbR:b≠R:=by
  have h0:=(z7f hS (Chg.refl NoS w) (by omega))
  obtain⟨b',off',e,hc'⟩:=h0;cases e
  have:=z05 (hc' p x hx);simp only at this;omega
 have H:=kf h;obtain⟨n,hn⟩:∃ n,bs.length=n:=⟨_,rfl⟩
 rw [hn] at c2 hp hl hc H ⊢;clear h hS hx hcell hn;have e1:((p:Int)==n)=false:=by simp;omega
 have e2:(p==n)=false:=by simp;omega
 have e3:((x:Int) != y)=true:=by simp;omega
 have e4:(x != y)=true:=by simp;omega
 go_enter Tryz.func134,Tryz.ntmps134;go_upto_region 1 with fail;go_quiet (fail);go_wp2_with fail;go_ret;exact⟨rfl,H.out.drewN _⟩
theorem z8q {V w W:World} {A:Option Addr} {bs:List Nat} {c R p x:Nat} {last:Bool} {out:List Nat} (h:RD V w W A bs.length c last R p out) (hS:Src w 1 A bs.length c (z09 bs)) (hl:bs.length<=1000000) (hc:bs.length<=c) (hx:bs[p]?=some x) :
  Calls Tryz.prog 134 #[.pointer (some ⟨R,0,none⟩),.int .u8 (x:Nat)] W fun e W'=>e=.returned (.bool true)/\RD V w W' A bs.length c last R (p+1) out:=by
 have hp:p<bs.length:=(List.getElem?_eq_some_iff.1 hx).1;obtain⟨c2,c3,c4,f3⟩:=h.cells;have hR:=h.new;obtain⟨b,off,rfl,hcell⟩:=z7f hS h.chg (by omega);have c0:=hcell p x hx
 have hbR:b≠R:=by
  have h0:=(z7f hS (Chg.refl NoS w) (by omega))
  obtain⟨b',off',e,hc'⟩:=h0;cases e
  have:=z05 (hc' p x hx);simp only at this;omega
 have H:=kf h;obtain⟨n,hn⟩:∃ n,bs.length=n:=⟨_,rfl⟩
 rw [hn] at c2 hp hl hc H ⊢;clear h hS hx hcell hn;have e1:((p:Int)==n)=false:=by simp;omega
 have e2:(p==n)=false:=by simp;omega
 go_enter Tryz.func134,Tryz.ntmps134;go_upto_region 1 with fail;go_quiet (fail);go_wp2_with fail;go_ret;exact⟨rfl,(H.out.drewN _).at_ _⟩
theorem z4l {V w W:World} {A:Option Addr} {n c R p:Nat} {last:Bool} {out:List Nat} (h:RD V w W A n c last R p out) (er:Int) :
  Calls Tryz.prog 131 #[.pointer (some ⟨R,0,none⟩),.int .i64 er] W fun e W'=>e=.returned (.int .i64 (if last then er else 6))/\W=W':=by
 obtain⟨c2,c3,c4,f3⟩:=h.cells;clear h;cases last
 all_goals
  go_enter Tryz.func131,Tryz.ntmps131;go_wp2_with fail;go_ret;exact⟨rfl,rfl⟩
theorem z5d {V w W:World} {A:Option Addr} {n c R p:Nat} {last:Bool} {out:List Nat} (h:RD V w W A n c last R p out) (hb:∀ d∈out,d<256) (hl:out.length<=1000000) (k:Nat) :
  Calls Tryz.prog 166 #[.pointer (some ⟨R,0,none⟩),.int .i64 (k:Nat)] W fun e W'=>e=.returned (.tuple #[.agg #[.int .i64 (k:Nat),.int .i64 0,.string (sb out),.slice none 0 0],.int .i64 0])/\RE V w W' R p:=by
 have HST:=kf (fun(X:World) (hX:Chg NoS W X)=>y1d (h.call hX).here hb hl);obtain⟨s,hs⟩:∃ s,sb out=s:=⟨_,rfl⟩
 rw [hs] at HST ⊢;have hR:=h.lt;have HKB:=kf (h.kb);have hwg:=h.chg.size;clear hs h hb hl;go_enter Tryz.func166,Tryz.ntmps166;go_upto_region 1 with fail;have HNEW:=kf (Blk.new W 24 #[.int .i64 0,.int .i64 0,.string ⟨#[]⟩,.slice none 0 0]);have HCH:=kf ((Chg.refl NoS W).alloc (.cells #[.int .i64 0,.int .i64 0,.string ⟨#[]⟩,.slice none 0 0] 24));obtain⟨W1,hW1⟩:∃ W1,W1=W.alloc (.cells #[.int .i64 0,.int .i64 0,.string ⟨#[]⟩,.slice none 0 0] 24):=⟨_,rfl⟩
 rw [<- hW1] at HNEW HCH ⊢;clear hW1;obtain⟨g,hg⟩:∃ g,g=W.heap.size:=⟨_,rfl⟩
 rw [<- hg] at HNEW ⊢;have hgR:g≠R:=by omega
 have HG:=kf hg;clear hg;go_upto_region 2 with(go_at_call 93;refine(HST.out _ HCH.out).mono ?_;rintro e w3 ⟨rfl,hre⟩;have hcl:=(hre.kb _ _ _ hgR (by decide) HNEW.out).cl4;obtain⟨r0,r1,r2,r3,z0,z1,z2,z3⟩:=hcl;have HRE:=kf hre;clear hre);go_wp2_with fail;refine bodyPost_ret (v:=.tuple #[.agg #[.int .i64 (k:Nat),.int .i64 0,.string s,.slice none 0 0],.int .i64 0]) (by simp [results,Tryz.results166,go_sem,r0,r1,r2,r3]) rfl ?_;have h8:=HG.out;exact⟨rfl,((HRE.out.back (KB.chg HCH.out)).set4 hgR (by omega) (by omega) _ _ _ _).back HKB.out⟩
theorem z4q {k m:Nat} {l:List Nat} (h:l=[]\/∃ x r,l=x::r/\¬(48<=x/\x<=55)):z2c (k+1) m l=(m,0):=by
 rcases h with rfl|⟨x,r,rfl,h⟩
 ·rfl
 ·rw [z2c,if_neg h]
theorem z4p {k m x:Nat} {r:List Nat} (h:48<=x/\x<=55):z2c (k+1) m (x::r)=((z2c k (8*m+(x-48)) r).1,(z2c k (8*m+(x-48)) r).2+1):=by rw [z2c,if_pos h]
theorem y32:∀ (k:Nat) (l:List Nat) (m m':Nat),m%256=m'%256->(z2c k m l).1%256=(z2c k m' l).1%256/\(z2c k m l).2=(z2c k m' l).2:=by
 intro k;induction k with
 |zero=>intro l m m' h;exact⟨h,rfl⟩
 |succ k ih =>
  intro l m m' h;cases l with
  |nil=>exact⟨h,rfl⟩
  |cons x r =>
   by_cases hx:48<=x/\x<=55
   ·rw [z4p hx,z4p hx];have:=ih r (8*m+(x-48)) (8*m'+(x-48)) (by omega);exact⟨this.1,by simp only [];rw [this.2]⟩
   ·rw [z4q (.inr ⟨x,r,rfl,hx⟩),z4q (.inr ⟨x,r,rfl,hx⟩)];exact⟨h,rfl⟩
def v9y (V w wr:World) (A:Option Addr) (bs:List Nat) (c:Nat) (last:Bool) (R p x:Nat) (out:List Nat) (j k z:Nat):Prop :=
 RD V w wr A bs.length c last R k out/\(z2c 2 x (bs.drop p)).1%256=(z2c (2-j) z (bs.drop k)).1%256/\p+(z2c 2 x (bs.drop p)).2=k+(z2c (2-j) z (bs.drop k)).2
theorem y4a {V w W:World} {A:Option Addr} {bs:List Nat} {c R p:Nat} {last:Bool} {out:List Nat} (h:RD V w W A bs.length c last R p out) (hS:Src w 1 A bs.length c (z09 bs)) (hl:bs.length<=1000000) (hc:bs.length<=c) (hp:p<=bs.length) (hb:∀ d∈bs,d<256) (x:Nat) (hx:x<8) :
  Calls Tryz.prog 167 #[.pointer (some ⟨R,0,none⟩),.int .u8 (x:Nat)] W fun e W'=>e=.returned (.int .u8 ((z2c 2 x (bs.drop p)).1%256:Nat))/\RD V w W' A bs.length c last R (p+(z2c 2 x (bs.drop p)).2) out:=by
 have HR:=h.new;have HO:=kf (show v9y V w W A bs c last R p x out 0 p x from⟨h,rfl,rfl⟩);have HCELL:=kf (fun(X:World) (hX:Chg NoS w X) (hn:0<bs.length)=>z7f hS hX hn);have HCELL0:=kf (fun(hn:0<bs.length)=>z7f hS (Chg.refl NoS w) hn);have HB:=kf hb;obtain⟨n,hn⟩:∃ n,bs.length=n:=⟨_,rfl⟩
 have HN:=kf hn;rw [hn] at hl hc hp;clear h hS hn hb;go_enter Tryz.func167,Tryz.ntmps167;go_upto_region 2 with fail;go_loopw [1,5] (fun vz vj wr=>∃ j k z:Nat,j<=2/\k<=n/\z<256/\vz=.int .u8 (z:Nat)/\vj=.int .i64 (j:Nat)/\Hid (v9y V w wr A bs c last R p x out j k z)) (fun _ vj _=>2-(intOf vj).toNat)
 case atStart=>exact⟨0,p,x,by omega,hp,by omega,rfl,rfl,HO⟩
 case round =>
  obtain⟨j,k,z,hj,hk,hz,rfl,rfl,HI⟩:=hrel;obtain⟨c2,c3,c4,f3⟩:=HI.out.1.cells;rw [HN.out] at c2;by_cases hj2:j=2
  ·subst hj2;have HE:=kf HI.out.2;go_wp2_with fail;go_ret;refine⟨?_,?_⟩
   ·rw [HE.out.1,show z2c (2-2) z (bs.drop k)=(z,0) from rfl];simp only [];rw [Nat.mod_eq_of_lt hz];rfl
   ·rw [HE.out.2];exact HI.out.1
  obtain⟨i,hi⟩:∃ i,2-j=i+1:=⟨1-j,by omega⟩
  have j1:(j:Int)<2:=by omega
  by_cases hkn:k=n
  ·have HE:=kf (show z2c (2-j) z (bs.drop k)=(z,0) from by rw [hi,z4q (.inl (List.drop_of_length_le (by rw [HN.out];omega)))]);have HE2:=kf HI.out.2;subst hkn;clear hi hj2;go_upto_region 3 with fail;go_quiet (fail);go_wp2_with fail;go_ret;refine⟨?_,?_⟩
   ·rw [HE2.out.1,HE.out];simp only [];rw [Nat.mod_eq_of_lt hz];rfl
   ·rw [HE2.out.2,HE.out];exact HI.out.1.drewN _
  obtain⟨y,hy,hd⟩:=z1f (bs:=bs) (k:=k) (by rw [HN.out];omega);obtain⟨b,off,rfl,hcell⟩:=HCELL.out wr HI.out.1.chg (by rw [HN.out];omega);have c0:=hcell k y hy
  have hbR:b≠R:=by
   obtain⟨b',off',e,hc'⟩:=HCELL0.out (by rw [HN.out];omega);cases e
   have:=z05 (hc' k y hy);simp only at this;omega
  have hy256:=HB.out y (List.mem_of_getElem? hy);have k1:(k:Int)<n:=by omega
  have k2:((k:Int)==n)=false:=by simp;omega
  have k3:(k==n)=false:=by simp;omega
  have HE2:=kf HI.out.2;by_cases hoct:48<=y/\y<=55
  ·have HD:=kf (show z2c (2-j) z (bs.drop k)=((z2c i (8*z+(y-48)) (bs.drop (k+1))).1,(z2c i (8*z+(y-48)) (bs.drop (k+1))).2+1) from by rw [hi,hd,z4p hoct]);have HI1:=kf (show 2-(j+1)=i from by omega);obtain⟨o1,o2⟩:=hoct;obtain⟨t,ht⟩:∃ t,t=8*z%256:=⟨_,rfl⟩
   obtain⟨u,hu⟩:∃ u,u=y-48:=⟨_,rfl⟩
   obtain⟨v,hv⟩:∃ v,v=(t+u)%256:=⟨_,rfl⟩
   have w1:IntKind.u8.wrap (8*(z:Int))=(t:Int):=by rw [IntKind.wrap_u8];omega
   have w2:IntKind.u8.wrap ((y:Int)-48)=(u:Int):=by rw [IntKind.wrap_u8];omega
   have w3:IntKind.u8.wrap ((t:Int)+(u:Int))=(v:Int):=by rw [IntKind.wrap_u8];omega
   have HV:=kf (show(8*z+(y-48))%256=v%256 from by omega);have hv2:v<256:=by omega
   have m1:decide ((y:Int)<48)=false:=by simp;omega
   have m2:decide ((55:Int)<y)=false:=by simp;omega
   have m3:decide (y<48)=false:=by simp;omega
   have m4:decide (55<y)=false:=by simp;omega
   clear ht hu hv hi hj2 hkn hy hd hcell hy256 o1 o2;go_upto_region 3 with fail;go_quiet (fail);go_upto_region 4 with fail;go_quiet (fail);go_wp2_with fail;go_roundw
   case rel =>
    refine⟨j+1,k+1,v,by omega,by omega,hv2,rfl,by go_num,kf ⟨(HI.out.1.drewN _).at_ _,?_,?_⟩⟩
    ·rw [HE2.out.1,HD.out,HI1.out];exact(y32 i _ _ _ HV.out).1
    ·rw [HE2.out.2,HD.out,HI1.out,<- (y32 i (bs.drop (k+1)) _ _ HV.out).2];simp only [];omega
   case measure=>simp [intOf];omega
  ·have HE:=kf (show z2c (2-j) z (bs.drop k)=(z,0) from by rw [hi,z4q (.inr ⟨y,_,hd,hoct⟩)]);clear hi hd hj2 hkn hcell hy;by_cases hlo:y<48
   ·clear hoct;have m1:decide ((y:Int)<48)=true:=by simp;omega
    have m3:decide (y<48)=true:=by simp;omega
    go_upto_region 3 with fail;go_quiet (fail);go_wp2_with fail;go_ret;refine⟨?_,?_⟩
    ·rw [HE2.out.1,HE.out];simp only [];rw [Nat.mod_eq_of_lt hz];rfl
    ·rw [HE2.out.2,HE.out];exact HI.out.1.drewN _
   ·have hhi:55<y:=by omega
    clear hoct;have m1:decide ((y:Int)<48)=false:=by simp;omega
    have m3:decide (y<48)=false:=by simp;omega
    have m2:decide ((55:Int)<y)=true:=by simp;omega
    have m4:decide (55<y)=true:=by simp;omega
    go_upto_region 3 with fail;go_quiet (fail);go_wp2_with fail;go_ret;refine⟨?_,?_⟩
    ·rw [HE2.out.1,HE.out];simp only [];rw [Nat.mod_eq_of_lt hz];rfl
    ·rw [HE2.out.2,HE.out];exact HI.out.1.drewN _
open Go
def z2a (K:Nat->Act->World->Prop) (Q:Exit->Act->World->Prop):Exit->Act->World->Prop
 |.goto l,a,w=>K l a w
 |e,a,w=>Q e a w
section
variable {K:Nat->Act->World->Prop} {Q:Exit->Act->World->Prop} {a:Act} {w:World}
end
theorem y72 {K K':Nat->Act->World->Prop} {Q:Exit->Act->World->Prop} (h:∀ l a w,K l a w->K' l a w):∀ e a w,z2a K Q e a w->z2a K' Q e a w:=by
 intro e a w hq;cases e with
 |goto l'=>exact h _ _ _ hq
 |normal=>exact hq
 |exit id=>exact hq
 |ret=>exact hq
 |panic ch=>exact hq
 |outgrown=>exact hq
theorem z9h {P:Program} {x:Code} {Q:Exit->Act->World->Prop} {a:Act} {w:World} (h:x.wp P Q a w):(Code.seq .skip x).wp P Q a w :=
 wp_seq (wp_skip h)
theorem z38 {P:Program} {a:Act} {w:World} {Q:Exit->Act->World->Prop} {c:Code} (X:Nat->Code) (J:Nat->Nat->Act->World->Prop)
  (hf:∀ n l a w,J l n a w->findLabel c l=some (.seq .skip (X l)))
  (pass:∀ n l a w,J l n a w->(X l).wp P (z2a (fun l' a' w'=>∃ m,m<n/\J l' m a' w') Q) a w)
  (first:(∀ n l a w,J l n a w->(X l).wp P (z2a (fun l' a' w'=>∃ m,J l' m a' w') Q) a w)->c.wp P (z2a (fun l' a' w'=>∃ m,J l' m a' w') Q) a w) :
  (Code.scope c).wp P Q a w:=by
 have first:=first (fun n l a w h=>Code.wp_mono (y72 (fun _ _ _ ⟨m,_,hm⟩=>⟨m,hm⟩)) (pass n l a w h))
 intro b k cs
 have two:∀ (r:Code) a w (K:Nat->Act->World->Prop),r.wp P (z2a K Q) a w ->
   (∀ l a1 w1,K l a1 w1->∃ x,findLabel c l=some x/\∃ e a' w',Q e a' w'/\Arrives P (lone (b.at a1 (.code x::.inScope c::k)) cs w1) b k cs e a' w') ->
   ∃ e a' w',Q e a' w'/\Arrives P (lone (b.at a (.code r::.inScope c::k)) cs w) b k cs e a' w':=by
  intro r a w K hr hK;obtain⟨e,a₁,w₁,hq,harr⟩:=hr b (.inScope c::k) cs;cases e with
  |normal=>exact⟨.normal,a₁,w₁,hq,Steps.trans harr (.one step_inScope)⟩
  |exit id=>exact⟨.exit id,a₁,w₁,hq,fun k' hk=>harr k' (by simp [exitTo,hk])⟩
  |goto l' =>
   obtain⟨x,hx,e₂,a₂,w₂,hq₂,harr₂⟩:=hK l' a₁ w₁ hq;have hg:gotoIn l' (.inScope c::k)=some (.code x::.inScope c::k):=by simp [gotoIn,hx]
   exact⟨e₂,a₂,w₂,hq₂,.of_steps (harr _ hg) harr₂⟩
  |ret=>exact⟨_,a₁,w₁,hq,harr⟩
  |panic ch=>exact⟨_,a₁,w₁,hq,harr⟩
  |outgrown=>exact⟨_,a₁,w₁,hq,harr⟩
 have key:∀ n l a w,J l n a w->∃ x,findLabel c l=some x/\∃ e a' w',Q e a' w'/\Arrives P (lone (b.at a (.code x::.inScope c::k)) cs w) b k cs e a' w':=by
  intro n;induction n using Nat.strongRecOn with
  |_ n ih =>
   intro l a w hJ;exact⟨_,hf n l a w hJ,two _ a w _ (z9h (pass n l a w hJ)) (fun l' a1 w1 ⟨m,hm,hJ'⟩=>ih m hm l' a1 w1 hJ')⟩
 obtain⟨e,a₁,w₁,hq,harr⟩:=two c a w _ first (fun l' a1 w1 ⟨m,hJ'⟩=>key m l' a1 w1 hJ')
 cases e with
 |normal=>exact⟨.normal,a₁,w₁,hq,.head step_scope harr⟩
 |exit id=>exact⟨.exit id,a₁,w₁,hq,fun k' hk=>.head step_scope (harr k' hk)⟩
 |goto l=>exact⟨.goto l,a₁,w₁,hq,fun k' hk=>.head step_scope (harr k' hk)⟩
 |ret=>exact⟨_,a₁,w₁,hq,.of_steps (.one step_scope) harr⟩
 |panic ch=>exact⟨_,a₁,w₁,hq,.of_steps (.one step_scope) harr⟩
 |outgrown=>exact⟨_,a₁,w₁,hq,.of_steps (.one step_scope) harr⟩
def v62 (J0 J1 J2:Nat->Act->World->Prop) (l n:Nat) (a:Act) (w:World):Prop:=(l=0/\J0 n a w)\/(l=1/\J1 n a w)\/(l=2/\J2 n a w)
theorem y4y {P:Program} {a:Act} {w:World} {Q:Exit->Act->World->Prop} {c x0 x1 x2:Code} (J0 J1 J2:Nat->Act->World->Prop)
  (h0:findLabel c 0=some (.seq .skip x0)) (h1:findLabel c 1=some (.seq .skip x1)) (h2:findLabel c 2=some (.seq .skip x2))
  (pass0:∀ n a w,J0 n a w->x0.wp P (z2a (fun l' a' w'=>∃ m,m<n/\v62 J0 J1 J2 l' m a' w') Q) a w)
  (pass1:∀ n a w,J1 n a w->x1.wp P (z2a (fun l' a' w'=>∃ m,m<n/\v62 J0 J1 J2 l' m a' w') Q) a w)
  (pass2:∀ n a w,J2 n a w->x2.wp P (z2a (fun l' a' w'=>∃ m,m<n/\v62 J0 J1 J2 l' m a' w') Q) a w)
  (first:(∀ n a w,J0 n a w->x0.wp P (z2a (fun l' a' w'=>∃ m,v62 J0 J1 J2 l' m a' w') Q) a w)->c.wp P (z2a (fun l' a' w'=>∃ m,v62 J0 J1 J2 l' m a' w') Q) a w) :
  (Code.scope c).wp P Q a w:=by
 refine z38 (fun l=>if l=0 then x0 else if l=1 then x1 else x2) (v62 J0 J1 J2) ?_ ?_ ?_
 ·rintro n l a w (⟨rfl,_⟩|⟨rfl,_⟩|⟨rfl,_⟩)
  ·exact h0
  ·exact h1
  ·exact h2
 ·rintro n l a w (⟨rfl,h⟩|⟨rfl,h⟩|⟨rfl,h⟩)
  ·exact pass0 n a w h
  ·exact pass1 n a w h
  ·exact pass2 n a w h
 ·intro hp;exact first (fun n a w h=>hp n 0 a w (.inl ⟨rfl,h⟩))
def v63 (J0 J1:Nat->Act->World->Prop) (l n:Nat) (a:Act) (w:World):Prop:=(l=0/\J0 n a w)\/(l=1/\J1 n a w)
theorem z6f {P:Program} {a:Act} {w:World} {Q:Exit->Act->World->Prop} {c x0 x1:Code} (J0 J1:Nat->Act->World->Prop)
  (h0:findLabel c 0=some (.seq .skip x0)) (h1:findLabel c 1=some (.seq .skip x1))
  (pass0:∀ n a w,J0 n a w->x0.wp P (z2a (fun l' a' w'=>∃ m,m<n/\v63 J0 J1 l' m a' w') Q) a w)
  (pass1:∀ n a w,J1 n a w->x1.wp P (z2a (fun l' a' w'=>∃ m,m<n/\v63 J0 J1 l' m a' w') Q) a w)
  (first:(∀ n a w,J0 n a w->x0.wp P (z2a (fun l' a' w'=>∃ m,v63 J0 J1 l' m a' w') Q) a w)->(∀ n a w,J1 n a w->x1.wp P (z2a (fun l' a' w'=>∃ m,v63 J0 J1 l' m a' w') Q) a w)->c.wp P (z2a (fun l' a' w'=>∃ m,v63 J0 J1 l' m a' w') Q) a w) :
  (Code.scope c).wp P Q a w:=by
 refine z38 (fun l=>if l=0 then x0 else x1) (v63 J0 J1) ?_ ?_ ?_
 ·rintro n l a w (⟨rfl,_⟩|⟨rfl,_⟩)
  ·exact h0
  ·exact h1
 ·rintro n l a w (⟨rfl,h⟩|⟨rfl,h⟩)
  ·exact pass0 n a w h
  ·exact pass1 n a w h
 ·intro hp;exact first (fun n a w h=>hp n 0 a w (.inl ⟨rfl,h⟩)) (fun n a w h=>hp n 1 a w (.inr ⟨rfl,h⟩))
def v8t (J0:Nat->Act->World->Prop) (l n:Nat) (a:Act) (w:World):Prop:=l=0/\J0 n a w
theorem z9i {P:Program} {a:Act} {w:World} {Q:Exit->Act->World->Prop} {c x0:Code} (J0:Nat->Act->World->Prop)
  (h0:findLabel c 0=some (.seq .skip x0))
  (pass0:∀ n a w,J0 n a w->x0.wp P (z2a (fun l' a' w'=>∃ m,m<n/\v8t J0 l' m a' w') Q) a w)
  (first:(∀ n a w,J0 n a w->x0.wp P (z2a (fun l' a' w'=>∃ m,v8t J0 l' m a' w') Q) a w)->c.wp P (z2a (fun l' a' w'=>∃ m,v8t J0 l' m a' w') Q) a w) :
  (Code.scope c).wp P Q a w:=by
 refine z38 (fun _=>x0) (v8t J0) ?_ ?_ ?_
 ·rintro n l a w ⟨rfl,_⟩;exact h0
 ·rintro n l a w ⟨rfl,h⟩;exact pass0 n a w h
 ·intro hp;exact first (fun n a w h=>hp n 0 a w ⟨rfl,h⟩)
theorem z2s (t:Array Value) (n:Nat) (h:t.size=n):t=((List.range n).map (fun i=>t.getD i undef)).toArray:=by
 apply Array.ext
 ·simp [h]
 ·intro i h1 h2;simp [Array.getD,h1]
section
variable {last:Bool} {deep k y:Nat} {out l:List Nat}
theorem y21 (last:Bool):y3j last≠0:=by cases last<;>decide
theorem v33:z13 last deep out k [13]=z13 last deep (out++[10]) (k+1) []:=by
 cases last
 ·rw [v34 rfl rfl,z2d];rfl
 ·exact y57 (fun e=>by cases e.2) (by simp)
theorem v6c:z13 last deep out k [92]=(y3j last,[],0):=by
 rw [y16 (by exact y21 last)];rfl
theorem v30:z13 last deep out k (92::10::l)=z13 last deep out (k+2) l:=by
 have e:z3w last (10::l)=(0,none,1):=rfl;rw [z7p (by rw [e]),e];simp
theorem y8u:z13 last deep out k [92,13]=z13 last deep out (k+2) []:=by
 cases last
 ·have e:z3w false [13]=(6,none,0):=rfl;rw [y16 (by rw [e];decide),e,z2d];rfl
 ·have e:z3w true [13]=(0,none,1):=rfl;rw [z7p (by rw [e]),e];simp
theorem y8w (h:l.head?=some 10):z13 last deep out k (92::13::l)=z13 last deep out (k+3) (l.drop 1):=by
 have e:z3w last (13::l)=(0,none,2):=by
  rw [z4x];simp only [show ¬13=110 by decide,show ¬13=114 by decide,show ¬13=116 by decide,show ¬13=98 by decide,show ¬13=102 by decide,show ¬13=10 by decide,if_false,if_true];rw [if_neg (fun e=>by rw [e.1] at h;cases h),if_pos h]
 rw [z7p (by rw [e]),e];simp
theorem y8v (h:¬l.head?=some 10) (h2:l≠[]):z13 last deep out k (92::13::l)=z13 last deep out (k+2) l:=by
 have e:z3w last (13::l)=(0,none,1):=by
  rw [z4x];simp only [show ¬13=110 by decide,show ¬13=114 by decide,show ¬13=116 by decide,show ¬13=98 by decide,show ¬13=102 by decide,show ¬13=10 by decide,if_false,if_true];rw [if_neg (fun e=>h2 e.1),if_neg h]
 rw [z7p (by rw [e]),e];simp
theorem y8t (h:48<=y/\y<=55):z13 last deep out k (92::y::l)=z13 last deep (out++[(z2c 2 (y-48) l).1%256]) (k+2+(z2c 2 (y-48) l).2) (l.drop (z2c 2 (y-48) l).2):=by
 have h3:z2c 3 0 (y::l)=((z2c 2 (y-48) l).1,(z2c 2 (y-48) l).2+1):=by rw [z4p h];simp
 have hle:=y1j 2 (y-48) l;obtain⟨m,hm⟩:∃ m,z2c 2 (y-48) l=m:=⟨_,rfl⟩
 rw [hm] at h3 hle ⊢
 have e:z3w last (y::l)=if m.2+1<3/\(y::l).length<=m.2+1/\last=false then(6,none,0) else(0,some (m.1%256),m.2+1):=by
  rw [z4x,if_neg (by omega),if_neg (by omega),if_neg (by omega),if_neg (by omega),if_neg (by omega),if_neg (by omega),if_neg (by omega),if_neg (by omega),h3]
 by_cases hc:m.2+1<3/\(y::l).length<=m.2+1/\last=false
 ·rw [if_pos hc] at e;have hd:l.drop m.2=[]:=List.drop_of_length_le (by have:=hc.2.1;simp only [List.length_cons] at this;omega);rw [y16 (by rw [e];decide),e,hd,z2d,hc.2.2];rfl
 ·rw [if_neg hc] at e;rw [z7p (by rw [e]),e];simp only [Option.toList_some,List.drop_succ_cons];rw [show k+1+(m.2+1)=k+2+m.2 by omega]
theorem v6d (h10:y≠10) (h13:y≠13) (h:¬(48<=y/\y<=55)):z13 last deep out k (92::y::l)=z13 last deep (out++[mnt y]) (k+2) l:=by
 have e:z3w last (y::l)=(0,some (mnt y),1):=by
  unfold mnt;rw [z4x];repeat' split
  all_goals first
   |rfl
   |omega
 rw [z7p (by rw [e]),e];simp
end
def TkV (kind:Nat) (R:Int × List Nat):Value:=.tuple #[if R.1=0 then .agg #[.int .i64 (kind:Nat),.int .i64 0,.string (sb R.2),.slice none 0 0] else .agg #[.int .i64 0,.int .i64 0,.string ⟨#[]⟩,.slice none 0 0],.int .i64 R.1]
def PTo (V w:World) (R kind:Nat) (r:Int × List Nat × Nat) (e:Ending) (W:World):Prop:=e=.returned (TkV kind (r.1,r.2.1))/\∃ p,(r.1=0->p=r.2.2)/\RE V w W R p
def TxR (V w:World) (A:Option Addr) (bs:List Nat) (c:Nat) (last:Bool) (R g p:Nat) (k deep:Nat) (out:List Nat) (w':World):Prop :=
 RD V w w' A bs.length c last R k out/\Blk w' g 24 #[.int .i64 0,.int .i64 0,.string ⟨#[]⟩,.slice none 0 0]/\(∀ d∈out,d<256)
def q10 (V w:World) (A:Option Addr) (bs:List Nat) (c:Nat) (last:Bool) (R g p:Nat) (n:Nat) (x:Act) (w':World):Prop :=
 x.defers=[]/\x.tmps.size=80/\x.tmps.getD 0 undef=.pointer (some ⟨R,0,none⟩)/\x.tmps.getD 2 undef=.pointer (some ⟨g,0,none⟩)/\∃ (k deep:Nat) (out:List Nat),x.tmps.getD 4 undef=.int .i64 (deep:Nat)/\n=2*(bs.length-k)+1/\k<=bs.length/\1<=deep/\deep<=k+1/\out.length<=k /\
  Hid (TxR V w A bs c last R g p k deep out w'/\z13 last 1 [] p (bs.drop p)=z13 last deep out k (bs.drop k))
def q0z (V w:World) (A:Option Addr) (bs:List Nat) (c:Nat) (last:Bool) (R g p:Nat) (n:Nat) (x:Act) (w':World):Prop :=
 x.defers=[]/\x.tmps.size=80/\x.tmps.getD 0 undef=.pointer (some ⟨R,0,none⟩)/\x.tmps.getD 2 undef=.pointer (some ⟨g,0,none⟩)/\∃ (k deep:Nat) (out:List Nat),n=0 /\
  Hid (TxR V w A bs c last R g p k deep out w'/\z13 last 1 [] p (bs.drop p)=(y3j last,[],0))
def q0y (V w:World) (A:Option Addr) (bs:List Nat) (c:Nat) (last:Bool) (R g p:Nat) (n:Nat) (x:Act) (w':World):Prop :=
 x.defers=[]/\x.tmps.size=80/\x.tmps.getD 0 undef=.pointer (some ⟨R,0,none⟩)/\x.tmps.getD 2 undef=.pointer (some ⟨g,0,none⟩)/\∃ (k deep:Nat) (out:List Nat),x.tmps.getD 4 undef=.int .i64 (deep:Nat)/\n=2*(bs.length-(k+1))+2/\k+1<=bs.length/\1<=deep/\deep<=k+1/\out.length<=k /\
  Hid (TxR V w A bs c last R g p (k+1) deep out w'/\z13 last 1 [] p (bs.drop p)=z13 last deep out k (92::bs.drop (k+1)))
theorem z8i {x:Act} {v0 v2:Value} {C:Act->Prop} (h1:x.defers=[]) (h2:x.tmps.size=80) (h3:x.tmps.getD 0 undef=v0) (h4:x.tmps.getD 2 undef=v2)
  (k:∀ f:Nat->Value,f 4=x.tmps.getD 4 undef->C { tmps:=#[v0,f 1,v2,f 3,f 4,f 5,f 6,f 7,f 8,f 9,f 10,f 11,f 12,f 13,f 14,f 15,f 16,f 17,f 18,f 19,f 20,f 21,f 22,f 23,f 24,f 25,f 26,f 27,f 28,f 29,f 30,f 31,f 32,f 33,f 34,f 35,f 36,f 37,f 38,f 39,f 40,f 41,f 42,f 43,f 44,f 45,f 46,f 47,f 48,f 49,f 50,f 51,f 52,f 53,f 54,f 55,f 56,f 57,f 58,f 59,f 60,f 61,f 62,f 63,f 64,f 65,f 66,f 67,f 68,f 69,f 70,f 71,f 72,f 73,f 74,f 75,f 76,f 77,f 78,f 79],defers:=[] }):C x:=by
 obtain⟨t,d⟩:=x;simp only at h1 h2 h3 h4;subst h1;have h5:=k (fun i=>t.getD i undef) rfl;rw [<- h3,<- h4] at h5;rw [z2s t 80 h2];exact h5
def skT (bs:List Nat) (k:Nat):Nat:=if k<=bs.length then k+skp false (bs.drop k) else bs.length
def q11 (w:World) (bs:List Nat) (A:Option Addr) (c:Nat) (r:Nat) (n:Nat) (x:Act) (w':World):Prop :=
 x.defers=[]/\x.tmps.size=49/\x.tmps.getD 0 undef=.slice A bs.length c/\∃ k:Nat,x.tmps.getD 1 undef=.int .i64 (k:Nat)/\n=3*(bs.length-k)+1/\w'=w/\Hid (r=skT bs k)
def q12 (w:World) (bs:List Nat) (A:Option Addr) (c:Nat) (r:Nat) (n:Nat) (x:Act) (w':World):Prop :=
 x.defers=[]/\x.tmps.size=49/\x.tmps.getD 0 undef=.slice A bs.length c/\∃ k:Nat,x.tmps.getD 1 undef=.int .i64 (k:Nat)/\k<=bs.length/\w'=w/\(n=3*(bs.length-k)+2\/(n=3*(bs.length-k)/\Hid (bs[k]?=some 37)))/\Hid (r=k+skp true (bs.drop k))
theorem y2i {x:Act} {v0:Value} {C:Act->Prop} (h1:x.defers=[]) (h2:x.tmps.size=49) (h3:x.tmps.getD 0 undef=v0)
  (k:∀ f:Nat->Value,f 1=x.tmps.getD 1 undef->C { tmps:=#[v0,f 1,f 2,f 3,f 4,f 5,f 6,f 7,f 8,f 9,f 10,f 11,f 12,f 13,f 14,f 15,f 16,f 17,f 18,f 19,f 20,f 21,f 22,f 23,f 24,f 25,f 26,f 27,f 28,f 29,f 30,f 31,f 32,f 33,f 34,f 35,f 36,f 37,f 38,f 39,f 40,f 41,f 42,f 43,f 44,f 45,f 46,f 47,f 48],defers:=[] }):C x:=by
 obtain⟨t,d⟩:=x;simp only at h1 h2 h3;subst h1;have h5:=k (fun i=>t.getD i undef) rfl;rw [<- h3] at h5;rw [z2s t 49 h2];exact h5
theorem v6t {y:Nat} {l:List Nat} (h:y=10\/y=13):skp true (y::l)=skp false (y::l):=v3k l h
theorem y9v (bs:List Nat) (A:Option Addr) (c p:Nat) (w:World) (hS:Src w 1 A bs.length c (z09 bs)) (hl:bs.length<=1000000) (hc:bs.length<=c) :
  Calls Tryz.prog 103 #[.slice A bs.length c,.int .i64 (p:Nat)] w fun e w'=>e=.returned (.int .i64 (skT bs p:Nat))/\w=w':=by
 have HCELL:=kf (fun(hn:0<bs.length)=>z7f hS (Chg.refl NoS w) hn);obtain⟨r,hr⟩:∃ r,r=skT bs p:=⟨_,rfl⟩
 have HR:=kf hr;rw [<- hr];clear hS hr;go_enter Tryz.func103,Tryz.ntmps103;go_wp2;refine z6f (q12 w bs A c r) (q11 w bs A c r) rfl rfl ?pass0 ?pass1 ?first
 case first =>
  intro _ hpass;have HPass:=kf hpass;clear hpass;go_wp2;go_step3;rename_i hK;refine hK _ _ (HPass.out _ _ _ ⟨rfl,rfl,rfl,p,rfl,rfl,rfl,HR⟩)
 case pass1 =>
  intro n x w1 hx;obtain⟨h1,h2,h3,k,h4,rfl,rfl,HT⟩:=hx;refine y2i h1 h2 h3 (C:=fun y=>Code.wp _ _ _ y w1) ?_;intro f hf;rw [h4] at hf;simp only [hf];clear h1 h2 h3 h4 hf;by_cases hkn:bs.length<=k
  ·have HE:=kf (show r=bs.length from by
    rw [HT.out,skT];split
    ·rw [List.drop_of_length_le hkn];show k+0=_;omega
    ·rfl)
   have d1:decide ((bs.length:Int)<=k)=true:=by simp;omega
   go_wp2_with fail;simp only [z2a];go_ret;exact⟨y1b (by rw [HE.out]),rfl⟩
  obtain⟨x,hx,hd⟩:=z1f (bs:=bs) (k:=k) (by omega);obtain⟨b,off,rfl,hcell⟩:=HCELL.out (by omega);have c0:=hcell k x hx;have d1:decide ((bs.length:Int)<=k)=false:=by simp;omega
  have d2:(k:Int)<bs.length:=by omega
  have HV:=kf (show r=k+skp false (x::bs.drop (k+1)) from by rw [HT.out,skT,if_pos (by omega),hd]);have HX:=kf hx;have HD:=kf hd;have hkl:k<bs.length:=by omega
  clear hcell hx hd hkn;by_cases h37:x=37
  ·subst h37;go_wp2_with fail;go_step3;refine⟨3*(bs.length-k),by omega,.inl ⟨rfl,rfl,rfl,rfl,k,rfl,by omega,rfl,.inr ⟨rfl,HX⟩,kf ?_⟩⟩;rw [HV.out,v6u,HD.out]
  have e37:((x:Int)==37)=false:=by simp;omega
  have HSP:=kf (fun W=>z5b x W);by_cases hs:z5u x=true
  ·have HG:=kf hs;rw [hs] at HSP;clear hs;go_wp2_with (go_at_call 129;refine(HSP.out _).mono ?_;rintro e w3 ⟨rfl,rfl⟩);go_step3;exact⟨3*(bs.length-(k+1))+1,by omega,.inr ⟨rfl,rfl,rfl,rfl,k+1,rfl,rfl,rfl,kf (by rw [HV.out,v6r _ HG.out,skT,if_pos (by omega)];omega)⟩⟩
  ·have HG:=kf (show z5u x=false from by simpa using hs);rw [HG.out] at HSP;clear hs;go_wp2_with (go_at_call 129;refine(HSP.out _).mono ?_;rintro e w3 ⟨rfl,rfl⟩);simp only [z2a];go_ret;exact⟨y1b (by rw [HV.out,v6s _ HG.out h37];rfl),rfl⟩
 case pass0 =>
  intro n x w1 hx;obtain⟨h1,h2,h3,k,h4,hk,rfl,HN,HT⟩:=hx;refine y2i h1 h2 h3 (C:=fun y=>Code.wp _ _ _ y w1) ?_;intro f hf;rw [h4] at hf;simp only [hf];clear h1 h2 h3 h4 hf;by_cases hkn:k=bs.length
  ·subst hkn
   have hn:n=3*(bs.length-bs.length)+2:=by
    rcases HN with h|⟨_,h⟩
    ·exact h
    ·have:=(List.getElem?_eq_some_iff.1 h.out).1;omega
   go_wp2_with fail;go_step3;exact⟨3*(bs.length-bs.length)+1,by omega,.inr ⟨rfl,rfl,rfl,rfl,bs.length,rfl,rfl,rfl,kf (by rw [HT.out,skT,if_pos (Nat.le_refl _),List.drop_of_length_le (Nat.le_refl _)];rfl)⟩⟩
  obtain⟨x,hx,hd⟩:=z1f (bs:=bs) (k:=k) (by omega);obtain⟨b,off,rfl,hcell⟩:=HCELL.out (by omega);have c0:=hcell k x hx;have d2:(k:Int)<bs.length:=by omega
  have hkl:k<bs.length:=by omega
  have HV:=kf (show r=k+skp true (x::bs.drop (k+1)) from by rw [HT.out,hd]);have HD:=kf hd;have HX:=kf hx;clear hcell hx hd;by_cases hnl:x=10\/x=13
  ·have hn:n=3*(bs.length-k)+2:=by
    rcases HN with h|⟨_,h⟩
    ·exact h
    ·have e:=h.out;rw [HX.out] at e;injection e with e
     omega
   have HW:=kf (show r=skT bs k from by rw [HV.out,v6t hnl,skT,if_pos (by omega),HD.out]);clear HN;rcases hnl with rfl|rfl
   all_goals
    go_wp2_with fail;go_step3;exact⟨3*(bs.length-k)+1,by omega,.inr ⟨rfl,rfl,rfl,rfl,k,rfl,rfl,rfl,HW⟩⟩
  ·have e0:((x:Int) != 10)=true:=by simp;omega
   have e1:((x:Int) != 13)=true:=by simp;omega
   have HW:=kf (show r=k+1+skp true (bs.drop (k+1)) from by rw [HV.out,v3l _ (by omega) (by omega)];omega);have hn:3*(bs.length-k)<=n:=by rcases HN with h|⟨h,_⟩<;>omega
   clear hnl HN;go_wp2_with fail;go_step3;exact⟨3*(bs.length-(k+1))+2,by omega,.inl ⟨rfl,rfl,rfl,rfl,k+1,rfl,by omega,rfl,.inl rfl,HW⟩⟩
theorem y65 (bs:List Nat) (A:Option Addr) (c:Nat) (p:Int) (w:World) (hS:Src w 1 A bs.length c (z09 bs)) (hl:bs.length<=1000000) (hc:bs.length<=c) :
  Calls Tryz.prog 103 #[.slice A bs.length c,.int .i64 p] w fun e w'=>e=.returned (.int .i64 (y43 bs p:Nat))/\w=w':=by
 by_cases h0:p<0
 ·have HE:=kf (show y43 bs p=0 from if_pos h0);obtain⟨n,hn⟩:∃ n,n=bs.length:=⟨_,rfl⟩
  rw [<- hn] at hl ⊢;clear hS hc hn;go_enter Tryz.func103,Tryz.ntmps103;go_wp2;go_step3;go_wp2_with fail;(try simp only [Exit.noGoto_ret])
  go_ret;exact⟨y1b (by rw [HE.out];rfl),rfl⟩
 ·have h:=y9v bs A c p.toNat w hS hl hc;rw [show((p.toNat:Nat):Int)=p from by omega] at h
  have e:skT bs p.toNat=y43 bs p:=by
   rw [skT,y43,if_neg h0];by_cases h1:p<=bs.length
   ·rw [if_pos (by omega),if_pos h1]
   ·rw [if_neg (by omega),if_neg h1]
  rwa [e] at h
def fcl (q:Value) (A2:Option Addr) (n2 c2:Nat):Array Value:=#[q,.slice A2 n2 c2]
def KF (R:Nat) (V W:World):Prop:=∀ g o,g≠R->(∀ cs,o≠.cells cs 5 (0,0))->V.heap[g]?=some o->W.heap[g]?=some o
theorem KF.refl (R:Nat) (V:World):KF R V V:=fun _ _ _ _ h=>h
theorem KF.trans {R:Nat} {V W X:World} (h:KF R V W) (k:KF R W X):KF R V X:=fun g o a b c=>k g o a b (h g o a b c)
theorem KF.chg {R:Nat} {V W:World} (h:Chg NoS V W):KF R V W:=fun g o _ _ c=>(h.block g (Array.getElem?_eq_some_iff.1 c).1 (fun h=>h)).trans c
theorem KF.set {R:Nat} {V W:World} (h:KF R V W) (i:Nat) (u:Value):KF R V (W.setCell ⟨R,i,none⟩ u):=fun g o a b c=>(Below.heap_setCell W ⟨R,i,none⟩ u g a).trans (h g o a b c)
theorem KF.grown {R:Nat} {V W W':World} {base:Nat} {v:Value} {m:Nat} {xs:List Value} (h:KF R V W) (ho:W.ownsRow base 5 1 v m xs) (hg:W.grownBy W' v.ownBlock):KF R V W':=fun g o a b c=>by
 have h1:=h g o a b c;refine(hg.block g (Array.getElem?_eq_some_iff.1 h1).1 fun e=>?_).trans h1;rcases ho.2 with⟨rfl,_⟩|⟨k,cap,cur,rfl,_,hk,_⟩
 ·cases e
 ·have e2:g=k:=Option.some.inj e;subst e2;rw [hk] at h1;exact b cur (Option.some.inj h1).symm
structure FBx (V w W:World) (R:Nat) (out:List Nat) (q:Value) (A2:Option Addr) (c2:Nat):Prop where
 blk:Blk W R 132 (fcl q A2 out.length c2)
 used:q=.pointer none\/q=.pointer (some ⟨R,0,none⟩)
 own:W.ownsRow w.heap.size 5 1 (.slice A2 out.length c2) out.length (z09 out)
 chg:Chg NoS w W
 new:w.heap.size<=R
 kf:KF R V W
def FB (V w W:World) (R:Nat) (out:List Nat):Prop:=∃ q A2 c2,FBx V w W R out q A2 c2
section
variable {V w W W':World} {A2:Option Addr} {R c2:Nat} {out:List Nat} {q:Value}
theorem FBx.cells (h:FBx V w W R out q A2 c2):W.cell? ⟨R,0,none⟩=some q/\W.cell? ⟨R,1,none⟩=some (.slice A2 out.length c2):=by
 refine⟨?_,?_⟩<;>(rw [h.blk.cell];rfl)
theorem FBx.frozen (h:FBx V w W R out q A2 c2) (i:Nat):W.frozen? ⟨R,i,none⟩=false:=h.blk.frozen i
theorem FBx.shape (h:FBx V w W R out q A2 c2):W.shape? R=some (132,2):=by
 have h':W.heap[R]?=some (.cells (fcl q A2 out.length c2) 132 (0,0)):=h.blk;simp [World.shape?,h',fcl]
theorem FBx.neq (h:FBx V w W R out q A2 c2):(Value.slice A2 out.length c2).ownBlock≠some R:=z1o h.own h.blk (by decide)
theorem FBx.use (h:FBx V w W R out q A2 c2):FBx V w (W.setCell ⟨R,0,none⟩ (.pointer (some ⟨R,0,none⟩))) R out (.pointer (some ⟨R,0,none⟩)) A2 c2 :=
 ⟨h.blk.set_ 0 _,.inr rfl,z4n h.own h.neq,h.chg.setCell (p:=⟨R,0,none⟩) (fun e=>absurd e (Nat.not_lt.2 h.new)) _,h.new,h.kf.set _ _⟩
theorem FBx.call (h:FBx V w W R out q A2 c2) (hc:Chg NoS W W'):FBx V w W' R out q A2 c2 :=
 ⟨h.blk.chg hc (fun h=>h),h.used,z0p (S:=NoS) h.own hc (fun _ _ e=>e),h.chg.trans hc (fun _ _ e=>e),h.new,h.kf.trans (KF.chg hc)⟩
theorem FBx.drew (h:FBx V w W R out q A2 c2):FBx V w W.drew R out q A2 c2:=h.call ((Chg.refl _ _).drew)
theorem FBx.alloc (h:FBx V w W R out q A2 c2) (o:Obj):FBx V w (W.alloc o) R out q A2 c2:=h.call ((Chg.refl _ _).alloc o)
theorem FBx.grow {A3:Option Addr} {c3:Nat} {out':List Nat} (h:FBx V w W R out q A2 c2) (hg:W.grownBy W' (Value.slice A2 out.length c2).ownBlock)
  (ho:W'.ownsRow w.heap.size 5 1 (.slice A3 out'.length c3) out'.length (z09 out')):FBx V w (W'.setCell ⟨R,1,none⟩ (.slice A3 out'.length c3)) R out' q A3 c3:=by
 have hb:Blk W' R 132 (fcl q A2 out.length c2):=h.blk.grown hg h.neq.symm;have hne:(Value.slice A3 out'.length c3).ownBlock≠some R:=z1o ho hb (by decide);refine⟨hb.set_ 1 _,h.used,z4n ho hne,?_,h.new,(h.kf.grown h.own hg).set _ _⟩;exact(h.chg.grown hg (fun k hk e=>absurd e (Nat.not_lt.2 (h.own.lt k hk).1))).setCell (p:=⟨R,1,none⟩) (fun e=>absurd e (Nat.not_lt.2 h.new)) _
theorem FBx.at_cells (h:FBx V w W R out q A2 c2) (hg:W.grownBy W' (Value.slice A2 out.length c2).ownBlock):W'.cell? ⟨R,0,none⟩=some q/\W'.cell? ⟨R,1,none⟩=some (.slice A2 out.length c2)/\W'.frozen? ⟨R,1,none⟩=false:=by
 have hb:Blk W' R 132 (fcl q A2 out.length c2):=h.blk.grown hg h.neq.symm;exact⟨by rw [hb.cell];rfl,by rw [hb.cell];rfl,hb.frozen 1⟩
theorem FBx.fb (h:FBx V w W R out q A2 c2):FB V w W R out:=⟨_,_,_,h⟩
theorem FB.chg (h:FB V w W R out):Chg NoS w W:=by
 obtain⟨_,_,_,h⟩:=h;exact h.chg
theorem FB.call (h:FB V w W R out) (hc:Chg NoS W W'):FB V w W' R out:=by
 obtain⟨_,_,_,h⟩:=h;exact⟨_,_,_,h.call hc⟩
theorem FB.drew (h:FB V w W R out):FB V w W.drew R out:=h.call ((Chg.refl _ _).drew)
theorem FB.alloc (h:FB V w W R out) (o:Obj):FB V w (W.alloc o) R out:=h.call ((Chg.refl _ _).alloc o)
theorem FB.lt (h:FB V w W R out):R<W.heap.size:=by
 obtain⟨_,_,_,h⟩:=h;exact h.blk.lt
theorem FB.kf (h:FB V w W R out):KF R V W:=by
 obtain⟨_,_,_,h⟩:=h;exact h.kf
theorem FB.base {V':World} (h:FB V w W R out) (k:KF R V' W):FB V' w W R out:=by
 obtain⟨_,_,_,h⟩:=h;exact⟨_,_,_,h.blk,h.used,h.own,h.chg,h.new,k⟩
theorem FB.here (h:FB V w W R out):FB W w W R out:=h.base (KF.refl _ _)
theorem FB.start (w W:World) (hc:Chg NoS w W):FB w w (W.alloc (.cells #[.pointer none,.slice none 0 0] 132)) W.heap.size [] :=
 ⟨.pointer none,none,0,Blk.new W _ _,.inl rfl,z43 _ _ _ _,hc.alloc _,hc.size,KF.chg (hc.alloc _)⟩
end
theorem v1b:liesAt Tryz.prog Tryz.prog.depth 132 (2 / Tryz.prog.cellsOf 132) 0 130 1=true:=by kernel_rfl
theorem z84 {V w W:World} {A2:Option Addr} {R c2:Nat} {out:List Nat} {q:Value} (h:FBx V w W R out q A2 c2) :
  Calls Tryz.prog 149 #[.pointer (some ⟨R,0,none⟩)] W fun e W'=>e=.returned (.tuple #[])/\FBx V w W' R out (.pointer (some ⟨R,0,none⟩)) A2 c2:=by
 obtain⟨j,hj,hjs⟩:=Option.map_eq_some_iff.1 y3n;rcases h.used with rfl|rfl
 ·have h0:=h.cells.1;have hf:=h.frozen 0;have hsh:=h.shape;have HU:=kf h.use
  have g1:(convert 128 211 (.pointer (some ⟨R,0,none⟩))).run Tryz.prog W=.ok (.pointer (some ⟨R,0,none⟩)) W :=
   Lib.run_to_unsafe W ⟨R,0,none⟩ Tryz.underlying128 Tryz.underlying211 hj (by rw [hjs];decide) hsh (Nat.zero_lt_succ 1)
  have g2:(convert 211 128 (.pointer (some ⟨R,0,none⟩))).run Tryz.prog W=.ok (.pointer (some ⟨R,0,none⟩)) W :=
   Lib.run_from_unsafe W ⟨R,0,none⟩ Tryz.underlying211 Tryz.underlying128 hj hsh v1b
  clear h;go_enter Tryz.func149,Tryz.ntmps149;go_wp2;rw [run_callFunc_extern z4u (by kernel_rfl) (by kernel_rfl) (by kernel_rfl) (e:=Extern.AbiNoEscape.same) (by kernel_rfl)];rw [Lib.run_noEscape];simp only [Result.andThen];rw [Oper.upon_value];go_wp2;go_end0;exact⟨rfl,HU.out⟩
 ·have h0:=h.cells.1;have HU:=kf h;clear h;go_enter Tryz.func149,Tryz.ntmps149;go_wp2;rw [Lib.run_neq_ptr_same W _ Tryz.underlying128 hj];go_wp2;go_end0;exact⟨rfl,HU.out⟩
theorem z2b {V w W:World} {R:Nat} {out:List Nat} (h:FB V w W R out) (x:Nat) (hl:out.length<=1000000) :
  Calls Tryz.prog 156 #[.pointer (some ⟨R,0,none⟩),.int .u8 (x:Nat)] W fun e W'=>e=.returned .nilIface/\FB V w W' R (out++[x]):=by
 obtain⟨q,A2,c2,h⟩:=h;obtain⟨i0,hi,hz0,hz1,hz2⟩:=z2z z6d;have HC:=kf (z84 h);clear h;go_enter Tryz.func156,Tryz.ntmps156;go_wp2_with (go_at_call 149;refine HC.out.mono ?_);rintro e w1 ⟨rfl,h1⟩;have c0:=h1.cells.1;have c1:=h1.cells.2;have hs:=h1.chg.size;have hown:=h1.own;have HR:=kf h1;clear h1;go_wp2_with (at_builtin;refine wpList_append_own _ rfl _ _ 37 rfl w.heap.size 5 i0 (.int .u8 0) 1 1 Tryz.underlying37 hi hz0 hz1 hz2 rfl (by decide) _ _ _ rfl (hown.alloc _) ⟨w1.heap.size,0,none⟩ 1 1 [.int .u8 (x:Nat)] rfl rfl ?c1 ?c2 ?c3 ?c4 ?c5 ?_)
 case c1 =>
  intro j u hj;match j,hj with
  |0,hj=>simp at hj;subst hj;simp [Addr.add]
 case c2=>intro u hu;simp at hu;subst hu;rfl
 case c3=>unfold maxLen;omega
 case c4=>omega
 case c5=>simp;omega
 intro v' w2 hown' hgrow _;have h2:=(HR.out.alloc (.cells #[.int .u8 (x:Nat)] 5)).at_cells hgrow;obtain⟨d0,d1,f1⟩:=h2;obtain⟨A3,c3,rfl,_⟩:=z0t hown';have hl1:(out++[x]).length=out.length+1:=by simp
 have HF:=kf ((HR.out.alloc (.cells #[.int .u8 (x:Nat)] 5)).grow (out':=out++[x]) (A3:=A3) (c3:=c3) hgrow (by rw [hl1,z3p];exact hown'));rw [hl1] at HF;clear hown hown' hgrow hl1;go_wp2;go_ret;exact⟨rfl,HF.out.fb⟩
theorem z17 {V w W:World} {R:Nat} {out:List Nat} (h:FB V w W R out) (l:List Nat) (hb:∀ d∈l,d<256) (hl:out.length<=1000000) (hl2:l.length<=1000000) :
  Calls Tryz.prog 113 #[.pointer (some ⟨R,0,none⟩),.string (sb l)] W fun e W'=>e=.returned (.tuple #[.int .i64 (l.length:Nat),.nilIface])/\FB V w W' R (out++l):=by
 obtain⟨q,A2,c2,h⟩:=h;obtain⟨i0,hi,hz0,hz1,hz2⟩:=z2z z6d;have HC:=kf (z84 h);have hsz:=z0k l;have HS:=kf (z6h l hb);obtain⟨s,hs⟩:∃ s,sb l=s:=⟨_,rfl⟩
 rw [hs] at hsz HS ⊢;obtain⟨m,hm⟩:∃ m,l.length=m:=⟨_,rfl⟩
 have hm2:(out++l).length=out.length+m:=by rw [List.length_append,hm]
 rw [hm] at hsz hl2 ⊢;clear h hs hb;go_enter Tryz.func113,Tryz.ntmps113;go_wp2_with (go_at_call 149;refine HC.out.mono ?_);rintro e w1 ⟨rfl,h1⟩;have c0:=h1.cells.1;have c1:=h1.cells.2;have hs:=h1.chg.size;have hown:=h1.own;have HR:=kf h1;clear h1;go_wp2_with (at_builtin;refine Lib.wpList_append_own_string _ rfl _ _ 37 9 rfl w.heap.size 5 i0 Tryz.underlying37 Tryz.underlying9 hi hz0 hz1 hz2 _ _ _ rfl hown s rfl ?c3 ?c4 ?c5 ?_)
 case c3=>unfold maxLen;omega
 case c4=>omega
 case c5=>omega
 intro v' w2 hown' hgrow _;have h2:=HR.out.at_cells hgrow;obtain⟨d0,d1,f1⟩:=h2;(try rw [hsz] at hown')
 rw [HS.out,<- z3p] at hown';obtain⟨A3,c3,rfl,_⟩:=z0t hown';have HF:=kf (HR.out.grow (out':=out++l) (A3:=A3) (c3:=c3) hgrow (by rw [hm2];exact hown'));rw [hm2] at HF;clear hown hown' hgrow hm2 hm HS;go_wp2;go_ret2;exact⟨rfl,HF.out.fb⟩
theorem y0n {V w W:World} {R:Nat} {out:List Nat} (h:FB V w W R out) (hb:∀ d∈out,d<256) (hl:out.length<=1000000) :
  Calls Tryz.prog 93 #[.pointer (some ⟨R,0,none⟩)] W fun e W'=>e=.returned (.string (sb out))/\Chg NoS w W':=by
 obtain⟨q,A2,c2,h⟩:=h;have mixed:Tryz.prog.follows Departure.mixedOrders=true:=by kernel_rfl
 have hre:=h.chg.drew;have c1:=h.drew.cells.2;have hown:=h.own;have hne:=h.neq;have hnew:=h.new;obtain⟨m,hm⟩:∃ m,out.length=m:=⟨_,rfl⟩
 rw [hm] at c1 hown hne hl;rcases hown.2 with⟨hv,h0⟩|⟨g,cap,cur,hv,hbg,hg,hnc,hcm,hcs,htake⟩
 ·simp only [Value.slice.injEq] at hv;obtain⟨rfl,h0',rfl⟩:=hv;subst h0';obtain rfl:out=[]:=List.eq_nil_of_length_eq_zero hm;have hUS:∀ W2,(Builtin.unsafeString_ #[157,3] 9 #[.pointer none,.int .i64 0]).run Tryz.prog W2=.ok (.string .empty) W2:=fun W2=>Lib.run_unsafeString_none W2 _ _ _ none;have hSD:(Builtin.unsafeSliceData_ #[37] 157 #[.slice none 0 0]).run Tryz.prog W.drew=.ok (.pointer none) W.drew:=rfl;have HRE:=kf hre;clear hre hne hown h hm;go_enter Tryz.func93,Tryz.ntmps93;go_wp2;go_region_o
  all_goals (go_wp2;go_ret;exact⟨rfl,HRE.out⟩)
 ·simp only [Value.slice.injEq] at hv;obtain⟨rfl,_,rfl⟩:=hv;have hgR:R≠g:=fun e=>hne (by rw [e];rfl);have hgd:W.drew.heap[g]?=some (.cells cur 5 (0,0)):=hg;have hsh:W.drew.shape? g=some (5,cur.size):=by simp [World.shape?,hgd]
  by_cases h0:m=0
  ·subst h0;obtain rfl:out=[]:=List.eq_nil_of_length_eq_zero hm;have hUS:∀ W2 q,(Builtin.unsafeString_ #[157,3] 9 #[.pointer q,.int .i64 0]).run Tryz.prog W2=.ok (.string .empty) W2:=fun W2 q=>Lib.run_unsafeString_none W2 _ _ _ q;by_cases hc0:c2=0
   ·subst hc0
    have hSD:(Builtin.unsafeSliceData_ #[37] 157 #[.slice (some ⟨g,0,none⟩) 0 0]).run Tryz.prog W.drew=.ok (.pointer (some ⟨W.drew.heap.size,0,none⟩)) (W.drew.alloc (.view ⟨g,0,none⟩ 5)) :=
     Lib.run_unsafeSliceData_zero W.drew _ _ 5 Tryz.underlying157 ⟨g,0,none⟩ 0 (5,cur.size) hsh
    have k2:(W.drew.alloc (.view ⟨g,0,none⟩ 5)).cell? ⟨R,1,none⟩=some (.slice (some ⟨g,0,none⟩) 0 0) :=
     (((Chg.refl NoS W.drew).alloc _).cell (p:=⟨R,1,none⟩) (z05 c1) (fun h=>h)).trans c1
    have c3:(W.alloc (.view ⟨g,0,none⟩ 5)).drew.cell? ⟨R,1,none⟩=some (.slice (some ⟨g,0,none⟩) 0 0):=k2;have c0:W.cell? ⟨R,1,none⟩=some (.slice (some ⟨g,0,none⟩) 0 0):=c1;have HRE:=kf (hre.alloc (.view ⟨g,0,none⟩ 5));clear hre hne hown h hm hsh hgd hg hgR htake hcs hcm hnc;go_enter Tryz.func93,Tryz.ntmps93;go_wp2;go_region_o
    all_goals (go_wp2;go_ret;exact⟨rfl,HRE.out⟩)
   ·have hSD:(Builtin.unsafeSliceData_ #[37] 157 #[.slice (some ⟨g,0,none⟩) 0 c2]).run Tryz.prog W.drew=.ok (.pointer (some ⟨g,0,none⟩)) W.drew :=
     Lib.run_unsafeSliceData_row _ _ _ _ _ _ hc0
    have HRE:=kf hre;clear hre hne hown h hm hsh hgd hg hgR htake hcs hcm hnc hc0;go_enter Tryz.func93,Tryz.ntmps93;go_wp2;go_region_o
    all_goals (go_wp2;go_ret;exact⟨rfl,HRE.out⟩)
  ·have hSD:(Builtin.unsafeSliceData_ #[37] 157 #[.slice (some ⟨g,0,none⟩) m c2]).run Tryz.prog W.drew=.ok (.pointer (some ⟨g,0,none⟩)) W.drew :=
    Lib.run_unsafeSliceData_row _ _ _ _ _ _ (by omega)
   have hml:(out.map UInt8.ofNat).length=m:=by rw [List.length_map,hm]
   have hUS:(Builtin.unsafeString_ #[157,3] 9 #[.pointer (some ⟨g,0,none⟩),.int .i64 (m:Nat)]).run Tryz.prog W.drew=.ok (.string (sb out)) (W.drew.freeze ⟨g,0,none⟩ m):=by
    have hu:=Lib.run_unsafeString_row (P:=Tryz.prog) W.drew 157 3 9 5 Tryz.underlying157 z88 g cur.size hsh (out.map UInt8.ofNat) (fun e=>h0 (by rw [<- hml,e];rfl)) (by rw [hml];omega) (by rw [hml];unfold maxLen at hcm;omega) (fun j x hx=>by
     rw [List.getElem?_map] at hx;cases hj:out[j]? with
     |none=>rw [hj] at hx;cases hx
     |some y =>
      rw [hj] at hx;simp only [Option.map_some,Option.some.injEq] at hx;subst hx;have hy:=hb y (List.mem_of_getElem? hj);have:=hown.cells (g:=g) rfl j _ (z4s hj);have e:((UInt8.ofNat y).toNat:Nat)=y:=by simp;omega
      rw [e];exact this)
    rw [hml] at hu;exact hu
   have HRE:=kf (hre.freeze hbg m);obtain⟨s,hs⟩:∃ s,sb out=s:=⟨_,rfl⟩
   rw [hs] at hUS ⊢;clear hre hne hown h hm hsh hgd hg hgR htake hcs hcm hnc hml hs;go_enter Tryz.func93,Tryz.ntmps93;go_wp2;go_region_o
   all_goals (go_wp2;go_ret;exact⟨rfl,HRE.out⟩)
end Go.Proofs.YtmibnkddappgiaaGreatDoor
