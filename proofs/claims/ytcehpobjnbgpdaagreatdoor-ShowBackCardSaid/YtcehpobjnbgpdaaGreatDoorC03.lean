/- Merged by program. -/
import Derived.Test.YtcehpobjnbgpdaaGreatDoorC02
import Derived.Shelf.Strings.Builder1
import Derived.Shelf.Strings.Builder2
import Derived.Shelf.Strings.Trim
import Derived.Shelf.Small.Utf8
import Derived.Shelf.Small.Strs
import Derived.Shelf.Small.Wraps
import Derived.Shelf.Strings.BuilderF
import Derived.Shelf.Strconv.Itoa0
import Derived.Shelf.Strconv.Itoa1
import Derived.Shelf.LaysM
import Derived.Shelf.Strconv.Itoa2
import Derived.Shelf.Strconv.Itoa3
import Derived.Shelf.Strings.Search1
import Derived.Shelf.Strings.Search2
import Derived.Shelf.Strings.Search3
import Derived.Shelf.Strings.Cut
import Derived.Shelf.Strings.Shaped
import Derived.Shelf.GgClosure.StringsIndexFunc
import Derived.Ground.GgwProg
import Derived.Shelf.GgClosure.StringsIndexFuncTop
import Derived.Shelf.Strings.Prefix
import Derived.Shelf.Strings.Runes
import Derived.Shelf.Strings.AsciiSet
import Derived.Shelf.Bits.Mul64
import Derived.Shelf.Strings.Repeat
import Derived.Shelf.Unicode.DecodeSlow
import Derived.Shelf.Unicode.DecodeAny
import Derived.Shelf.Unicode.DecodeLast
import Derived.Shelf.Strings.FuncGrows
import Derived.Lib.LaidTab
import Derived.Lib.ItoaNum
import Derived.Lib.Repeat
import Derived.Sort.Grow
import Derived.Deep.RegionHeld3
import Derived.BigRegion
import Derived.OwnWalk
import Derived.Test.YtcehpobjnbgpdaaGreatDoorRows
import Derived.MakeChecks
set_option linter.unusedVariables false
set_option linter.unusedSimpArgs false
namespace Go.Proofs.YtcehpobjnbgpdaaGreatDoor
open Go.RowKit
def fcl (q:Value) (A2:Option Addr) (n2 c2:Nat):Array Value:=#[q,.slice A2 n2 c2]
def KF (R:Nat) (V W:World):Prop:=∀ g o,g≠R->(∀ cs,o≠.cells cs 5 (0,0))->V.heap[g]?=some o->W.heap[g]?=some o
theorem KF.refl (R:Nat) (V:World):KF R V V:=fun _ _ _ _ h=>h
theorem KF.trans {R:Nat} {V W X:World} (h:KF R V W) (k:KF R W X):KF R V X:=fun g o a b c=>k g o a b (h g o a b c)
theorem KF.chg {R:Nat} {V W:World} (h:Chg NoS V W):KF R V W:=fun g o _ _ c=>(h.block g (Array.getElem?_eq_some_iff.1 c).1 (fun h=>h)).trans c
theorem KF.set {R:Nat} {V W:World} (h:KF R V W) (i:Nat) (u:Value):KF R V (W.setCell ⟨R,i,none⟩ u):=fun g o a b c=>(Below.heap_setCell W ⟨R,i,none⟩ u g a).trans (h g o a b c)
theorem KF.grown {R:Nat} {V W W':World} {base:Nat} {v:Value} {m:Nat} {xs:List Value} (h:KF R V W) (ho:W.ownsRow base 5 1 v m xs) (hg:W.grownBy W' v.ownBlock):KF R V W':=fun g o a b c=>by
 have h1:=h g o a b c
 refine(hg.block g (Array.getElem?_eq_some_iff.1 h1).1 fun e=>?_).trans h1
 rcases ho.2 with⟨rfl,_⟩|⟨k,cap,cur,rfl,_,hk,_⟩
 ·cases e
 ·have e2:g=k:=Option.some.inj e
  subst e2
  rw [hk] at h1
  exact b cur (Option.some.inj h1).symm
structure FBx (V w W:World) (R:Nat) (out:List Nat) (q:Value) (A2:Option Addr) (c2:Nat):Prop where
 blk:Blk W R 52 (fcl q A2 out.length c2)
 used:q=.pointer none\/q=.pointer (some ⟨R,0,none⟩)
 own:W.ownsRow w.heap.size 5 1 (.slice A2 out.length c2) out.length (lcells out)
 chg:Chg NoS w W
 new:w.heap.size<=R
 kf:KF R V W
def FB (V w W:World) (R:Nat) (out:List Nat):Prop:=∃ q A2 c2,FBx V w W R out q A2 c2
section
variable {V w W W':World} {A2:Option Addr} {R c2:Nat} {out:List Nat} {q:Value}
theorem FBx.cells (h:FBx V w W R out q A2 c2):W.cell? ⟨R,0,none⟩=some q/\W.cell? ⟨R,1,none⟩=some (.slice A2 out.length c2):=by
 refine⟨?_,?_⟩<;>(rw [h.blk.cell];rfl)
theorem FBx.frozen (h:FBx V w W R out q A2 c2) (i:Nat):W.frozen? ⟨R,i,none⟩=false:=h.blk.frozen i
theorem FBx.shape (h:FBx V w W R out q A2 c2):W.shape? R=some (52,2):=by
 have h':W.heap[R]?=some (.cells (fcl q A2 out.length c2) 52 (0,0)):=h.blk
 simp [World.shape?,h',fcl]
theorem FBx.neq (h:FBx V w W R out q A2 c2):(Value.slice A2 out.length c2).ownBlock≠some R:=own_ne_blk h.own h.blk (by decide)
theorem FBx.use (h:FBx V w W R out q A2 c2):FBx V w (W.setCell ⟨R,0,none⟩ (.pointer (some ⟨R,0,none⟩))) R out (.pointer (some ⟨R,0,none⟩)) A2 c2 :=
 ⟨h.blk.set_ 0 _,.inr rfl,own_kept h.own h.neq,h.chg.setCell (p:=⟨R,0,none⟩) (fun e=>absurd e (Nat.not_lt.2 h.new)) _,h.new,h.kf.set _ _⟩
theorem FBx.call (h:FBx V w W R out q A2 c2) (hc:Chg NoS W W'):FBx V w W' R out q A2 c2 :=
 ⟨h.blk.chg hc (fun h=>h),h.used,own_chg (S:=NoS) h.own hc (fun _ _ e=>e),h.chg.trans hc (fun _ _ e=>e),h.new,h.kf.trans (KF.chg hc)⟩
theorem FBx.drew (h:FBx V w W R out q A2 c2):FBx V w W.drew R out q A2 c2:=h.call ((Chg.refl _ _).drew)
theorem FBx.alloc (h:FBx V w W R out q A2 c2) (o:Obj):FBx V w (W.alloc o) R out q A2 c2:=h.call ((Chg.refl _ _).alloc o)
theorem FBx.grow {A3:Option Addr} {c3:Nat} {out':List Nat} (h:FBx V w W R out q A2 c2) (hg:W.grownBy W' (Value.slice A2 out.length c2).ownBlock)
  (ho:W'.ownsRow w.heap.size 5 1 (.slice A3 out'.length c3) out'.length (lcells out')):FBx V w (W'.setCell ⟨R,1,none⟩ (.slice A3 out'.length c3)) R out' q A3 c3:=by
 have hb:Blk W' R 52 (fcl q A2 out.length c2):=h.blk.grown hg h.neq.symm
 have hne:(Value.slice A3 out'.length c3).ownBlock≠some R:=own_ne_blk ho hb (by decide)
 refine⟨hb.set_ 1 _,h.used,own_kept ho hne,?_,h.new,(h.kf.grown h.own hg).set _ _⟩
 exact(h.chg.grown hg (fun k hk e=>absurd e (Nat.not_lt.2 (h.own.lt k hk).1))).setCell (p:=⟨R,1,none⟩) (fun e=>absurd e (Nat.not_lt.2 h.new)) _
theorem FBx.at_cells (h:FBx V w W R out q A2 c2) (hg:W.grownBy W' (Value.slice A2 out.length c2).ownBlock):W'.cell? ⟨R,0,none⟩=some q/\W'.cell? ⟨R,1,none⟩=some (.slice A2 out.length c2)/\W'.frozen? ⟨R,1,none⟩=false:=by
 have hb:Blk W' R 52 (fcl q A2 out.length c2):=h.blk.grown hg h.neq.symm
 exact⟨by rw [hb.cell];rfl,by rw [hb.cell];rfl,hb.frozen 1⟩
theorem FBx.fb (h:FBx V w W R out q A2 c2):FB V w W R out:=⟨_,_,_,h⟩
theorem FB.chg (h:FB V w W R out):Chg NoS w W:=by
 obtain⟨_,_,_,h⟩:=h
 exact h.chg
theorem FB.call (h:FB V w W R out) (hc:Chg NoS W W'):FB V w W' R out:=by
 obtain⟨_,_,_,h⟩:=h
 exact⟨_,_,_,h.call hc⟩
theorem FB.drew (h:FB V w W R out):FB V w W.drew R out:=h.call ((Chg.refl _ _).drew)
theorem FB.alloc (h:FB V w W R out) (o:Obj):FB V w (W.alloc o) R out:=h.call ((Chg.refl _ _).alloc o)
theorem FB.lt (h:FB V w W R out):R<W.heap.size:=by
 obtain⟨_,_,_,h⟩:=h
 exact h.blk.lt
theorem FB.kf (h:FB V w W R out):KF R V W:=by
 obtain⟨_,_,_,h⟩:=h
 exact h.kf
theorem FB.base {V':World} (h:FB V w W R out) (k:KF R V' W):FB V' w W R out:=by
 obtain⟨_,_,_,h⟩:=h
 exact⟨_,_,_,h.blk,h.used,h.own,h.chg,h.new,k⟩
theorem FB.here (h:FB V w W R out):FB W w W R out:=h.base (KF.refl _ _)
theorem FB.start (w W:World) (hc:Chg NoS w W):FB w w (W.alloc (.cells #[.pointer none,.slice none 0 0] 52)) W.heap.size [] :=
 ⟨.pointer none,none,0,Blk.new W _ _,.inl rfl,own_nil _ _ _ _,hc.alloc _,hc.size,KF.chg (hc.alloc _)⟩
end
theorem fbd_lies:liesAt Tryz.prog Tryz.prog.depth 52 (2 / Tryz.prog.cellsOf 52) 0 50 1=true:=by kernel_rfl
set_option maxHeartbeats 1000000 in
set_option maxRecDepth 100000 in
theorem fcopyC_any {V w W:World} {A2:Option Addr} {R c2:Nat} {out:List Nat} {q:Value} (h:FBx V w W R out q A2 c2) :
  Calls Tryz.prog 83 #[.pointer (some ⟨R,0,none⟩)] W fun e W'=>e=.returned (.tuple #[])/\FBx V w W' R out (.pointer (some ⟨R,0,none⟩)) A2 c2:=by
 obtain⟨j,hj,hjs⟩:=Option.map_eq_some_iff.1 bld_size
 rcases h.used with rfl|rfl
 ·have h0:=h.cells.1
  have hf:=h.frozen 0
  have hsh:=h.shape
  have HU:=kf h.use
  have g1:(convert 48 133 (.pointer (some ⟨R,0,none⟩))).run Tryz.prog W=.ok (.pointer (some ⟨R,0,none⟩)) W :=
   Lib.run_to_unsafe W ⟨R,0,none⟩ Tryz.underlying48 Tryz.underlying133 hj (by rw [hjs];decide) hsh (Nat.zero_lt_succ 1)
  have g2:(convert 133 48 (.pointer (some ⟨R,0,none⟩))).run Tryz.prog W=.ok (.pointer (some ⟨R,0,none⟩)) W :=
   Lib.run_from_unsafe W ⟨R,0,none⟩ Tryz.underlying133 Tryz.underlying48 hj hsh fbd_lies
  clear h
  go_enter Tryz.func83,Tryz.ntmps83
  go_wp2
  rw [run_callFunc_extern func_noEscape (by kernel_rfl) (by kernel_rfl) (by kernel_rfl) (e:=Extern.AbiNoEscape.same) (by kernel_rfl)]
  rw [Lib.run_noEscape]
  simp only [Result.andThen]
  rw [Oper.upon_value]
  go_wp2
  go_end0
  exact⟨rfl,HU.out⟩
 ·have h0:=h.cells.1
  have HU:=kf h
  clear h
  go_enter Tryz.func83,Tryz.ntmps83
  go_wp2
  rw [Lib.run_neq_ptr_same W _ Tryz.underlying48 hj]
  go_wp2
  go_end0
  exact⟨rfl,HU.out⟩
set_option maxHeartbeats 2000000 in
set_option maxRecDepth 100000 in
theorem fpwbyte_any {V w W:World} {R:Nat} {out:List Nat} (h:FB V w W R out) (x:Nat) (hl:out.length<=1000000) :
  Calls Tryz.prog 86 #[.pointer (some ⟨R,0,none⟩),.int .u8 (x:Nat)] W fun e W'=>e=.returned .nilIface/\FB V w W' R (out++[x]):=by
 obtain⟨q,A2,c2,h⟩:=h
 obtain⟨i0,hi,hz0,hz1,hz2⟩:=info_partsL info_byL
 have HC:=kf (fcopyC_any h)
 clear h
 go_enter Tryz.func86,Tryz.ntmps86
 go_wp2_with (go_at_call 83;refine HC.out.mono ?_)
 rintro e w1 ⟨rfl,h1⟩
 have c0:=h1.cells.1
 have c1:=h1.cells.2
 have hs:=h1.chg.size
 have hown:=h1.own
 have HR:=kf h1
 clear h1
 go_wp2_with (at_builtin;refine wpList_append_own _ rfl _ _ 39 rfl w.heap.size 5 i0 (.int .u8 0) 1 1 Tryz.underlying39 hi hz0 hz1 hz2 rfl (by decide) _ _ _ rfl (hown.alloc _) ⟨w1.heap.size,0,none⟩ 1 1 [.int .u8 (x:Nat)] rfl rfl ?c1 ?c2 ?c3 ?c4 ?c5 ?_)
 case c1 =>
  intro j u hj
  match j,hj with
  |0,hj=>simp at hj;subst hj;simp [Addr.add]
 case c2=>intro u hu;simp at hu;subst hu;rfl
 case c3=>unfold maxLen;omega
 case c4=>omega
 case c5=>simp;omega
 intro v' w2 hown' hgrow _
 have h2:=(HR.out.alloc (.cells #[.int .u8 (x:Nat)] 5)).at_cells hgrow
 obtain⟨d0,d1,f1⟩:=h2
 obtain⟨A3,c3,rfl,_⟩:=own_slice hown'
 have hl1:(out++[x]).length=out.length+1:=by simp
 have HF:=kf ((HR.out.alloc (.cells #[.int .u8 (x:Nat)] 5)).grow (out':=out++[x]) (A3:=A3) (c3:=c3) hgrow (by rw [hl1,lcells_app];exact hown'))
 rw [hl1] at HF
 clear hown hown' hgrow hl1
 go_wp2
 go_ret
 exact⟨rfl,HF.out.fb⟩
set_option maxHeartbeats 2000000 in
set_option maxRecDepth 100000 in
theorem fpwstr_any {V w W:World} {R:Nat} {out:List Nat} (h:FB V w W R out) (l:List Nat) (hb:∀ d∈l,d<256) (hl:out.length<=1000000) (hl2:l.length<=1000000) :
  Calls Tryz.prog 48 #[.pointer (some ⟨R,0,none⟩),.string (sb l)] W fun e W'=>e=.returned (.tuple #[.int .i64 (l.length:Nat),.nilIface])/\FB V w W' R (out++l):=by
 obtain⟨q,A2,c2,h⟩:=h
 obtain⟨i0,hi,hz0,hz1,hz2⟩:=info_partsL info_byL
 have HC:=kf (fcopyC_any h)
 have hsz:=sb_size l
 have HS:=kf (strCells_sb l hb)
 obtain⟨s,hs⟩:∃ s,sb l=s:=⟨_,rfl⟩
 rw [hs] at hsz HS ⊢
 obtain⟨m,hm⟩:∃ m,l.length=m:=⟨_,rfl⟩
 have hm2:(out++l).length=out.length+m:=by rw [List.length_append,hm]
 rw [hm] at hsz hl2 ⊢
 clear h hs hb
 go_enter Tryz.func48,Tryz.ntmps48
 go_wp2_with (go_at_call 83;refine HC.out.mono ?_)
 rintro e w1 ⟨rfl,h1⟩
 have c0:=h1.cells.1
 have c1:=h1.cells.2
 have hs:=h1.chg.size
 have hown:=h1.own
 have HR:=kf h1
 clear h1
 go_wp2_with (at_builtin;refine Lib.wpList_append_own_string _ rfl _ _ 39 9 rfl w.heap.size 5 i0 Tryz.underlying39 Tryz.underlying9 hi hz0 hz1 hz2 _ _ _ rfl hown s rfl ?c3 ?c4 ?c5 ?_)
 case c3=>unfold maxLen;omega
 case c4=>omega
 case c5=>omega
 intro v' w2 hown' hgrow _
 have h2:=HR.out.at_cells hgrow
 obtain⟨d0,d1,f1⟩:=h2
 (try rw [hsz] at hown')
 rw [HS.out,<- lcells_app] at hown'
 obtain⟨A3,c3,rfl,_⟩:=own_slice hown'
 have HF:=kf (HR.out.grow (out':=out++l) (A3:=A3) (c3:=c3) hgrow (by rw [hm2];exact hown'))
 rw [hm2] at HF
 clear hown hown' hgrow hm2 hm HS
 go_wp2
 go_ret2
 exact⟨rfl,HF.out.fb⟩
set_option maxHeartbeats 2000000 in
set_option maxRecDepth 100000 in
theorem fpstring_any {V w W:World} {R:Nat} {out:List Nat} (h:FB V w W R out) (hb:∀ d∈out,d<256) (hl:out.length<=1000000) :
  Calls Tryz.prog 27 #[.pointer (some ⟨R,0,none⟩)] W fun e W'=>e=.returned (.string (sb out))/\Chg NoS w W':=by
 obtain⟨q,A2,c2,h⟩:=h
 have mixed:Tryz.prog.follows Departure.mixedOrders=true:=by kernel_rfl
 have hre:=h.chg.drew
 have c1:=h.drew.cells.2
 have hown:=h.own
 have hne:=h.neq
 have hnew:=h.new
 obtain⟨m,hm⟩:∃ m,out.length=m:=⟨_,rfl⟩
 rw [hm] at c1 hown hne hl
 rcases hown.2 with⟨hv,h0⟩|⟨g,cap,cur,hv,hbg,hg,hnc,hcm,hcs,htake⟩
 ·simp only [Value.slice.injEq] at hv
  obtain⟨rfl,h0',rfl⟩:=hv
  subst h0'
  obtain rfl:out=[]:=List.eq_nil_of_length_eq_zero hm
  have hUS:∀ W2,(Builtin.unsafeString_ #[88,3] 9 #[.pointer none,.int .i64 0]).run Tryz.prog W2=.ok (.string .empty) W2:=fun W2=>Lib.run_unsafeString_none W2 _ _ _ none
  have hSD:(Builtin.unsafeSliceData_ #[39] 88 #[.slice none 0 0]).run Tryz.prog W.drew=.ok (.pointer none) W.drew:=rfl
  have HRE:=kf hre
  clear hre hne hown h hm
  go_enter Tryz.func27,Tryz.ntmps27
  go_wp2
  go_region_o
  all_goals (go_wp2;go_ret;exact⟨rfl,HRE.out⟩)
 ·simp only [Value.slice.injEq] at hv
  obtain⟨rfl,_,rfl⟩:=hv
  have hgR:R≠g:=fun e=>hne (by rw [e];rfl)
  have hgd:W.drew.heap[g]?=some (.cells cur 5 (0,0)):=hg
  have hsh:W.drew.shape? g=some (5,cur.size):=by simp [World.shape?,hgd]
  by_cases h0:m=0
  ·subst h0
   obtain rfl:out=[]:=List.eq_nil_of_length_eq_zero hm
   have hUS:∀ W2 q,(Builtin.unsafeString_ #[88,3] 9 #[.pointer q,.int .i64 0]).run Tryz.prog W2=.ok (.string .empty) W2:=fun W2 q=>Lib.run_unsafeString_none W2 _ _ _ q
   by_cases hc0:c2=0
   ·subst hc0
    have hSD:(Builtin.unsafeSliceData_ #[39] 88 #[.slice (some ⟨g,0,none⟩) 0 0]).run Tryz.prog W.drew=.ok (.pointer (some ⟨W.drew.heap.size,0,none⟩)) (W.drew.alloc (.view ⟨g,0,none⟩ 5)) :=
     Lib.run_unsafeSliceData_zero W.drew _ _ 5 Tryz.underlying88 ⟨g,0,none⟩ 0 (5,cur.size) hsh
    have k2:(W.drew.alloc (.view ⟨g,0,none⟩ 5)).cell? ⟨R,1,none⟩=some (.slice (some ⟨g,0,none⟩) 0 0) :=
     (((Chg.refl NoS W.drew).alloc _).cell (p:=⟨R,1,none⟩) (cell_lt c1) (fun h=>h)).trans c1
    have c3:(W.alloc (.view ⟨g,0,none⟩ 5)).drew.cell? ⟨R,1,none⟩=some (.slice (some ⟨g,0,none⟩) 0 0):=k2
    have c0:W.cell? ⟨R,1,none⟩=some (.slice (some ⟨g,0,none⟩) 0 0):=c1
    have HRE:=kf (hre.alloc (.view ⟨g,0,none⟩ 5))
    clear hre hne hown h hm hsh hgd hg hgR htake hcs hcm hnc
    go_enter Tryz.func27,Tryz.ntmps27
    go_wp2
    go_region_o
    all_goals (go_wp2;go_ret;exact⟨rfl,HRE.out⟩)
   ·have hSD:(Builtin.unsafeSliceData_ #[39] 88 #[.slice (some ⟨g,0,none⟩) 0 c2]).run Tryz.prog W.drew=.ok (.pointer (some ⟨g,0,none⟩)) W.drew :=
     Lib.run_unsafeSliceData_row _ _ _ _ _ _ hc0
    have HRE:=kf hre
    clear hre hne hown h hm hsh hgd hg hgR htake hcs hcm hnc hc0
    go_enter Tryz.func27,Tryz.ntmps27
    go_wp2
    go_region_o
    all_goals (go_wp2;go_ret;exact⟨rfl,HRE.out⟩)
  ·have hSD:(Builtin.unsafeSliceData_ #[39] 88 #[.slice (some ⟨g,0,none⟩) m c2]).run Tryz.prog W.drew=.ok (.pointer (some ⟨g,0,none⟩)) W.drew :=
    Lib.run_unsafeSliceData_row _ _ _ _ _ _ (by omega)
   have hml:(out.map UInt8.ofNat).length=m:=by rw [List.length_map,hm]
   have hUS:(Builtin.unsafeString_ #[88,3] 9 #[.pointer (some ⟨g,0,none⟩),.int .i64 (m:Nat)]).run Tryz.prog W.drew=.ok (.string (sb out)) (W.drew.freeze ⟨g,0,none⟩ m):=by
    have hu:=Lib.run_unsafeString_row (P:=Tryz.prog) W.drew 88 3 9 5 Tryz.underlying88 byte_cells g cur.size hsh (out.map UInt8.ofNat) (fun e=>h0 (by rw [<- hml,e];rfl)) (by rw [hml];omega) (by rw [hml];unfold maxLen at hcm;omega) (fun j x hx=>by
     rw [List.getElem?_map] at hx
     cases hj:out[j]? with
     |none=>rw [hj] at hx;cases hx
     |some y =>
      rw [hj] at hx
      simp only [Option.map_some,Option.some.injEq] at hx
      subst hx
      have hy:=hb y (List.mem_of_getElem? hj)
      have:=hown.cells (g:=g) rfl j _ (lcells_at hj)
      have e:((UInt8.ofNat y).toNat:Nat)=y:=by simp;omega
      rw [e]
      exact this)
    rw [hml] at hu
    exact hu
   have HRE:=kf (hre.freeze hbg m)
   obtain⟨s,hs⟩:∃ s,sb out=s:=⟨_,rfl⟩
   rw [hs] at hUS ⊢
   clear hre hne hown h hm hsh hgd hg hgR htake hcs hcm hnc hml hs
   go_enter Tryz.func27,Tryz.ntmps27
   go_wp2
   go_region_o
   all_goals (go_wp2;go_ret;exact⟨rfl,HRE.out⟩)
end Go.Proofs.YtcehpobjnbgpdaaGreatDoor
namespace Go.Proofs
open Go.Shelf
open Go.RowKit in
open Go.RowKit in
open Go.RowKit in
open Go.RowKit in
open Go.RowKit in
open Go.RowKit in
open Go.RowKit in
def Tryz.lays162_ren:Go.Shelf.Ren:=⟨fun|162=>139|232=>153|227=>154|234=>155|236=>156|228=>171|271=>172|151=>132|120=>184|197=>185|152=>142|260=>189|137=>160|119=>161|224=>150|225=>149|217=>148|266=>165|n=>n,fun|9=>9|4=>4|3=>3|5=>5|117=>160|116=>159|0=>0|124=>163|21=>21|105=>179|46=>136|119=>192|139=>195|138=>194|n=>n,fun|3=>4|4=>5|n=>n⟩
theorem Tryz.lays162:Go.Proofs.Lays.n162 Tryz.prog Tryz.lays162_ren:={
 mixed:=by kernel_rfl
 f119:=Tryz.func161.trans (congrArg some (by kernel_rfl))
 f120:=Tryz.func184.trans (congrArg some (by kernel_rfl))
 f137:=Tryz.func160.trans (congrArg some (by kernel_rfl))
 f151:=Tryz.func132.trans (congrArg some (by kernel_rfl))
 f152:=Tryz.func142.trans (congrArg some (by kernel_rfl))
 f162:=Tryz.func139.trans (congrArg some (by kernel_rfl))
 f197:=Tryz.func185.trans (congrArg some (by kernel_rfl))
 f217:=Tryz.func148.trans (congrArg some (by kernel_rfl))
 f224:=Tryz.func150.trans (congrArg some (by kernel_rfl))
 f225:=Tryz.func149.trans (congrArg some (by kernel_rfl))
 f227:=Tryz.func154.trans (congrArg some (by kernel_rfl))
 f228:=Tryz.func171.trans (congrArg some (by kernel_rfl))
 f232:=Tryz.func153.trans (congrArg some (by kernel_rfl))
 f234:=Tryz.func155.trans (congrArg some (by kernel_rfl))
 f236:=Tryz.func156.trans (congrArg some (by kernel_rfl))
 f260:=Tryz.func189.trans (congrArg some (by kernel_rfl))
 f266:=Tryz.func165.trans (congrArg some (by kernel_rfl))
 f271:=Tryz.func172.trans (congrArg some (by kernel_rfl))
 t0:=Tryz.underlying0
 a0:=Tryz.isAgg0
 z0:=Tryz.sizeOf0
 v0:=Tryz.zeroValue0
 t3:=Tryz.underlying3
 a3:=Tryz.isAgg3
 z3:=Tryz.sizeOf3
 v3:=Tryz.zeroValue3
 t4:=Tryz.underlying4
 a4:=Tryz.isAgg4
 z4:=Tryz.sizeOf4
 v4:=Tryz.zeroValue4
 t5:=Tryz.underlying5
 a5:=Tryz.isAgg5
 z5:=Tryz.sizeOf5
 v5:=Tryz.zeroValue5
 t9:=Tryz.underlying9
 a9:=Tryz.isAgg9
 z9:=Tryz.sizeOf9
 v9:=Tryz.zeroValue9
 t21:=Tryz.underlying21
 a21:=Tryz.isAgg21
 z21:=Tryz.sizeOf21
 v21:=Tryz.zeroValue21
 t46:=Tryz.underlying136
 a46:=Tryz.isAgg136
 z46:=Tryz.sizeOf136
 v46:=Tryz.zeroValue136
 t105:=Tryz.underlying179
 a105:=Tryz.isAgg179
 z105:=Tryz.sizeOf179
 v105:=Tryz.zeroValue179
 t116:=Tryz.underlying159
 a116:=Tryz.isAgg159
 z116:=Tryz.sizeOf159
 t117:=Tryz.underlying160
 a117:=Tryz.isAgg160
 z117:=Tryz.sizeOf160
 v117:=Tryz.zeroValue160
 t119:=Tryz.underlying192
 a119:=Tryz.isAgg192
 z119:=Tryz.sizeOf192
 t124:=Tryz.underlying163
 a124:=Tryz.isAgg163
 z124:=Tryz.sizeOf163
 v124:=Tryz.zeroValue163
 t138:=Tryz.underlying194
 a138:=Tryz.isAgg194
 z138:=Tryz.sizeOf194
 v138:=Tryz.zeroValue194
 t139:=Tryz.underlying195
 a139:=Tryz.isAgg195
 z139:=Tryz.sizeOf195
 v139:=Tryz.zeroValue195
 g3:=by kernel_rfl
 g4:=by kernel_rfl }
open Go.RowKit in
theorem Tryz.strings_TrimRight_one (s:ByteArray) (c:UInt8) (hc:c.toNat<128) (w:World) (hs:s.size<=9223372036854775807) :
  Calls Tryz.prog 139 #[.string s,.string ⟨#[c]⟩] w fun e w'=>e=.returned (.string ⟨(Lib.trimRightB s.data.toList c).toArray⟩)/\w'=w:=Any.strings_TrimRight_one Tryz.lays162 s c hc w hs
def Tryz.lays119_ren:Go.Shelf.Ren:=⟨fun|119=>161|n=>n,fun|21=>21|4=>4|n=>n,fun|n=>n⟩
theorem Tryz.lays119:Go.Proofs.Lays.n119 Tryz.prog Tryz.lays119_ren:={
 mixed:=by kernel_rfl
 f119:=Tryz.func161.trans (congrArg some (by kernel_rfl))
 t4:=Tryz.underlying4
 a4:=Tryz.isAgg4
 z4:=Tryz.sizeOf4
 v4:=Tryz.zeroValue4
 t21:=Tryz.underlying21
 a21:=Tryz.isAgg21
 z21:=Tryz.sizeOf21
 v21:=Tryz.zeroValue21 }
theorem Tryz.utf8_ValidRune (r:Int) (w:World) :
  Calls Tryz.prog 161 #[.int .i32 r] w fun e w'=>e=.returned (.bool (Lib.validRune r))/\w'=w:=Any.utf8_ValidRune Tryz.lays119 r w
open Go.RowKit in
def Tryz.lays106_ren:Go.Shelf.Ren:=⟨fun|106=>43|213=>78|265=>116|n=>n,fun|9=>9|3=>3|n=>n,fun|n=>n⟩
theorem Tryz.lays106:Go.Proofs.Lays.n106 Tryz.prog Tryz.lays106_ren:={
 mixed:=by kernel_rfl
 f106:=Tryz.func43.trans (congrArg some (by kernel_rfl))
 f213:=Tryz.func78.trans (congrArg some (by kernel_rfl))
 f265:=Tryz.func116.trans (congrArg some (by kernel_rfl))
 t3:=Tryz.underlying3
 a3:=Tryz.isAgg3
 z3:=Tryz.sizeOf3
 v3:=Tryz.zeroValue3
 t9:=Tryz.underlying9
 a9:=Tryz.isAgg9
 z9:=Tryz.sizeOf9
 v9:=Tryz.zeroValue9 }
open Go.RowKit in
theorem Tryz.strings_Compare (a b:ByteArray) (w:World) :
  Calls Tryz.prog 43 #[.string a,.string b] w fun e w'=>e=.returned (.int .i64 (Lib.compareBytes a.data.toList b.data.toList))/\w'=w:=Any.strings_Compare Tryz.lays106 a b w
def Tryz.lays137_ren:Go.Shelf.Ren:=⟨fun|137=>160|217=>148|266=>165|n=>n,fun|9=>9|5=>5|3=>3|n=>n,fun|n=>n⟩
theorem Tryz.lays137:Go.Proofs.Lays.n137 Tryz.prog Tryz.lays137_ren:={
 mixed:=by kernel_rfl
 f137:=Tryz.func160.trans (congrArg some (by kernel_rfl))
 f217:=Tryz.func148.trans (congrArg some (by kernel_rfl))
 f266:=Tryz.func165.trans (congrArg some (by kernel_rfl))
 t3:=Tryz.underlying3
 a3:=Tryz.isAgg3
 z3:=Tryz.sizeOf3
 v3:=Tryz.zeroValue3
 t5:=Tryz.underlying5
 a5:=Tryz.isAgg5
 z5:=Tryz.sizeOf5
 v5:=Tryz.zeroValue5
 t9:=Tryz.underlying9
 a9:=Tryz.isAgg9
 z9:=Tryz.sizeOf9
 v9:=Tryz.zeroValue9 }
open Go.RowKit in
theorem Tryz.strings_IndexByte (s:ByteArray) (c:Int) (w:World) :
  Calls Tryz.prog 160 #[.string s,.int .u8 c] w fun e w'=>e=.returned (.int .i64 (Lib.indexByte s.data.toList c.toNat.toUInt8))/\w'=w:=Any.strings_IndexByte Tryz.lays137 s c w
open Go.RowKit in
def Tryz.lays103_ren:Go.Shelf.Ren:=⟨fun|103=>162|210=>177|206=>175|n=>n,fun|9=>9|4=>4|24=>151|3=>3|n=>n,fun|n=>n⟩
theorem Tryz.lays103:Go.Proofs.Lays.n103 Tryz.prog Tryz.lays103_ren:={
 mixed:=by kernel_rfl
 f103:=Tryz.func162.trans (congrArg some (by kernel_rfl))
 f206:=Tryz.func175.trans (congrArg some (by kernel_rfl))
 f210:=Tryz.func177.trans (congrArg some (by kernel_rfl))
 t3:=Tryz.underlying3
 a3:=Tryz.isAgg3
 z3:=Tryz.sizeOf3
 v3:=Tryz.zeroValue3
 t4:=Tryz.underlying4
 a4:=Tryz.isAgg4
 z4:=Tryz.sizeOf4
 v4:=Tryz.zeroValue4
 t9:=Tryz.underlying9
 a9:=Tryz.isAgg9
 z9:=Tryz.sizeOf9
 v9:=Tryz.zeroValue9
 t24:=Tryz.underlying151
 a24:=Tryz.isAgg151
 z24:=Tryz.sizeOf151
 v24:=Tryz.zeroValue151 }
open Go.RowKit in
theorem Tryz.strings_CutPrefix (s p:ByteArray) (w:World) :
  Calls Tryz.prog 162 #[.string s,.string p] w fun e w'=>e=.returned (.tuple #[.string ⟨(Lib.trimPrefix s.data.toList p.data.toList).toArray⟩,.bool (Lib.hasPrefix s.data.toList p.data.toList)])/\w'=w:=Any.strings_CutPrefix Tryz.lays103 s p w
open Go.RowKit in
def Tryz.lays121_ren:Go.Shelf.Ren:=⟨fun|121=>49|214=>84|n=>n,fun|4=>4|9=>9|n=>n,fun|n=>n⟩
theorem Tryz.lays121:Go.Proofs.Lays.n121 Tryz.prog Tryz.lays121_ren:={
 mixed:=by kernel_rfl
 f121:=Tryz.func49.trans (congrArg some (by kernel_rfl))
 f214:=Tryz.func84.trans (congrArg some (by kernel_rfl))
 t4:=Tryz.underlying4
 a4:=Tryz.isAgg4
 z4:=Tryz.sizeOf4
 v4:=Tryz.zeroValue4
 t9:=Tryz.underlying9
 a9:=Tryz.isAgg9
 z9:=Tryz.sizeOf9
 v9:=Tryz.zeroValue9 }
open Go.RowKit in
theorem Tryz.strconv_FormatBool (b:Bool) (w:World) :
  Calls Tryz.prog 49 #[.bool b] w fun e w'=>e=.returned (.string ⟨(Lib.formatBool b).toArray⟩)/\w'=w:=Any.strconv_FormatBool Tryz.lays121 b w
open Go.RowKit in
open Go.RowKit in
open Go.RowKit in
open Go.RowKit in
open Go.Lib in
open Go.Lib in
open Go.Lib in
open Go.Lib in
open Go.RowKit Go.Sort Go.Lib in
open Go.RowKit Go.Sort Go.Lib in
open Go.RowKit Go.Sort Go.Lib in
open Go.RowKit Go.Sort Go.Lib in
open Go.RowKit Go.Sort Go.Lib in
def Tryz.laysM171_ren:Go.Shelf.Ren:=⟨fun|171=>119|243=>138|246=>152|283=>167|284=>168|285=>169|286=>170|129=>180|317=>179|318=>181|319=>182|320=>183|337=>187|338=>188|n=>n,fun|3=>3|9=>9|2=>2|4=>4|171=>173|0=>0|53=>174|37=>39|5=>5|173=>177|212=>184|51=>170|20=>20|213=>185|46=>136|232=>190|233=>191|n=>n,fun|17=>1|18=>2|19=>3|n=>n⟩
theorem Tryz.laysM171:Go.Proofs.LaysM.n171 Tryz.prog Tryz.laysM171_ren:={
 mixed:=by kernel_rfl
 f129:=Tryz.func180.trans (congrArg some (by kernel_rfl))
 f171:=Tryz.func119.trans (congrArg some (by kernel_rfl))
 f243:=Tryz.func138.trans (congrArg some (by kernel_rfl))
 f246:=Tryz.func152.trans (congrArg some (by kernel_rfl))
 f283:=Tryz.func167.trans (congrArg some (by kernel_rfl))
 f284:=Tryz.func168.trans (congrArg some (by kernel_rfl))
 f285:=Tryz.func169.trans (congrArg some (by kernel_rfl))
 f286:=Tryz.func170.trans (congrArg some (by kernel_rfl))
 f317:=Tryz.func179.trans (congrArg some (by kernel_rfl))
 f318:=Tryz.func181.trans (congrArg some (by kernel_rfl))
 f319:=Tryz.func182.trans (congrArg some (by kernel_rfl))
 f320:=Tryz.func183.trans (congrArg some (by kernel_rfl))
 f337:=Tryz.func187.trans (congrArg some (by kernel_rfl))
 f338:=Tryz.func188.trans (congrArg some (by kernel_rfl))
 t0:=Tryz.underlying0
 a0:=Tryz.isAgg0
 z0:=Tryz.sizeOf0
 v0:=Tryz.zeroValue0
 t2:=Tryz.underlying2
 a2:=Tryz.isAgg2
 z2:=Tryz.sizeOf2
 v2:=Tryz.zeroValue2
 t3:=Tryz.underlying3
 a3:=Tryz.isAgg3
 z3:=Tryz.sizeOf3
 v3:=Tryz.zeroValue3
 t4:=Tryz.underlying4
 a4:=Tryz.isAgg4
 z4:=Tryz.sizeOf4
 v4:=Tryz.zeroValue4
 t5:=Tryz.underlying5
 a5:=Tryz.isAgg5
 z5:=Tryz.sizeOf5
 v5:=Tryz.zeroValue5
 t9:=Tryz.underlying9
 a9:=Tryz.isAgg9
 z9:=Tryz.sizeOf9
 v9:=Tryz.zeroValue9
 t20:=Tryz.underlying20
 a20:=Tryz.isAgg20
 z20:=Tryz.sizeOf20
 v20:=Tryz.zeroValue20
 t37:=Tryz.underlying39
 a37:=Tryz.isAgg39
 z37:=Tryz.sizeOf39
 v37:=Tryz.zeroValue39
 t46:=Tryz.underlying136
 a46:=Tryz.isAgg136
 z46:=Tryz.sizeOf136
 v46:=Tryz.zeroValue136
 t51:=Tryz.underlying170
 a51:=Tryz.isAgg170
 z51:=Tryz.sizeOf170
 v51:=Tryz.zeroValue170
 t53:=Tryz.underlying174
 a53:=Tryz.isAgg174
 z53:=Tryz.sizeOf174
 v53:=Tryz.zeroValue174
 t171:=Tryz.underlying173
 a171:=Tryz.isAgg173
 z171:=Tryz.sizeOf173
 v171:=Tryz.zeroValue173
 t173:=Tryz.underlying177
 a173:=Tryz.isAgg177
 z173:=Tryz.sizeOf177
 v173:=Tryz.zeroValue177
 t212:=Tryz.underlying184
 a212:=Tryz.isAgg184
 z212:=Tryz.sizeOf184
 v212:=Tryz.zeroValue184
 t213:=Tryz.underlying185
 a213:=Tryz.isAgg185
 z213:=Tryz.sizeOf185
 t232:=Tryz.underlying190
 a232:=Tryz.isAgg190
 z232:=Tryz.sizeOf190
 v232:=Tryz.zeroValue190
 t233:=Tryz.underlying191
 a233:=Tryz.isAgg191
 z233:=Tryz.sizeOf191
 v233:=Tryz.zeroValue191
 g17:=by kernel_rfl
 g18:=by kernel_rfl
 g19:=by kernel_rfl
 i0:=by kernel_rfl
 i2:=by kernel_rfl
 i3:=by kernel_rfl
 i4:=by kernel_rfl
 i5:=by kernel_rfl
 i9:=by kernel_rfl
 i20:=by kernel_rfl
 i37:=by kernel_rfl
 i46:=by kernel_rfl
 i51:=by kernel_rfl
 i53:=by kernel_rfl
 i171:=by kernel_rfl
 i173:=by kernel_rfl
 i212:=by kernel_rfl
 i232:=by kernel_rfl
 i233:=by kernel_rfl
 m17:=by kernel_rfl
 m18:=by kernel_rfl
 m19:=by kernel_rfl }
open Go.RowKit Go.Sort Go.Lib in
theorem Tryz.strconv_Itoa (n:Int) (h0:-9223372036854775808<=n) (h1:n<=9223372036854775807) (w:World) (htab:Lib.TabIs Tryz.prog w "internal/strconv.uint64pow10" .u64 Lib.pow10Tab) :
  Calls Tryz.prog 119 #[.int .i64 n] w fun e w'=>e=.returned (.string ⟨(Lib.itoa n).toArray⟩)/\∃ k os,w'=grow (w.drewN k) os:=Any.strconv_Itoa Tryz.laysM171 n h0 h1 w htab
open Go.RowKit Go.Sort Go.Lib in
open Go.RowKit Go.Lib in
open Go.RowKit Go.Lib in
open Go.RowKit Go.Lib in
open Go.RowKit Go.Lib in
def Tryz.lays219_ren:Go.Shelf.Ren:=⟨fun|219=>137|217=>148|225=>149|224=>150|267=>151|266=>165|314=>166|n=>n,fun|9=>9|3=>3|4=>4|5=>5|46=>136|146=>171|51=>170|n=>n,fun|1=>0|n=>n⟩
theorem Tryz.lays219:Go.Proofs.Lays.n219 Tryz.prog Tryz.lays219_ren:={
 mixed:=by kernel_rfl
 f217:=Tryz.func148.trans (congrArg some (by kernel_rfl))
 f219:=Tryz.func137.trans (congrArg some (by kernel_rfl))
 f224:=Tryz.func150.trans (congrArg some (by kernel_rfl))
 f225:=Tryz.func149.trans (congrArg some (by kernel_rfl))
 f266:=Tryz.func165.trans (congrArg some (by kernel_rfl))
 f267:=Tryz.func151.trans (congrArg some (by kernel_rfl))
 f314:=Tryz.func166.trans (congrArg some (by kernel_rfl))
 t3:=Tryz.underlying3
 a3:=Tryz.isAgg3
 z3:=Tryz.sizeOf3
 v3:=Tryz.zeroValue3
 t4:=Tryz.underlying4
 a4:=Tryz.isAgg4
 z4:=Tryz.sizeOf4
 v4:=Tryz.zeroValue4
 t5:=Tryz.underlying5
 a5:=Tryz.isAgg5
 z5:=Tryz.sizeOf5
 v5:=Tryz.zeroValue5
 t9:=Tryz.underlying9
 a9:=Tryz.isAgg9
 z9:=Tryz.sizeOf9
 v9:=Tryz.zeroValue9
 t46:=Tryz.underlying136
 a46:=Tryz.isAgg136
 z46:=Tryz.sizeOf136
 v46:=Tryz.zeroValue136
 t51:=Tryz.underlying170
 a51:=Tryz.isAgg170
 z51:=Tryz.sizeOf170
 v51:=Tryz.zeroValue170
 t146:=Tryz.underlying171
 a146:=Tryz.isAgg171
 z146:=Tryz.sizeOf171
 v146:=Tryz.zeroValue171
 g1:=by kernel_rfl }
open Go.RowKit Go.Lib in
theorem Tryz.stringslite_Index_one (s:ByteArray) (c:UInt8) (w:World) :
  Calls Tryz.prog 137 #[.string s,.string ⟨#[c]⟩] w fun e w'=>e=.returned (.int .i64 (Lib.indexByte s.data.toList c))/\w'=w:=Any.stringslite_Index_one Tryz.lays219 s c w
open Go.RowKit Go.Lib in
open Go.RowKit Go.Lib in
open Go.RowKit Go.Lib in
open Go.RowKit Go.Lib in
open Go.RowKit Go.Lib in
open Go.RowKit Go.Lib in
open Go.RowKit Go.Lib in
open Go.RowKit Go.Lib in
open Go.RowKit Go.Lib in
open Go.RowKit Go.Lib in
open Go.RowKit Go.Lib in
def Tryz.laysM145_ren:Go.Shelf.Ren:=⟨fun|145=>129|220=>141|219=>137|217=>148|225=>149|224=>150|267=>151|266=>165|314=>166|n=>n,fun|9=>9|4=>4|59=>141|3=>3|5=>5|46=>136|146=>171|51=>170|n=>n,fun|1=>0|n=>n⟩
theorem Tryz.laysM145:Go.Proofs.LaysM.n145 Tryz.prog Tryz.laysM145_ren:={
 mixed:=by kernel_rfl
 f145:=Tryz.func129.trans (congrArg some (by kernel_rfl))
 f217:=Tryz.func148.trans (congrArg some (by kernel_rfl))
 f219:=Tryz.func137.trans (congrArg some (by kernel_rfl))
 f220:=Tryz.func141.trans (congrArg some (by kernel_rfl))
 f224:=Tryz.func150.trans (congrArg some (by kernel_rfl))
 f225:=Tryz.func149.trans (congrArg some (by kernel_rfl))
 f266:=Tryz.func165.trans (congrArg some (by kernel_rfl))
 f267:=Tryz.func151.trans (congrArg some (by kernel_rfl))
 f314:=Tryz.func166.trans (congrArg some (by kernel_rfl))
 t3:=Tryz.underlying3
 a3:=Tryz.isAgg3
 z3:=Tryz.sizeOf3
 v3:=Tryz.zeroValue3
 t4:=Tryz.underlying4
 a4:=Tryz.isAgg4
 z4:=Tryz.sizeOf4
 v4:=Tryz.zeroValue4
 t5:=Tryz.underlying5
 a5:=Tryz.isAgg5
 z5:=Tryz.sizeOf5
 v5:=Tryz.zeroValue5
 t9:=Tryz.underlying9
 a9:=Tryz.isAgg9
 z9:=Tryz.sizeOf9
 v9:=Tryz.zeroValue9
 t46:=Tryz.underlying136
 a46:=Tryz.isAgg136
 z46:=Tryz.sizeOf136
 v46:=Tryz.zeroValue136
 t51:=Tryz.underlying170
 a51:=Tryz.isAgg170
 z51:=Tryz.sizeOf170
 v51:=Tryz.zeroValue170
 t59:=Tryz.underlying141
 a59:=Tryz.isAgg141
 z59:=Tryz.sizeOf141
 v59:=Tryz.zeroValue141
 t146:=Tryz.underlying171
 a146:=Tryz.isAgg171
 z146:=Tryz.sizeOf171
 v146:=Tryz.zeroValue171
 g1:=by kernel_rfl
 i3:=by kernel_rfl
 i4:=by kernel_rfl
 i5:=by kernel_rfl
 i9:=by kernel_rfl
 i46:=by kernel_rfl
 i51:=by kernel_rfl
 i59:=by kernel_rfl
 i146:=by kernel_rfl
 m1:=by kernel_rfl
 s1_3:=fun w h=>Go.Proofs.cell_of_shapedOpen_int (zero:=#[.int .i64 0]) (t:=3) h (of_decide_eq_true (by kernel_rfl)) (by kernel_rfl) rfl (by kernel_rfl) (by kernel_rfl) Tryz.underlying3 }
open Go.RowKit Go.Lib in
open Go.RowKit Go.Lib in
open Go.RowKit Go.Lib in
def Tryz.laysGw17_ren:Go.Shelf.Ren:=⟨fun|17=>56|15=>93|20=>123|n=>n,fun|9=>9|23=>90|4=>4|3=>3|0=>0|21=>21|n=>n,fun|n=>n⟩
theorem Tryz.laysGw17:Go.Proofs.LaysGw.n17 Tryz.prog Tryz.laysGw17_ren:={
 mixed:=by kernel_rfl
 f15:=Tryz.func93.trans (congrArg some (by kernel_rfl))
 f17:=Tryz.func56.trans (congrArg some (by kernel_rfl))
 f20:=Tryz.func123.trans (congrArg some (by kernel_rfl))
 t0:=Tryz.underlying0
 a0:=Tryz.isAgg0
 z0:=Tryz.sizeOf0
 v0:=Tryz.zeroValue0
 i0:=by kernel_rfl
 t3:=Tryz.underlying3
 a3:=Tryz.isAgg3
 z3:=Tryz.sizeOf3
 v3:=Tryz.zeroValue3
 i3:=by kernel_rfl
 t4:=Tryz.underlying4
 a4:=Tryz.isAgg4
 z4:=Tryz.sizeOf4
 v4:=Tryz.zeroValue4
 i4:=by kernel_rfl
 t9:=Tryz.underlying9
 a9:=Tryz.isAgg9
 z9:=Tryz.sizeOf9
 v9:=Tryz.zeroValue9
 i9:=by kernel_rfl
 t21:=Tryz.underlying21
 a21:=Tryz.isAgg21
 z21:=Tryz.sizeOf21
 v21:=Tryz.zeroValue21
 i21:=by kernel_rfl
 t23:=Tryz.underlying90
 a23:=Tryz.isAgg90
 z23:=Tryz.sizeOf90
 v23:=Tryz.zeroValue90
 i23:=by kernel_rfl }
open Go.RowKit Go.Lib in
open Go.RowKit Go.Lib in
open Go.RowKit Go.Lib in
open Go.RowKit Go.Lib in
def Tryz.lays101_ren:Go.Shelf.Ren:=⟨fun|101=>163|208=>178|206=>175|n=>n,fun|9=>9|4=>4|3=>3|n=>n,fun|n=>n⟩
theorem Tryz.lays101:Go.Proofs.Lays.n101 Tryz.prog Tryz.lays101_ren:={
 mixed:=by kernel_rfl
 f101:=Tryz.func163.trans (congrArg some (by kernel_rfl))
 f206:=Tryz.func175.trans (congrArg some (by kernel_rfl))
 f208:=Tryz.func178.trans (congrArg some (by kernel_rfl))
 t3:=Tryz.underlying3
 a3:=Tryz.isAgg3
 z3:=Tryz.sizeOf3
 v3:=Tryz.zeroValue3
 t4:=Tryz.underlying4
 a4:=Tryz.isAgg4
 z4:=Tryz.sizeOf4
 v4:=Tryz.zeroValue4
 t9:=Tryz.underlying9
 a9:=Tryz.isAgg9
 z9:=Tryz.sizeOf9
 v9:=Tryz.zeroValue9 }
open Go.RowKit Go.Lib in
theorem Tryz.strings_TrimPrefix (s p:ByteArray) (w:World) :
  Calls Tryz.prog 163 #[.string s,.string p] w fun e w'=>e=.returned (.string ⟨(Lib.trimPrefix s.data.toList p.data.toList).toArray⟩)/\w'=w:=Any.strings_TrimPrefix Tryz.lays101 s p w
open Go.RowKit Go.Lib in
def Tryz.lays151_ren:Go.Shelf.Ren:=⟨fun|151=>132|152=>142|137=>160|119=>161|224=>150|225=>149|217=>148|266=>165|n=>n,fun|9=>9|21=>21|4=>4|3=>3|5=>5|0=>0|46=>136|n=>n,fun|n=>n⟩
theorem Tryz.lays151:Go.Proofs.Lays.n151 Tryz.prog Tryz.lays151_ren:={
 mixed:=by kernel_rfl
 f119:=Tryz.func161.trans (congrArg some (by kernel_rfl))
 f137:=Tryz.func160.trans (congrArg some (by kernel_rfl))
 f151:=Tryz.func132.trans (congrArg some (by kernel_rfl))
 f152:=Tryz.func142.trans (congrArg some (by kernel_rfl))
 f217:=Tryz.func148.trans (congrArg some (by kernel_rfl))
 f224:=Tryz.func150.trans (congrArg some (by kernel_rfl))
 f225:=Tryz.func149.trans (congrArg some (by kernel_rfl))
 f266:=Tryz.func165.trans (congrArg some (by kernel_rfl))
 t0:=Tryz.underlying0
 a0:=Tryz.isAgg0
 z0:=Tryz.sizeOf0
 v0:=Tryz.zeroValue0
 t3:=Tryz.underlying3
 a3:=Tryz.isAgg3
 z3:=Tryz.sizeOf3
 v3:=Tryz.zeroValue3
 t4:=Tryz.underlying4
 a4:=Tryz.isAgg4
 z4:=Tryz.sizeOf4
 v4:=Tryz.zeroValue4
 t5:=Tryz.underlying5
 a5:=Tryz.isAgg5
 z5:=Tryz.sizeOf5
 v5:=Tryz.zeroValue5
 t9:=Tryz.underlying9
 a9:=Tryz.isAgg9
 z9:=Tryz.sizeOf9
 v9:=Tryz.zeroValue9
 t21:=Tryz.underlying21
 a21:=Tryz.isAgg21
 z21:=Tryz.sizeOf21
 v21:=Tryz.zeroValue21
 t46:=Tryz.underlying136
 a46:=Tryz.isAgg136
 z46:=Tryz.sizeOf136
 v46:=Tryz.zeroValue136 }
open Go.RowKit Go.Lib in
theorem Tryz.strings_ContainsRune_ascii (s:ByteArray) (r:Int) (w:World) (h0:0<=r) (h1:r<128) :
  Calls Tryz.prog 132 #[.string s,.int .i32 r] w fun e w'=>e=.returned (.bool (decide (0<=Lib.indexByte s.data.toList r.toNat.toUInt8)))/\w'=w:=Any.strings_ContainsRune_ascii Tryz.lays151 s r w h0 h1
open Go.RowKit Go.Lib in
open Go.RowKit Go.Lib in
open Go.RowKit Go.Lib in
open Go.RowKit Go.Lib in
def Tryz.lays105_ren:Go.Shelf.Ren:=⟨fun|105=>140|212=>157|99=>158|165=>159|166=>48|170=>131|169=>27|263=>173|264=>174|206=>175|240=>83|241=>176|276=>118|277=>186|n=>n,fun|9=>9|3=>3|4=>4|20=>20|0=>0|46=>136|109=>164|5=>5|72=>50|76=>84|51=>170|146=>171|53=>174|148=>182|70=>48|37=>39|75=>83|127=>88|164=>133|80=>54|n=>n,fun|n=>n⟩
theorem Tryz.lays105:Go.Proofs.Lays.n105 Tryz.prog Tryz.lays105_ren:={
 mixed:=by kernel_rfl
 f99:=Tryz.func158.trans (congrArg some (by kernel_rfl))
 f105:=Tryz.func140.trans (congrArg some (by kernel_rfl))
 f165:=Tryz.func159.trans (congrArg some (by kernel_rfl))
 f166:=Tryz.func48.trans (congrArg some (by kernel_rfl))
 f169:=Tryz.func27.trans (congrArg some (by kernel_rfl))
 f170:=Tryz.func131.trans (congrArg some (by kernel_rfl))
 f206:=Tryz.func175.trans (congrArg some (by kernel_rfl))
 f212:=Tryz.func157.trans (congrArg some (by kernel_rfl))
 f240:=Tryz.func83.trans (congrArg some (by kernel_rfl))
 f241:=Tryz.func176.trans (congrArg some (by kernel_rfl))
 f263:=Tryz.func173.trans (congrArg some (by kernel_rfl))
 f264:=Tryz.func174.trans (congrArg some (by kernel_rfl))
 f276:=Tryz.func118.trans (congrArg some (by kernel_rfl))
 f277:=Tryz.func186.trans (congrArg some (by kernel_rfl))
 t0:=Tryz.underlying0
 a0:=Tryz.isAgg0
 z0:=Tryz.sizeOf0
 v0:=Tryz.zeroValue0
 t3:=Tryz.underlying3
 a3:=Tryz.isAgg3
 z3:=Tryz.sizeOf3
 v3:=Tryz.zeroValue3
 t4:=Tryz.underlying4
 a4:=Tryz.isAgg4
 z4:=Tryz.sizeOf4
 v4:=Tryz.zeroValue4
 t5:=Tryz.underlying5
 a5:=Tryz.isAgg5
 z5:=Tryz.sizeOf5
 v5:=Tryz.zeroValue5
 t9:=Tryz.underlying9
 a9:=Tryz.isAgg9
 z9:=Tryz.sizeOf9
 v9:=Tryz.zeroValue9
 t20:=Tryz.underlying20
 a20:=Tryz.isAgg20
 z20:=Tryz.sizeOf20
 v20:=Tryz.zeroValue20
 t37:=Tryz.underlying39
 a37:=Tryz.isAgg39
 z37:=Tryz.sizeOf39
 v37:=Tryz.zeroValue39
 t46:=Tryz.underlying136
 a46:=Tryz.isAgg136
 z46:=Tryz.sizeOf136
 v46:=Tryz.zeroValue136
 t51:=Tryz.underlying170
 a51:=Tryz.isAgg170
 z51:=Tryz.sizeOf170
 v51:=Tryz.zeroValue170
 t53:=Tryz.underlying174
 a53:=Tryz.isAgg174
 z53:=Tryz.sizeOf174
 v53:=Tryz.zeroValue174
 t70:=Tryz.underlying48
 a70:=Tryz.isAgg48
 z70:=Tryz.sizeOf48
 v70:=Tryz.zeroValue48
 t72:=Tryz.underlying50
 a72:=Tryz.isAgg50
 z72:=Tryz.sizeOf50
 v72:=Tryz.zeroValue50
 t75:=Tryz.underlying83
 a75:=Tryz.isAgg83
 z75:=Tryz.sizeOf83
 v75:=Tryz.zeroValue83
 t76:=Tryz.underlying84
 a76:=Tryz.isAgg84
 z76:=Tryz.sizeOf84
 v76:=Tryz.zeroValue84
 t109:=Tryz.underlying164
 a109:=Tryz.isAgg164
 z109:=Tryz.sizeOf164
 v109:=Tryz.zeroValue164
 t127:=Tryz.underlying88
 a127:=Tryz.isAgg88
 z127:=Tryz.sizeOf88
 v127:=Tryz.zeroValue88
 t146:=Tryz.underlying171
 a146:=Tryz.isAgg171
 z146:=Tryz.sizeOf171
 v146:=Tryz.zeroValue171
 t148:=Tryz.underlying182
 a148:=Tryz.isAgg182
 z148:=Tryz.sizeOf182
 v148:=Tryz.zeroValue182
 t164:=Tryz.underlying133
 a164:=Tryz.isAgg133
 z164:=Tryz.sizeOf133
 v164:=Tryz.zeroValue133 }
theorem Tryz.Builder_Extra_105:Builder.Extra Tryz.prog Tryz.lays105_ren:={
 sizeBuilder:=by kernel_rfl
 liesBuilder:=by kernel_rfl
 t5:=Tryz.underlying5
 a5:=Tryz.isAgg5
 z5:=Tryz.sizeOf5
 v5:=Tryz.zeroValue5
 infoByte:=by kernel_rfl
 cellsByte:=by kernel_rfl
 sizeByte:=by kernel_rfl
 neB5:=by decide }
open Go.RowKit Go.Lib in
open Go.RowKit Go.Lib in
open Go.RowKit Go.Lib in
open Go.RowKit Go.Lib in
open Go.RowKit Go.Lib in
open Go.RowKit Go.Lib in
open Go.RowKit Go.Lib in
theorem Tryz.strings_Repeat (s:ByteArray) (c:Nat) (w:World) (hc:c<=9223372036854775807) (hlen:s.size*c<=140737488355328) :
  Calls Tryz.prog 140 #[.string s,.int .i64 c] w fun e w'=>e=.returned (.string ⟨(Lib.repeatL s.data.toList c).toArray⟩)/\Below w.heap.size w w':=Any.strings_Repeat Tryz.lays105 Tryz.Builder_Extra_105 s c w hc hlen
open Go.RowKit Go.Lib in
open Go.RowKit Go.Lib in
open Go.RowKit Go.Lib in
open Go.RowKit Go.Lib in
open Go.RowKit Go.Lib in
open Go.RowKit Go.Lib in
theorem Tryz.strings_ContainsFunc_grows (g:Nat) (lb:Array Value) (eg:∀ args w,(callFunc g args).run Tryz.prog w=.ok (.enter g args) w) (p:Nat->Bool) (s:ByteArray) (w:World) (hp:PredGrows Tryz.prog g lb p w) :
  Calls Tryz.prog 56 #[.string s,.func (.func g) #[] lb] w fun e w'=>e=.returned (.bool (decide (0<=Lib.idxFunc p true s)))/\Below w.heap.size w w':=Any.strings_ContainsFunc_grows Tryz.laysGw17 g lb eg p s w hp
end Go.Proofs
namespace Go.Proofs.YtcehpobjnbgpdaaGreatDoor
open Go.RowKit
structure LibOk (w:World):Prop where
 tab:Lib.TabIs Tryz.prog w "internal/strconv.uint64pow10" .u64 Lib.pow10Tab
 most:∃ m,w.cell? ⟨0,0,none⟩=some (.int .i64 m)
theorem cell_in {w:World} {a:Addr} {v:Value} (h:w.cell? a=some v):a.block<w.heap.size:=by
 rcases Nat.lt_or_ge a.block w.heap.size with h'|h'
 ·exact h'
 ·simp [World.cell?,Array.getElem?_eq_none h'] at h
theorem var_chg {P:Program} {w w':World} {n:String} {cs:Array Value} (h:w.var? P n=some cs) (hc:Chg NoS w w'):w'.var? P n=some cs:=by
 unfold World.var? at h ⊢
 cases hg:P.globalNamed n with
 |none=>simp [hg] at h
 |some g =>
  simp only [hg,Option.bind_some] at h ⊢
  have hlt:g<w.heap.size:=by
   rcases Nat.lt_or_ge g w.heap.size with h'|h'
   ·exact h'
   ·simp [Array.getElem?_eq_none h'] at h
  rw [hc.block g hlt (fun h=>h)]
  exact h
theorem LibOk.chg {w w':World} (h:LibOk w) (hc:Chg NoS w w'):LibOk w':=by
 obtain⟨m,hm⟩:=h.most
 exact⟨var_chg h.tab hc,m,(hc.cell (cell_in hm) (fun h=>h)).trans hm⟩
theorem chg_grow {w:World} (k:Nat) (os:Array Obj):Chg NoS w (Go.Sort.grow (w.drewN k) os) :=
 ⟨rfl,rfl,rfl,by rw [Go.Sort.size_grow];exact Nat.le_add_right _ _,fun i hi _=>Go.Sort.heap_grow_old _ _ hi⟩
theorem mk_sb (l:List UInt8):(⟨l.toArray⟩:ByteArray)=sb (l.map UInt8.toNat):=by
 unfold sb
 rw [List.map_map]
 have e:(UInt8.ofNat ∘ UInt8.toNat)=id:=by funext x;simp
 rw [e,List.map_id]
theorem of_dig (d:Nat) (h:d<10):(UInt8.ofNat (48+d)).toNat=48+d:=by
 simp
 omega
theorem dec_txt (u:Nat):(Lib.decDigits u).map UInt8.toNat=txt u 1:=by
 induction u using Nat.strongRecOn with
 |_ u ih =>
  rw [Lib.decDigits]
  by_cases h:u<10
  ·rw [dif_pos h,List.map_cons,List.map_nil,of_dig u h]
   by_cases h0:u=0
   ·subst h0;rw [txt,dn_0];rfl
   ·rw [txt,dn_s h0,show u / 10=0 from by omega,dn_0,show u%10=u from by omega]
    rfl
  ·rw [dif_neg h,List.map_append,ih (u / 10) (by omega),List.map_cons,List.map_nil,of_dig _ (by omega),txt_step u 1 (.inl (by omega))]
   rw [txt,txt]
   congr 1
   have h1:=dn_more (n:=u / 10) (k:=0) (by simp;omega)
   rw [show 1-(dn (u / 10)).length=0 from by omega,show 1-1-(dn (u / 10)).length=0 from by omega]
theorem itoa_pos (n:Int) (h:0<=n):(⟨(Lib.itoa n).toArray⟩:ByteArray)=sb (txt n.toNat 1):=by
 unfold Lib.itoa
 rw [if_neg (by omega),mk_sb,dec_txt]
theorem rep_zero:∀ c,Lib.repeatL [48] c=List.replicate c 48
 |0=>rfl
 |c+1=>by rw [Lib.repeatL,rep_zero c,List.replicate_succ];rfl
theorem rep_sb (c:Nat):(⟨(Lib.repeatL [48] c).toArray⟩:ByteArray)=sb (List.replicate c 48):=by
 rw [mk_sb,rep_zero,List.map_replicate]
 rfl
theorem itoa_any (n:Nat) (hn:n<=9223372036854775807) (w:World) (h:LibOk w) :
  Calls Tryz.prog 119 #[.int .i64 (n:Nat)] w fun e w'=>e=.returned (.string (sb (txt n 1)))/\Chg NoS w w' :=
 (Go.Proofs.Tryz.strconv_Itoa (n:Int) (by omega) (by omega) w h.tab).mono fun e w' hh=>by
  obtain⟨he,k,os,rfl⟩:=hh
  refine⟨?_,chg_grow k os⟩
  rw [he,itoa_pos _ (by omega)]
  rfl
theorem rep_any (c:Nat) (hc:c<=1000) (w:World) :
  Calls Tryz.prog 140 #[.string ⟨#[48]⟩,.int .i64 (c:Nat)] w fun e w'=>e=.returned (.string (sb (List.replicate c 48)))/\Chg NoS w w' :=
 (Go.Proofs.Tryz.strings_Repeat ⟨#[48]⟩ c w (by omega) (by show 1*c<=_;omega)).mono fun e w' hh=>by
  obtain⟨he,hb⟩:=hh
  refine⟨?_,Chg.of_below hb⟩
  rw [he]
  show Ending.returned (Value.string ⟨(Lib.repeatL [48] c).toArray⟩)=_
  rw [rep_sb]
theorem txt_pad (n d:Nat) (h:1<=d):List.replicate (d-(txt n 1).length) 48++txt n 1=txt n d:=by
 by_cases h0:n=0
 ·subst h0
  rw [txt,txt,dn_0]
  simp only [List.length_nil,Nat.sub_zero,List.append_nil,List.length_replicate,List.replicate_append_replicate]
  rw [show d-1+(1-0)=d from by omega]
 ·have h1:=dn_more (n:=n) (k:=0) (by simp;omega)
  rw [txt,txt,show 1-(dn n).length=0 from by omega]
  rfl
set_option maxHeartbeats 1000000 in
theorem padded_any (n d:Nat) (hn:n<=9223372036854775807) (hd:1<=d/\d<=20) (w:World) (hL:LibOk w) :
  Calls Tryz.prog 121 #[.int .i64 (n:Nat),.int .i64 (d:Nat)] w fun e w'=>e=.returned (.string (sb (txt n d)))/\Chg NoS w w':=by
 obtain⟨L,hLn⟩:∃ L,(txt n 1).length=L:=⟨_,rfl⟩
 have hL20:L<=100:=by
  have h1:(dn n).length<=19:=dn_len (by omega)
  rw [<- hLn,txt_len]
  omega
 obtain⟨t,ht⟩:∃ t,sb (txt n 1)=t:=⟨_,rfl⟩
 have hts:t.size=L:=by rw [<- ht,sb_size,hLn]
 obtain⟨c,hc⟩:∃ c:Nat,d-L=c:=⟨_,rfl⟩
 have e1:max (0:Int) ((d:Int)-(L:Int))=(c:Int):=by omega
 obtain⟨r,hr⟩:∃ r,sb (List.replicate c 48)=r:=⟨_,rfl⟩
 have hrs:r.size=c:=by rw [<- hr,sb_size,List.length_replicate]
 have HI:=kf (itoa_any n hn w hL)
 have HR:=kf (fun W=>rep_any c (by omega) W)
 rw [ht] at HI
 rw [hr] at HR
 have HE:Hid (r++t=sb (txt n d)):=by
  show _=_
  rw [<- hr,<- ht,sb_app,<- hc,<- hLn,txt_pad n d hd.1]
 have hc20:c<=20:=by omega
 clear hL hLn ht hr
 have HCD:=kf hc
 clear hc
 go_enter Tryz.func121,Tryz.ntmps121
 go_wp2_with first|(go_at_call 119;refine HI.out.mono ?_;rintro e w2 ⟨rfl,hc2⟩;have HC2:=kf hc2;clear hc2)|(go_at_call 140;refine(HR.out _).mono ?_;rintro e w3 ⟨rfl,hc3⟩;have HC3:=kf (HC2.out.trans hc3 (fun _ _ h=>h));clear hc3)
 go_ret
 rw [<- HE.out]
 exact⟨rfl,HC3.out⟩
def trimR (l:List Nat):List Nat:=(l.reverse.dropWhile (·== 48)).reverse
theorem trimR_snoc (m:List Nat) (x:Nat):trimR (m++[x])=if x=48 then trimR m else m++[x]:=by
 unfold trimR
 rw [List.reverse_append,List.reverse_singleton,List.singleton_append,List.dropWhile_cons]
 by_cases h:x=48
 ·rw [if_pos h,if_pos (by simp [h])]
 ·rw [if_neg h,if_neg (by simp [h]),List.reverse_cons,List.reverse_reverse]
theorem trimZ_R (c:Nat):∀ (k:Nat) (m:List Nat),m.length=k->trimZ k (c::m)=c::trimR m:=by
 intro k
 induction k with
 |zero=>intro m h;rw [List.eq_nil_of_length_eq_zero h];rfl
 |succ k ih =>
  intro m h
  rcases List.eq_nil_or_concat m with rfl|⟨m',x,rfl⟩
  ·simp at h
  ·rw [List.concat_eq_append] at h ⊢
   rw [List.length_append,List.length_singleton] at h
   rw [trimZ,trimR_snoc,<- List.cons_append,List.getLast?_append,List.getLast?_singleton,List.dropLast_concat,ih m' (by omega)]
   by_cases hx:x=48
   ·rw [if_pos (by rw [hx];rfl),if_pos hx]
   ·rw [if_neg (by simpa using hx),if_neg hx,List.cons_append]
theorem drop_while_map (l:List UInt8):(l.dropWhile (·== 48)).map UInt8.toNat=(l.map UInt8.toNat).dropWhile (·== 48):=by
 induction l with
 |nil=>rfl
 |cons x l ih =>
  rw [List.dropWhile_cons,List.map_cons,List.dropWhile_cons]
  by_cases h:x=48
  ·subst h
   rw [if_pos (by rfl),if_pos (by rfl),ih]
  ·have h2:¬x.toNat=48:=fun h2=>h (UInt8.toNat_inj.1 h2)
   rw [if_neg (by simpa using h),if_neg (by simpa using h2),List.map_cons]
theorem trimB_R (l:List UInt8):(Lib.trimRightB l 48).map UInt8.toNat=trimR (l.map UInt8.toNat):=by
 unfold Lib.trimRightB trimR
 rw [List.map_reverse,drop_while_map,List.map_reverse]
theorem tright_any (l:List Nat) (hb:∀ d∈l,d<256) (hl:l.length<=1000) (w:World) :
  Calls Tryz.prog 139 #[.string (sb l),.string ⟨#[48]⟩] w fun e w'=>e=.returned (.string (sb (trimR l)))/\w=w' :=
 (Go.Proofs.Tryz.strings_TrimRight_one (sb l) 48 (by decide) w (by rw [sb_size];omega)).mono fun e w' hh=>by
  obtain⟨he,hw⟩:=hh
  refine⟨?_,hw.symm⟩
  rw [he,mk_sb,trimB_R]
  show Ending.returned (Value.string (sb (trimR (sl (sb l)))))=_
  rw [sl_sb l hb]
theorem drop_len (l:List Nat) (p:Nat->Bool):(l.dropWhile p).length<=l.length:=by
 induction l with
 |nil=>exact Nat.le_refl _
 |cons x l ih =>
  rw [List.dropWhile_cons]
  split
  ·rw [List.length_cons];omega
  ·exact Nat.le_refl _
theorem trimR_len (l:List Nat):(trimR l).length<=l.length:=by
 unfold trimR
 rw [List.length_reverse]
 exact Nat.le_trans (drop_len _ _) (by rw [List.length_reverse];exact Nat.le_refl _)
set_option maxHeartbeats 1000000 in
theorem shortest_any (c:Nat) (m:List Nat) (hb:∀ d∈c::m,d<256) (hm:m.length=5) (w:World) :
  Calls Tryz.prog 120 #[.string (sb (c::m))] w fun e w'=>e=.returned (.string (sb (trimZ 5 (c::m))))/\Chg NoS w w':=by
 have HR:=kf (fun W=>tright_any m (fun d hd=>hb d (List.mem_cons_of_mem _ hd)) (by omega) W)
 obtain⟨s,hs⟩:∃ s,sb (c::m)=s:=⟨_,rfl⟩
 obtain⟨a,ha⟩:∃ a,sb [c]=a:=⟨_,rfl⟩
 obtain⟨b,hb2⟩:∃ b,sb m=b:=⟨_,rfl⟩
 obtain⟨t,ht⟩:∃ t,sb (trimR m)=t:=⟨_,rfl⟩
 have hz:s.size=6:=by rw [<- hs,sb_size,List.length_cons,hm]
 obtain⟨y,hy1,hy9⟩:∃ y,a.size=y/\y<=5:=⟨1,by rw [<- ha,sb_size];rfl,by omega⟩
 obtain⟨z,hz5⟩:∃ z,(trimR m).length=z:=⟨_,rfl⟩
 have hts:t.size=z:=by rw [<- ht,sb_size,hz5]
 have hz9:z<=5:=by
  have h:=trimR_len m
  omega
 have ex1:s.extract 0 1=a:=by rw [<- hs,sb_take,<- ha];rfl
 have ex2:s.extract 1 6=b:=by
  rw [<- hs,<- hb2]
  unfold sb
  apply ByteArray.ext
  rw [ByteArray.data_extract]
  have e:(m.map UInt8.ofNat).length=5:=by rw [List.length_map,hm]
  simp
  exact List.take_of_length_le (by omega)
 have HE:Hid (a++t=sb (trimZ 5 (c::m))):=by
  show _=_
  rw [<- ha,<- ht,sb_app,trimZ_R c 5 m hm]
  rfl
 rw [hb2,ht] at HR
 rw [hs]
 have i1:¬9223372036854775807<y+z:=by omega
 have i2:y+z<=9223372036854775807:=by omega
 clear hs ha hb2 ht hb hm hz5
 go_enter Tryz.func120,Tryz.ntmps120
 go_upto_region 1 with fail
 go_region_held3 (fun _=>True) (trivial) ((go_at_call 139;refine(HR.out _).mono ?_;rintro e w2 ⟨rfl,rfl⟩))
 go_wp2_with fail
 go_ret
 rw [<- HE.out]
 exact⟨rfl,(Chg.refl _ _).drew⟩
set_option maxHeartbeats 1000000 in
theorem chk_any (k n:Int) (s:ByteArray) (A:Option Addr) (len cap:Nat) (w:World) :
  Calls Tryz.prog 80 #[.agg #[.int .i64 k,.int .i64 n,.string s,.slice A len cap]] w fun e w'=>e=.returned (.int .i64 (chkOf k n s.size len))/\Chg NoS w w':=by
 by_cases h3:k=3
 ·subst h3
  by_cases c1:n < -2147483647000000
  ·have d1:decide (n < -2147483647000000)=true:=by simpa using c1
   have HZ:Hid (chkOf 3 n s.size len=2):=if_neg (fun h=>by have h:=h.2.2;unfold mayN at h;omega)
   clear c1
   go_enter Tryz.func80,Tryz.ntmps80
   go_wp2_with fail
   go_ret
   refine⟨?_,(Chg.refl NoS w).alloc _⟩
   rw [HZ.out]
   rfl
  ·have d1:decide (n < -2147483647000000)=false:=by simpa using c1
   by_cases c2:2147483647000000<n
   ·have d2:decide (2147483647000000<n)=true:=by simpa using c2
    have HZ:Hid (chkOf 3 n s.size len=2):=if_neg (fun h=>by have h:=h.2.2;unfold mayN at h;omega)
    clear c1 c2
    go_enter Tryz.func80,Tryz.ntmps80
    go_wp2_with fail
    go_ret
    refine⟨?_,(Chg.refl NoS w).alloc _⟩
    rw [HZ.out]
    rfl
   ·have d2:decide (2147483647000000<n)=false:=by simpa using c2
    by_cases hs:s.size=0
    ·obtain rfl:=str_nil hs
     by_cases hl:0<len
     ·have d3:decide (0<(len:Int))=true:=by simp;omega
      have d3':decide (0<len)=true:=by simp;omega
      have HZ:Hid (chkOf 3 n (ByteArray.mk #[]).size len=2):=if_neg (fun h=>by have h:=h.2.1;omega)
      clear c1 c2 hs hl
      go_enter Tryz.func80,Tryz.ntmps80
      go_wp2_with fail
      go_ret
      refine⟨?_,(Chg.refl NoS w).alloc _⟩
      show _=Ending.returned (Value.int IntKind.i64 (chkOf _ _ (ByteArray.mk #[]).size _))
      rw [HZ.out]
      rfl
     ·obtain rfl:len=0:=by omega
      have HZ:Hid (chkOf 3 n (ByteArray.mk #[]).size 0=0):=if_pos ⟨rfl,rfl,by unfold mayN;omega⟩
      clear c1 c2 hs hl
      go_enter Tryz.func80,Tryz.ntmps80
      go_wp2_with fail
      go_ret
      refine⟨?_,(Chg.refl NoS w).alloc _⟩
      show _=Ending.returned (Value.int IntKind.i64 (chkOf _ _ (ByteArray.mk #[]).size _))
      rw [HZ.out]
      rfl
    ·have u1:=str_ne hs
     have HZ:Hid (chkOf 3 n s.size len=2):=if_neg (fun h=>hs h.1)
     clear c1 c2 hs
     go_enter Tryz.func80,Tryz.ntmps80
     go_wp2_with fail
     go_ret
     refine⟨?_,(Chg.refl NoS w).alloc _⟩
     rw [HZ.out]
     rfl
 ·have u3:(k==3)=false:=by simpa using h3
  by_cases h2:k=2
  ·subst h2
   clear u3 h3
   by_cases c1:n < -2147483647
   ·have d1:decide (n < -2147483647)=true:=by simpa using c1
    have HZ:Hid (chkOf 2 n s.size len=2):=if_neg (fun h=>by have h:=h.2.2;unfold mayN at h;omega)
    clear c1
    go_enter Tryz.func80,Tryz.ntmps80
    go_wp2_with fail
    go_ret
    refine⟨?_,(Chg.refl NoS w).alloc _⟩
    rw [HZ.out]
    rfl
   ·have d1:decide (n < -2147483647)=false:=by simpa using c1
    by_cases c2:2147483647<n
    ·have d2:decide (2147483647<n)=true:=by simpa using c2
     have HZ:Hid (chkOf 2 n s.size len=2):=if_neg (fun h=>by have h:=h.2.2;unfold mayN at h;omega)
     clear c1 c2
     go_enter Tryz.func80,Tryz.ntmps80
     go_wp2_with fail
     go_ret
     refine⟨?_,(Chg.refl NoS w).alloc _⟩
     rw [HZ.out]
     rfl
    ·have d2:decide (2147483647<n)=false:=by simpa using c2
     by_cases hs:s.size=0
     ·obtain rfl:=str_nil hs
      by_cases hl:0<len
      ·have d3:decide (0<(len:Int))=true:=by simp;omega
       have d3':decide (0<len)=true:=by simp;omega
       have HZ:Hid (chkOf 2 n (ByteArray.mk #[]).size len=2):=if_neg (fun h=>by have h:=h.2.1;omega)
       clear c1 c2 hs hl
       go_enter Tryz.func80,Tryz.ntmps80
       go_wp2_with fail
       go_ret
       refine⟨?_,(Chg.refl NoS w).alloc _⟩
       show _=Ending.returned (Value.int IntKind.i64 (chkOf _ _ (ByteArray.mk #[]).size _))
       rw [HZ.out]
       rfl
      ·obtain rfl:len=0:=by omega
       have HZ:Hid (chkOf 2 n (ByteArray.mk #[]).size 0=0):=if_pos ⟨rfl,rfl,by unfold mayN;omega⟩
       clear c1 c2 hs hl
       go_enter Tryz.func80,Tryz.ntmps80
       go_wp2_with fail
       go_ret
       refine⟨?_,(Chg.refl NoS w).alloc _⟩
       show _=Ending.returned (Value.int IntKind.i64 (chkOf _ _ (ByteArray.mk #[]).size _))
       rw [HZ.out]
       rfl
     ·have u1:=str_ne hs
      have HZ:Hid (chkOf 2 n s.size len=2):=if_neg (fun h=>hs h.1)
      clear c1 c2 hs
      go_enter Tryz.func80,Tryz.ntmps80
      go_wp2_with fail
      go_ret
      refine⟨?_,(Chg.refl NoS w).alloc _⟩
      rw [HZ.out]
      rfl
  ·have u2:(k==2)=false:=by simpa using h2
   have u2':(k != 2)=true:=by simpa using h2
   have HZ:Hid (chkOf k n s.size len=2):=if_neg (fun h=>by have h:=h.2.2;unfold mayN at h;omega)
   clear h3 h2
   go_enter Tryz.func80,Tryz.ntmps80
   go_wp2_with fail
   go_ret
   refine⟨?_,(Chg.refl NoS w).alloc _⟩
   rw [HZ.out]
   rfl
theorem txt6 (p:Nat) (h:p<1000000):∃ c m,txt p 6=c::m/\m.length=5:=by
 have h1:=dn_len (n:=p) (k:=6) (by omega)
 have hl:(txt p 6).length=6:=by rw [txt_len];omega
 rcases hx:txt p 6 with _|⟨c,m⟩
 ·rw [hx] at hl;simp at hl
 ·rw [hx] at hl;exact⟨c,m,rfl,by simpa using hl⟩
theorem trimZ_le (p:Nat) (h:p<1000000):(trimZ 5 (txt p 6)).length<=6:=by
 obtain⟨c,m,e,hm⟩:=txt6 p h
 have:=trimR_len m
 rw [e,trimZ_R c 5 m hm,List.length_cons]
 omega
theorem short_any (p:Nat) (h:p<1000000) (w:World) :
  Calls Tryz.prog 120 #[.string (sb (txt p 6))] w fun e w'=>e=.returned (.string (sb (trimZ 5 (txt p 6))))/\Chg NoS w w':=by
 have hd:=dig_lt (txt_dig p 6)
 obtain⟨c,m,e,hm⟩:=txt6 p h
 rw [e] at hd ⊢
 exact shortest_any c m hd hm w
set_option maxHeartbeats 4000000 in
theorem print_any (k n:Int) (s:ByteArray) (A:Option Addr) (len cap:Nat) (w:World) (hL:LibOk w) :
  Calls Tryz.prog 85 #[.agg #[.int .i64 k,.int .i64 n,.string s,.slice A len cap]] w (PrTo w k n s.size len):=by
 have HL:=kf hL
 have HCH:=kf (fun W=>chk_any k n s A len cap W)
 have HB:=kf (Blk.new w 24 #[.int .i64 k,.int .i64 n,.string s,.slice A len cap])
 have HA:=kf ((Chg.refl NoS w).alloc (.cells #[.int .i64 k,.int .i64 n,.string s,.slice A len cap] 24))
 obtain⟨W,hW⟩:∃ W,W=w.alloc (.cells #[.int .i64 k,.int .i64 n,.string s,.slice A len cap] 24):=⟨_,rfl⟩
 obtain⟨g,hg⟩:∃ g,g=w.heap.size:=⟨_,rfl⟩
 rw [<- hW] at HB HA
 rw [<- hg] at HB
 by_cases hc:chkOf k n s.size len=0
 ·have hm:=hc
  unfold chkOf at hm
  split at hm
  ·rename_i h
   obtain⟨h1,h2,h3⟩:=h
   obtain rfl:=str_nil h1
   subst h2
   have HC:Hid (∀ W,Calls Tryz.prog 80 #[.agg #[.int .i64 k,.int .i64 n,.string ⟨#[]⟩,.slice A 0 cap]] W fun e w'=>e=.returned (.int .i64 0)/\Chg NoS W w'):=fun W=>by
    have h:=HCH.out W
    rw [hc] at h
    exact h
   have HP:Hid (∀ l:List Nat,(if k=2 then intTxt n else realTxt n)=l->prOf k n (ByteArray.mk #[]).size 0=(l,0)):=fun l hl=>by
    unfold prOf
    rw [if_pos hc,hl]
   clear hc hm h1 HCH hL
   rcases h3 with⟨hk,b1,b2⟩|⟨hk,b1,b2⟩
   ·obtain rfl:k=2:=hk
    by_cases hn:n<0
    ·obtain⟨m,rfl⟩:∃ m:Nat,n=-(m:Int):=⟨n.natAbs,by omega⟩
     have d1:decide (-(m:Int)<0)=true:=by simpa using hn
     have d2:decide (0<(m:Int))=true:=by simp;omega
     have d3:decide (0<m)=true:=by simp;omega
     have hm9:m<=2147483647000000:=by omega
     have HI:=kf (fun W h=>itoa_any m (by omega) W h)
     obtain⟨t,ht⟩:∃ t,sb (txt m 1)=t:=⟨_,rfl⟩
     obtain⟨L,hLn⟩:∃ L,t.size=L:=⟨_,rfl⟩
     have hL20:L<=100:=by
      have h1:(dn m).length<=19:=dn_len (by omega)
      rw [<- hLn,<- ht,sb_size,txt_len]
      omega
     rw [ht] at HI
     have i1:¬9223372036854775807<1+L:=by omega
     have i2:1+L<=9223372036854775807:=by omega
     have i3:¬9223372036854775807<L:=by omega
     have i4:L<=9223372036854775807:=by omega
     have HE:Hid (ByteArray.mk #[45]++t=sb (intTxt (-(m:Int)))):=by
      show _=_
      rw [<- ht,show ByteArray.mk #[45]=sb [45] from rfl,sb_app,intTxt,signL,if_pos (by omega),show(-(m:Int)).natAbs=m from by omega]
     have HPP:=kf (HP.out _ rfl)
     rw [if_pos rfl] at HPP
     clear ht HP b1 b2 hn
     go_enter Tryz.func85,Tryz.ntmps85
     go_upto_region 1 with fail
     rw [<- hW,<- hg]
     clear hW hg
     have q0:=HB.out.cell 0
     have q1:=HB.out.cell 1
     have q2:=HB.out.cell 2
     have q3:=HB.out.cell 3
     simp at q0 q1 q2 q3
     go_upto_region 2 with(go_at_call 80;refine(HC.out _).mono ?_;rintro e w2 ⟨rfl,hc2⟩;have HB2:=kf (HB.out.chg hc2 (fun h=>h));have HC2:=kf (HA.out.trans hc2 (fun _ _ h=>h));clear hc2)
     clear q0 q1 q2 q3
     have q0:=HB2.out.cell 0
     have q1:=HB2.out.cell 1
     simp at q0 q1
     go_upto_region 4 with fail
     go_quiet (fail)
     have HL2:=kf ((HL.out.chg HC2.out).chg ((Chg.refl NoS _).drewN nq))
     have HC3:=kf (HC2.out.drewN nq)
     go_wp2_with (go_at_call 119;refine(HI.out _ HL2.out).mono ?_;rintro e w5 ⟨rfl,hc5⟩;have HC5:=kf (HC3.out.trans hc5 (fun _ _ h=>h));clear hc5)
     go_ret2
     refine PrTo.of HPP.out ?_ HC5.out
     rw [<- HE.out]
     first|done|rfl|exact sb_ne _
    ·obtain⟨m,rfl⟩:∃ m:Nat,n=(m:Int):=⟨n.natAbs,by omega⟩
     have d1:decide ((m:Int)<0)=false:=by simp
     clear hn
     have HI:=kf (fun W h=>itoa_any m (by omega) W h)
     obtain⟨t,ht⟩:∃ t,sb (txt m 1)=t:=⟨_,rfl⟩
     obtain⟨L,hLn⟩:∃ L,t.size=L:=⟨_,rfl⟩
     have hL20:L<=100:=by
      have h1:(dn m).length<=19:=dn_len (by omega)
      rw [<- hLn,<- ht,sb_size,txt_len]
      omega
     rw [ht] at HI
     have i1:¬9223372036854775807<1+L:=by omega
     have i2:1+L<=9223372036854775807:=by omega
     have i3:¬9223372036854775807<L:=by omega
     have i4:L<=9223372036854775807:=by omega
     have HE:Hid (t=sb (intTxt ((m:Int)))):=by
      show _=_
      rw [<- ht,intTxt,signL,if_neg (by omega),show(m:Int).natAbs=m from by omega]
      rfl
     have HPP:=kf (HP.out _ rfl)
     rw [if_pos rfl] at HPP
     clear ht HP b1 b2
     go_enter Tryz.func85,Tryz.ntmps85
     go_upto_region 1 with fail
     rw [<- hW,<- hg]
     clear hW hg
     have q0:=HB.out.cell 0
     have q1:=HB.out.cell 1
     have q2:=HB.out.cell 2
     have q3:=HB.out.cell 3
     simp at q0 q1 q2 q3
     go_upto_region 2 with(go_at_call 80;refine(HC.out _).mono ?_;rintro e w2 ⟨rfl,hc2⟩;have HB2:=kf (HB.out.chg hc2 (fun h=>h));have HC2:=kf (HA.out.trans hc2 (fun _ _ h=>h));clear hc2)
     clear q0 q1 q2 q3
     have q0:=HB2.out.cell 0
     have q1:=HB2.out.cell 1
     simp at q0 q1
     go_upto_region 4 with fail
     go_quiet (fail)
     have HL2:=kf ((HL.out.chg HC2.out).chg ((Chg.refl NoS _).drewN nq))
     have HC3:=kf (HC2.out.drewN nq)
     go_wp2_with (go_at_call 119;refine(HI.out _ HL2.out).mono ?_;rintro e w5 ⟨rfl,hc5⟩;have HC5:=kf (HC3.out.trans hc5 (fun _ _ h=>h));clear hc5)
     go_ret2
     refine PrTo.of HPP.out ?_ HC5.out
     rw [<- HE.out]
     first|done|rfl|exact sb_ne _
   ·obtain rfl:k=3:=hk
    by_cases hn:n<0
    ·obtain⟨m,rfl⟩:∃ m:Nat,n=-(m:Int):=⟨n.natAbs,by omega⟩
     have d1:decide (-(m:Int)<0)=true:=by simpa using hn
     have d2:decide (0<(m:Int))=true:=by simp;omega
     have d3:decide (0<m)=true:=by simp;omega
     have hm9:m<=2147483647000000:=by omega
     obtain⟨q,hq⟩:∃ q:Nat,m / 1000000=q:=⟨_,rfl⟩
     obtain⟨p,hp⟩:∃ p:Nat,m%1000000=p:=⟨_,rfl⟩
     have hp6:p<1000000:=by omega
     have hq9:q<=2147483647:=by omega
     have HI:=kf (fun W h=>itoa_any q (by omega) W h)
     have HD:=kf (fun W h=>padded_any p 6 (by omega) ⟨by omega,by omega⟩ W h)
     have HS:=kf (fun W=>short_any p hp6 W)
     obtain⟨t,ht⟩:∃ t,sb (txt q 1)=t:=⟨_,rfl⟩
     obtain⟨L,hLn⟩:∃ L,t.size=L:=⟨_,rfl⟩
     have hL20:L<=100:=by
      have h1:(dn q).length<=19:=dn_len (by omega)
      rw [<- hLn,<- ht,sb_size,txt_len]
      omega
     obtain⟨u,hu⟩:∃ u,sb (trimZ 5 (txt p 6))=u:=⟨_,rfl⟩
     obtain⟨M,hMn⟩:∃ M,u.size=M:=⟨_,rfl⟩
     have hM20:M<=100:=by
      have h1:=trimZ_le p hp6
      rw [<- hMn,<- hu,sb_size]
      omega
     obtain⟨v,hv⟩:∃ v,sb (txt p 6)=v:=⟨_,rfl⟩
     rw [ht] at HI
     rw [hu,hv] at HS
     rw [hv] at HD
     have i1:¬9223372036854775807<1+L:=by omega
     have i2:1+L<=9223372036854775807:=by omega
     have i3:¬9223372036854775807<L:=by omega
     have i4:L<=9223372036854775807:=by omega
     have i5:¬9223372036854775807<1+L+1:=by omega
     have i6:1+L+1<=9223372036854775807:=by omega
     have i7:¬9223372036854775807<L+1:=by omega
     have i8:L+1<=9223372036854775807:=by omega
     have i9:¬9223372036854775807<1+L+1+M:=by omega
     have i10:1+L+1+M<=9223372036854775807:=by omega
     have i11:¬9223372036854775807<L+1+M:=by omega
     have i12:L+1+M<=9223372036854775807:=by omega
     have t1:(m:Int).tdiv 1000000=(q:Int):=by rw [Int.tdiv_eq_ediv_of_nonneg (by omega)];omega
     have t2:(m:Int).tmod 1000000=(p:Int):=by rw [Int.tmod_eq_emod_of_nonneg (by omega)];omega
     have t3:(m:Int) / 1000000=(q:Int):=by omega
     have t4:(m:Int)%1000000=(p:Int):=by omega
     have HE:Hid (ByteArray.mk #[45]++t++ByteArray.mk #[46]++u=sb (realTxt (-(m:Int)))):=by
      show _=_
      rw [<- ht,<- hu,show ByteArray.mk #[45]=sb [45] from rfl,show ByteArray.mk #[46]=sb [46] from rfl,sb_app,sb_app,sb_app,realTxt,signL,if_pos (by omega),show(-(m:Int)).natAbs=m from by omega,hq,hp]
      simp
     have HPP:=kf (HP.out _ rfl)
     rw [if_neg (by decide)] at HPP
     clear ht hu hv hq hp HP b1 b2 hn
     go_enter Tryz.func85,Tryz.ntmps85
     go_upto_region 1 with fail
     rw [<- hW,<- hg]
     clear hW hg
     have q0:=HB.out.cell 0
     have q1:=HB.out.cell 1
     have q2:=HB.out.cell 2
     have q3:=HB.out.cell 3
     simp at q0 q1 q2 q3
     go_upto_region 2 with(go_at_call 80;refine(HC.out _).mono ?_;rintro e w2 ⟨rfl,hc2⟩;have HB2:=kf (HB.out.chg hc2 (fun h=>h));have HC2:=kf (HA.out.trans hc2 (fun _ _ h=>h));clear hc2)
     clear q0 q1 q2 q3
     have q0:=HB2.out.cell 0
     have q1:=HB2.out.cell 1
     simp at q0 q1
     go_upto_region 4 with fail
     go_quiet (fail)
     have HL2:=kf ((HL.out.chg HC2.out).chg ((Chg.refl NoS _).drewN nq))
     have HC3:=kf (HC2.out.drewN nq)
     go_wp2_with first|(go_at_call 119;refine(HI.out _ HL2.out).mono ?_;rintro e w5 ⟨rfl,hc5⟩;have HL5:=kf (HL2.out.chg hc5);have HC5:=kf (HC3.out.trans hc5 (fun _ _ h=>h));clear hc5)|(go_at_call 121;refine(HD.out _ HL5.out).mono ?_;rintro e w6 ⟨rfl,hc6⟩;have HC6:=kf (HC5.out.trans hc6 (fun _ _ h=>h));clear hc6)|(go_at_call 120;refine(HS.out _).mono ?_;rintro e w7 ⟨rfl,hc7⟩;have HC7:=kf (HC6.out.trans hc7 (fun _ _ h=>h));clear hc7)
     go_ret2
     refine PrTo.of HPP.out ?_ HC7.out
     rw [<- HE.out]
     first|done|rfl|(rw [sb_ne];rfl)|simp [sb_ne]
    ·obtain⟨m,rfl⟩:∃ m:Nat,n=(m:Int):=⟨n.natAbs,by omega⟩
     have d1:decide ((m:Int)<0)=false:=by simp
     clear hn
     obtain⟨q,hq⟩:∃ q:Nat,m / 1000000=q:=⟨_,rfl⟩
     obtain⟨p,hp⟩:∃ p:Nat,m%1000000=p:=⟨_,rfl⟩
     have hp6:p<1000000:=by omega
     have hq9:q<=2147483647:=by omega
     have HI:=kf (fun W h=>itoa_any q (by omega) W h)
     have HD:=kf (fun W h=>padded_any p 6 (by omega) ⟨by omega,by omega⟩ W h)
     have HS:=kf (fun W=>short_any p hp6 W)
     obtain⟨t,ht⟩:∃ t,sb (txt q 1)=t:=⟨_,rfl⟩
     obtain⟨L,hLn⟩:∃ L,t.size=L:=⟨_,rfl⟩
     have hL20:L<=100:=by
      have h1:(dn q).length<=19:=dn_len (by omega)
      rw [<- hLn,<- ht,sb_size,txt_len]
      omega
     obtain⟨u,hu⟩:∃ u,sb (trimZ 5 (txt p 6))=u:=⟨_,rfl⟩
     obtain⟨M,hMn⟩:∃ M,u.size=M:=⟨_,rfl⟩
     have hM20:M<=100:=by
      have h1:=trimZ_le p hp6
      rw [<- hMn,<- hu,sb_size]
      omega
     obtain⟨v,hv⟩:∃ v,sb (txt p 6)=v:=⟨_,rfl⟩
     rw [ht] at HI
     rw [hu,hv] at HS
     rw [hv] at HD
     have i1:¬9223372036854775807<1+L:=by omega
     have i2:1+L<=9223372036854775807:=by omega
     have i3:¬9223372036854775807<L:=by omega
     have i4:L<=9223372036854775807:=by omega
     have i5:¬9223372036854775807<1+L+1:=by omega
     have i6:1+L+1<=9223372036854775807:=by omega
     have i7:¬9223372036854775807<L+1:=by omega
     have i8:L+1<=9223372036854775807:=by omega
     have i9:¬9223372036854775807<1+L+1+M:=by omega
     have i10:1+L+1+M<=9223372036854775807:=by omega
     have i11:¬9223372036854775807<L+1+M:=by omega
     have i12:L+1+M<=9223372036854775807:=by omega
     have t1:(m:Int).tdiv 1000000=(q:Int):=by rw [Int.tdiv_eq_ediv_of_nonneg (by omega)];omega
     have t2:(m:Int).tmod 1000000=(p:Int):=by rw [Int.tmod_eq_emod_of_nonneg (by omega)];omega
     have t3:(m:Int) / 1000000=(q:Int):=by omega
     have t4:(m:Int)%1000000=(p:Int):=by omega
     have HE:Hid (t++ByteArray.mk #[46]++u=sb (realTxt ((m:Int)))):=by
      show _=_
      rw [<- ht,<- hu,show ByteArray.mk #[46]=sb [46] from rfl,sb_app,sb_app,realTxt,signL,if_neg (by omega),show(m:Int).natAbs=m from by omega,hq,hp]
      simp
     have HPP:=kf (HP.out _ rfl)
     rw [if_neg (by decide)] at HPP
     clear ht hu hv hq hp HP b1 b2
     go_enter Tryz.func85,Tryz.ntmps85
     go_upto_region 1 with fail
     rw [<- hW,<- hg]
     clear hW hg
     have q0:=HB.out.cell 0
     have q1:=HB.out.cell 1
     have q2:=HB.out.cell 2
     have q3:=HB.out.cell 3
     simp at q0 q1 q2 q3
     go_upto_region 2 with(go_at_call 80;refine(HC.out _).mono ?_;rintro e w2 ⟨rfl,hc2⟩;have HB2:=kf (HB.out.chg hc2 (fun h=>h));have HC2:=kf (HA.out.trans hc2 (fun _ _ h=>h));clear hc2)
     clear q0 q1 q2 q3
     have q0:=HB2.out.cell 0
     have q1:=HB2.out.cell 1
     simp at q0 q1
     go_upto_region 4 with fail
     go_quiet (fail)
     have HL2:=kf ((HL.out.chg HC2.out).chg ((Chg.refl NoS _).drewN nq))
     have HC3:=kf (HC2.out.drewN nq)
     go_wp2_with first|(go_at_call 119;refine(HI.out _ HL2.out).mono ?_;rintro e w5 ⟨rfl,hc5⟩;have HL5:=kf (HL2.out.chg hc5);have HC5:=kf (HC3.out.trans hc5 (fun _ _ h=>h));clear hc5)|(go_at_call 121;refine(HD.out _ HL5.out).mono ?_;rintro e w6 ⟨rfl,hc6⟩;have HC6:=kf (HC5.out.trans hc6 (fun _ _ h=>h));clear hc6)|(go_at_call 120;refine(HS.out _).mono ?_;rintro e w7 ⟨rfl,hc7⟩;have HC7:=kf (HC6.out.trans hc7 (fun _ _ h=>h));clear hc7)
     go_ret2
     refine PrTo.of HPP.out ?_ HC7.out
     rw [<- HE.out]
     first|done|rfl|(rw [sb_ne];rfl)|simp [sb_ne]
  ·cases hm
 ·have h2:chkOf k n s.size len=2:=by
   unfold chkOf at hc ⊢
   split
   ·rename_i h;rw [if_pos h] at hc;exact absurd rfl hc
   ·rfl
  have HPP:Hid (prOf k n s.size len=([],2)):=if_neg hc
  have HC:Hid (∀ W,Calls Tryz.prog 80 #[.agg #[.int .i64 k,.int .i64 n,.string s,.slice A len cap]] W fun e w'=>e=.returned (.int .i64 2)/\Chg NoS W w'):=fun W=>by
   have h:=HCH.out W
   rw [h2] at h
   exact h
  clear hc h2 HCH hL HL
  go_enter Tryz.func85,Tryz.ntmps85
  go_upto_region 1 with fail
  rw [<- hW,<- hg]
  clear hW hg
  have q0:=HB.out.cell 0
  have q1:=HB.out.cell 1
  have q2:=HB.out.cell 2
  have q3:=HB.out.cell 3
  simp at q0 q1 q2 q3
  go_wp2_with (go_at_call 80;refine(HC.out _).mono ?_;rintro e w2 ⟨rfl,hc2⟩;have HC2:=kf (HA.out.trans hc2 (fun _ _ h=>h));clear hc2)
  go_ret2
  exact PrTo.of HPP.out rfl HC2.out
def cutB (c:Nat):List Nat->List Nat × List Nat × Bool
 |[]=>([],[],false)
 |x::l=>if x=c then([],l,true) else(x::(cutB c l).1,(cutB c l).2.1,(cutB c l).2.2)
theorem cutB_at (c:UInt8):∀ (l:List UInt8),(Lib.indexByte l c=-1/\cutB c.toNat (l.map UInt8.toNat)=(l.map UInt8.toNat,[],false)) \/
  ∃ i:Nat,Lib.indexByte l c=i/\i<l.length/\cutB c.toNat (l.map UInt8.toNat)=((l.map UInt8.toNat).take i,(l.map UInt8.toNat).drop (i+1),true):=by
 intro l
 induction l with
 |nil=>exact .inl ⟨rfl,rfl⟩
 |cons x l ih =>
  rw [List.map_cons,cutB,Lib.indexByte]
  by_cases h:x=c
  ·subst h
   exact .inr ⟨0,by simp,by simp,by simp⟩
  ·have h2:¬x.toNat=c.toNat:=fun h2=>h (UInt8.toNat_inj.1 h2)
   have h3:(x==c)=false:=by simpa using h
   rw [if_neg h2]
   rcases ih with⟨h4,h5⟩|⟨i,h4,h5,h6⟩
   ·refine .inl ⟨?_,by rw [h5]⟩
    simp [h3,h4]
   ·refine .inr ⟨i+1,?_,by simpa using h5,by rw [h6];simp⟩
    simp [h3,h4]
theorem cutB_take {l:List Nat} (n:Nat):(sb l).extract 0 n=sb (l.take n):=by
 unfold sb
 apply ByteArray.ext
 rw [ByteArray.data_extract]
 simp [List.map_take]
theorem cutB_drop {l:List Nat} (n m:Nat) (h:l.length=m):(sb l).extract n m=sb (l.drop n):=by
 unfold sb
 apply ByteArray.ext
 rw [ByteArray.data_extract]
 simp only [List.extract_toArray,List.extract_eq_take_drop,List.map_drop]
 congr 1
 exact List.take_of_length_le (by rw [List.length_drop,List.length_map];omega)
set_option maxHeartbeats 1000000 in
theorem cutI_any (c:UInt8) (m:List Nat) (hb:∀ d∈m,d<256) (hl:m.length<=1000000) (w:World) :
  Calls Tryz.prog 141 #[.string (sb m),.string ⟨#[c]⟩] w fun e w'=>e=.returned (.tuple #[.string (sb (cutB c.toNat m).1),.string (sb (cutB c.toNat m).2.1),.bool (cutB c.toNat m).2.2])/\Chg NoS w w':=by
 have hm:(sb m).data.toList.map UInt8.toNat=m:=sl_sb m hb
 have HC:=kf (cutB_at c (sb m).data.toList)
 have HI:=kf (fun W=>Go.Proofs.Tryz.stringslite_Index_one (sb m) c W)
 rw [hm] at HC
 obtain⟨z,hz⟩:∃ z,Lib.indexByte (sb m).data.toList c=z:=⟨_,rfl⟩
 rw [hz] at HC HI
 have hlen:(sb m).data.toList.length=m.length:=by rw [<- List.length_map (f:=UInt8.toNat),hm]
 rw [hlen] at HC
 obtain⟨n,hn⟩:∃ n,m.length=n:=⟨_,rfl⟩
 have hs:(sb m).size=n:=by rw [sb_size,hn]
 obtain⟨t,ht⟩:∃ t,sb m=t:=⟨_,rfl⟩
 rcases HC.out with⟨rfl,h2⟩|⟨i,rfl,hi,h2⟩
 ·have HE:=kf h2
  rw [ht] at HI ⊢
  have HT:=kf ht
  clear HC h2 hm hz hlen ht
  go_enter Tryz.func141,Tryz.ntmps141
  go_wp2_with (go_at_call 137;refine(HI.out _).mono ?_;rintro e w2 ⟨rfl,rfl⟩)
  go_ret3
  rw [HE.out]
  exact⟨by rw [show(m,([]:List Nat),false).1=m from rfl,HT.out];rfl,Chg.refl _ _⟩
 ·have HE:=kf h2
  have e1:=cutB_take (l:=m) i
  have e2:=cutB_drop (l:=m) (i+1) n hn
  obtain⟨a,ha⟩:∃ a,sb (m.take i)=a:=⟨_,rfl⟩
  obtain⟨b,hb2⟩:∃ b,sb (m.drop (i+1))=b:=⟨_,rfl⟩
  rw [ht] at HI hs e1 e2 ⊢
  rw [ha] at e1
  rw [hb2] at e2
  rw [hn] at hi hl
  have i1:(i:Int)<=n:=by omega
  have i2:(i:Int)+1<=n:=by omega
  have i3:(0:Int)<=(i:Int)+1:=by omega
  have i4:i<=n:=by omega
  have i5:i+1<=n:=by omega
  have i6:((i:Int)+1).toNat=i+1:=by omega
  have d1:decide ((0:Int)<=i)=true:=by simp
  have k1:IntKind.i64.wrap ((i:Int)+1)=(i:Int)+1:=by rw [IntKind.wrap_i64];omega
  have HA:=kf ha
  have HB:=kf hb2
  clear HC h2 hm hz hlen ht hi ha hb2 hn hb
  go_enter Tryz.func141,Tryz.ntmps141
  go_upto_region 3 with(go_at_call 137;refine(HI.out _).mono ?_;rintro e w2 ⟨rfl,rfl⟩)
  go_quiet (fail)
  go_wp2_with fail
  go_ret3
  rw [HE.out]
  exact⟨by rw [show(m.take i,m.drop (i+1),true).1=m.take i from rfl,show(m.take i,m.drop (i+1),true).2.1=m.drop (i+1) from rfl,HA.out,HB.out];rfl,(Chg.refl _ _).drewN nq⟩
theorem cutF_any (c:UInt8) (m:List Nat) (hb:∀ d∈m,d<256) (hl:m.length<=1000000) (w:World) :
  Calls Tryz.prog 129 #[.string (sb m),.string ⟨#[c]⟩] w fun e w'=>e=.returned (.tuple #[.string (sb (cutB c.toNat m).1),.string (sb (cutB c.toNat m).2.1),.bool (cutB c.toNat m).2.2])/\Chg NoS w w':=by
 have H:=kf (fun W=>cutI_any c m hb hl W)
 obtain⟨t,ht⟩:∃ t,sb m=t:=⟨_,rfl⟩
 obtain⟨a,ha⟩:∃ a,sb (cutB c.toNat m).1=a:=⟨_,rfl⟩
 obtain⟨b,hb2⟩:∃ b,sb (cutB c.toNat m).2.1=b:=⟨_,rfl⟩
 obtain⟨f,hf⟩:∃ f,(cutB c.toNat m).2.2=f:=⟨_,rfl⟩
 rw [ht,ha,hb2,hf] at H
 rw [ht,ha,hb2,hf]
 clear ht ha hb2 hf hb hl
 go_enter Tryz.func129,Tryz.ntmps129
 go_wp2_with (go_at_call 141;refine(H.out _).mono ?_;rintro e w2 ⟨rfl,hc2⟩;have HC2:=kf hc2;clear hc2)
 go_ret3
 exact⟨rfl,HC2.out⟩
open Go.RowKit Go.Lib
theorem tab_of_reads {P:Program} {W:World} {name:String} {k:IntKind} {zs:List Int} {g:Nat} {t e:TypeId} {n:Nat}
  (hg:P.globalNamed name=some g) (hty:(P.globals[g]?).map (·.type)=some t) (ht:P.underlying t=some (.array n e)) (he:P.underlying e=some (.int k)) (hce:P.cellsOf e=1) (hct:P.cellsOf t=n)
  (h:∃ g' t' cs fuel p,P.globalNamed name=some g'/\(P.globals[g']?).map (·.type)=some t'/\W.var? P name=some cs/\DataW.trod (fun _=>()) P W 0 (fun _=>true) false fuel t' cs.toList=some (tabData k zs,p)):TabIs P W name k zs:=by
 obtain⟨g',t',cs,fuel,p,hg',ht',hvar,hd⟩:=h
 obtain rfl:=Option.some.inj (hg.symm.trans hg')
 obtain rfl:=Option.some.inj (hty.symm.trans ht')
 unfold TabIs
 rw [hvar,<- cells_of_tab ht he hce hct hd]
theorem lib_ok {W:World} (hL:laidMetH Tryz.prog Rows.showValuesRow.laid W) (hsh:W.ShapedOpen Tryz.prog):LibOk W:=by
 rw [MakeChecks.laidMetH_plain _ _ _ (by kernel_rfl)] at hL
 obtain⟨ps,hv,_⟩:=hL
 obtain⟨_,_,_,_,_,_,_,_,_,_,hv,_⟩:=hv
 obtain⟨_,_,_,_,_,_,_,_,_,_,hv,_⟩:=hv
 obtain⟨g,t,cs,fuel,p,q,h1,h2,h3,h4,_⟩:=hv
 have hr:∃ g' t' cs fuel p,Tryz.prog.globalNamed "internal/strconv.uint64pow10" = some g'/\(Tryz.prog.globals[g']?).map (·.type)=some t'/\W.var? Tryz.prog "internal/strconv.uint64pow10" = some cs/\DataW.trod (fun _=>()) Tryz.prog W 0 (fun _=>true) false fuel t' cs.toList=some (tabData .u64 pow10Tab,p):=⟨g,t,cs,fuel,p,h1,h2,h3,h4⟩
 exact⟨tab_of_reads (g:=1) (t:=184) (e:=174) (n:=20) (by kernel_rfl) (by kernel_rfl) Tryz.underlying184 Tryz.underlying174 (by kernel_rfl) (by kernel_rfl) hr,Go.Proofs.Tryz.laysM145.s1_3 W hsh⟩
end Go.Proofs.YtcehpobjnbgpdaaGreatDoor
