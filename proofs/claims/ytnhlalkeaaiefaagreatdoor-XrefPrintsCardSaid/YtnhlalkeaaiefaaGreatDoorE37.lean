import Derived.Test.YtnhlalkeaaiefaaGreatDoorE36
import Derived.Test.YtnhlalkeaaiefaaGreatDoorTie
import Derived.Test.YtnhlalkeaaiefaaGreatDoorCards
import Derived.Deep.DeepHandedRow
import Derived.Lay
set_option linter.unusedVariables false
set_option maxHeartbeats 64000000
set_option maxRecDepth 100000
set_option linter.unusedSimpArgs false
namespace Go.Proofs.YtnhlalkeaaiefaaGreatDoor.lxpri
open Go.RowKit Go.ChangeShapes Go.WideShapes Go.ChangeAt
theorem own:ownKnob Tryz.prog.godebug=none:=by kernel_rfl
theorem laidOut:laidOutB Tryz.prog=true:=by kernel_rfl
theorem walk (xs:List GC) (B:Option Addr) (d:Nat) (c:VC) (t:VT) (ys:List GC) (B':Option Addr) (d':Nat) (c':VC) (u:VT) (ep eg:Int) (eu:Bool) (w:World) (hG:Ev NoS w (z4v xs B d)) (hm:xs.length<=maxLen) (hgg:∀ x∈xs,y21 w x) (hv:ValIs w t c) (hst:z3u 140737488351232 t)
  (hG':Ev NoS w (z4v ys B' d')) (hm':ys.length<=maxLen) (hgg':∀ x∈ys,y21 w x) (hv':ValIs w u c') (hst':z3u 140737488351232 u) (wp:(Lit.int .i64 ep).wf=true) (wg:(Lit.int .i64 eg).wf=true) (hLib:LibOk w) :
  Calls Tryz.prog 3 #[.agg (v6y B xs.length d c),.agg (v6y B' ys.length d' c'),.agg #[.int .i64 ep,.int .i64 eg,.bool eu]] w fun e w'=>e=.returned (.bool true)/\Below w.heap.size w w':=by
 obtain⟨k,m,s,A,l,cc⟩:=c;obtain⟨k',m',s',A',l',cc'⟩:=c';unfold maxLen at hm hm';exact(y6u xs ys B d B' d' t u k m s A l cc k' m' s' A' l' cc' ep eg eu w hG hG' hm hm' hgg hgg' hv hv' hst hst' (bounds_i64 wp) (bounds_i64 wg) hLib).mono fun e w' h=>⟨h.1,h.2.no_below⟩
theorem lifted (os:Os) (started:os.Started) (H:Type) (enc:TypeId × Value->H) (Fi:Stop.Interp) :
  ReturnsInHanded {} Tryz.checked os 3 .any ((OpenSpec.ofChange Rows.xrefPrintsSpec).preRow enc Tryz.prog Tryz.f3 Rows.xrefPrintsRow.domain false Rows.xrefPrintsRow.laid) (((OpenSpec.ofChange Rows.xrefPrintsSpec).at Fi).post enc Tryz.prog Tryz.f3 false true false false):=by
 refine returnsInHanded_of_row (C:=Tryz.checked) (s:=OpenSpec.ofChange Rows.xrefPrintsSpec) own started (by kernel_rfl) Tryz.func3
  (ChangeSpec.witness_shaped (enc:=enc) (C:=Tryz.checked) (os:=os) (s:=Rows.xrefPrintsSpec) (X:=fun w _=>laidMetH Tryz.prog Rows.xrefPrintsRow.laid w) false (World.laidAll Tryz.prog os Rows.xrefPrintsRow.laid) #[.agg #[.slice none 0 0,.int .i64 0,.int .i64 0,.string ⟨#[]⟩,.slice none 0 0],.agg #[.slice none 0 0,.int .i64 0,.int .i64 0,.string ⟨#[]⟩,.slice none 0 0],.agg #[.int .i64 0,.int .i64 0,.bool false]] 8 (World.laidAll_os _ _ _)
   (World.shaped_of_ZipB (by kernel_rfl) (by kernel_rfl)) (by kernel_rfl) (by kernel_rfl) (by kernel_rfl)
   (by rw [MakeChecks.laidMetH_plain _ _ _ (by kernel_rfl)];exact laidMet_laidAll _ (by kernel_rfl) (by kernel_rfl))) ?_
 intro W base args ds gs before hval0 hW hcnd _ hwt hL hsh _;have hLib:=v4r hL hsh;have hval:∀ (j:Nat) t v,Tryz.f3.params[j]?=some t->args[j]?=some v->Value.okWide Tryz.prog W .any base t v:=hval0;have hW':=hW;obtain⟨p,q,hA0,hV,rfl,hfz,hnd⟩:=hW;have hA:DataW.TrodAll enc Tryz.prog W 0 (fun _=>true) true Tryz.f3.params.toList args.toList ds p:=hA0;rw [Tryz.params3] at hA hval;obtain⟨v0,vs0,d0,ds0,p0,q0,hargs,rfl,rfl,h0,r0⟩:=trodAll_cons hA;obtain⟨v1,vs1,d1,ds1,p1,q1,rfl,rfl,rfl,h1,r1⟩:=trodAll_cons r0;obtain⟨v2,vs2,d2,ds2,p2,q2,rfl,rfl,rfl,h2,r2⟩:=trodAll_cons r1;obtain⟨rfl,rfl,rfl⟩:=trodAll_nil r2;obtain rfl:args=#[v0,v1,v2]:=by cases args;simp_all
 obtain⟨rfl,rfl⟩:=trodVars_none hV
 have hw0:∀ n∈d0.weights Tryz.prog 27,n<=140737488351232:=fun n hn=>by
  have h5:=List.all_eq_true.1 hwt n (DataW.weights_mem_each (j:=0) (t:=27) (d:=d0) (by kernel_rfl) rfl n hn);exact of_decide_eq_true h5
 have hw1:∀ n∈d1.weights Tryz.prog 27,n<=140737488351232:=fun n hn=>by
  have h5:=List.all_eq_true.1 hwt n (DataW.weights_mem_each (j:=1) (t:=27) (d:=d1) (by kernel_rfl) rfl n hn);exact of_decide_eq_true h5
 have k0:=h0;have lt0:∀ x∈p0,x.block<W.heap.size:=by obtain⟨m,hm⟩:=k0;exact DataW.trod_lt m _ _ _ hm
 have k1:=h1;have lt1:∀ x∈p1,x.block<W.heap.size:=by obtain⟨m,hm⟩:=k1;exact DataW.trod_lt m _ _ _ hm
 have k2:=h2;have lt2:∀ x∈p2,x.block<W.heap.size:=by obtain⟨m,hm⟩:=k2;exact DataW.trod_lt m _ _ _ hm
 obtain⟨xs,B,dd,c,t,rfl,hm,hG,hgg,hvt,hst⟩:=y32 (hval 0 27 v0 rfl rfl) h0 hw0;obtain⟨ys,B',dd',c',u,rfl,hm',hG',hgg',hvt',hst'⟩:=y32 (hval 1 27 v1 rfl rfl) h1 hw1;obtain⟨e0,e1,e2,y0,y1,y2,m3,rfl,_,_,g0,g1,g2⟩:=Go.Joins.open_agg3 Tryz.underlying29 (by kernel_rfl) (by kernel_rfl) (hval 2 29 v2 rfl rfl) h2;obtain⟨z0,f0,w0⟩:=z6y Tryz.underlying3 g0;obtain⟨z1,f1,w1⟩:=z6y Tryz.underlying3 g1;obtain⟨z2,f2⟩:=y8y Tryz.underlying4 g2;simp only [List.cons.injEq,and_true] at f0 f1 f2;subst f0 f1 f2;clear hA0 hval0;refine(walk xs B dd c t ys B' dd' c' u z0 z1 z2 W hG hm hgg hvt hst hG' hm' hgg' hvt' hst' w0 w1 hLib).mono fun e W' ⟨he,bel⟩=>?_;subst he;exact⟨_,rfl,_,_,_,[],_,[],hW',trodAll_mk1 (shut_bool Tryz.underlying4 _),(trodAll_cons_mk (Below.trod laidOut (by kernel_rfl) (of_decide_eq_true (by kernel_rfl)) k0 bel lt0) (trodAll_cons_mk (Below.trod laidOut (by kernel_rfl) (of_decide_eq_true (by kernel_rfl)) k1 bel lt1) (trodAll_cons_mk (Below.trod laidOut (by kernel_rfl) (of_decide_eq_true (by kernel_rfl)) k2 bel lt2) trodAll_mk0))),rfl,bel.frame _,fun h=>by cases h⟩
end Go.Proofs.YtnhlalkeaaiefaaGreatDoor.lxpri
