/- Merged by program. -/
import Derived.Test.YthejpkflcgjdoaaGreatDoorE38
import Derived.Test.YthejpkflcgjdoaaGreatDoorTie
import Derived.Test.YthejpkflcgjdoaaGreatDoorCards
import Derived.Deep.DeepHandedRow
import Derived.JoinedCond
import Derived.Stop.Joined
import Derived.Lay
import Derived.SevenTiedAt
import Derived.ChangeOld
set_option linter.unusedVariables false
set_option linter.unusedSimpArgs false
namespace Go.Proofs.YthejpkflcgjdoaaGreatDoor.lxfin
open Go.RowKit Go.ChangeShapes Go.WideShapes Go.ChangeAt
theorem own:ownKnob Tryz.prog.godebug=none:=by kernel_rfl
theorem laidOut:laidOutB Tryz.prog=true:=by kernel_rfl
theorem walk (xs:List GC) (B:Option Addr) (d:Nat) (c:VC) (t:VT) (n:Int) (w:World) (hG:Ev NoS w (GsIs xs B d)) (hm:xs.length<=maxLen) (hgg:∀ x∈xs,GoodG w x) (hv:ValIs w t c) (hst:strsT 140737488351232 t) (wn:(Lit.int .i64 n).wf=true) (hLib:LibOk w) :
  Calls Tryz.prog 5 #[.agg (secA B xs.length d c),.int .i64 n] w fun e w'=>e=.returned (.bool true)/\Below w.heap.size w w':=by
 have hn:=bounds_i64 wn
 obtain⟨k,m,s,A,l,cc⟩:=c
 exact(findsW15 xs B d t k m s A l cc n w hG (by unfold maxLen at hm;exact hm) hgg hv hst hn hLib).mono fun e w' h=>⟨h.1,h.2.no_below⟩
set_option maxRecDepth 100000 in
theorem lifted (os:Os) (started:os.Started) (H:Type) (enc:TypeId × Value->H) (Fi:Stop.Interp) :
  ReturnsInHanded {} Tryz.checked os 5 .any ((OpenSpec.ofChange Rows.xrefFindsSpec).preRow enc Tryz.prog Tryz.f5 Rows.xrefFindsRow.domain false Rows.xrefFindsRow.laid) (((OpenSpec.ofChange Rows.xrefFindsSpec).at Fi).post enc Tryz.prog Tryz.f5 false true false false):=by
 refine returnsInHanded_of_row (C:=Tryz.checked) (s:=OpenSpec.ofChange Rows.xrefFindsSpec) own started (by kernel_rfl) Tryz.func5
  (ChangeSpec.witness_shaped (enc:=enc) (C:=Tryz.checked) (os:=os) (s:=Rows.xrefFindsSpec) (X:=fun w _=>laidMetH Tryz.prog Rows.xrefFindsRow.laid w) false (World.laidAll Tryz.prog os Rows.xrefFindsRow.laid) #[.agg #[.slice none 0 0,.int .i64 0,.int .i64 0,.string ⟨#[]⟩,.slice none 0 0],.int .i64 0] 8 (World.laidAll_os _ _ _)
   (World.shaped_of_ZipB (by kernel_rfl) (by kernel_rfl)) (by kernel_rfl) (by kernel_rfl) (by kernel_rfl)
   (by rw [MakeChecks.laidMetH_plain _ _ _ (by kernel_rfl)];exact laidMet_laidAll _ (by kernel_rfl) (by kernel_rfl))) ?_
 intro W base args ds gs before hval0 hW hcnd _ hwt hL hsh _
 have hLib:=lib_ok (show laidMetH Tryz.prog Rows.xrefStaysRow.laid W from hL) hsh
 have hval:∀ (j:Nat) t v,Tryz.f5.params[j]?=some t->args[j]?=some v->Value.okWide Tryz.prog W .any base t v:=hval0
 have hW':=hW
 obtain⟨p,q,hA0,hV,rfl,hfz,hnd⟩:=hW
 have hA:DataW.TrodAll enc Tryz.prog W 0 (fun _=>true) true Tryz.f5.params.toList args.toList ds p:=hA0
 rw [Tryz.params5] at hA hval
 obtain⟨v0,vs0,d0,ds0,p0,q0,hargs,rfl,rfl,h0,r0⟩:=trodAll_cons hA
 obtain⟨v1,vs1,d1,ds1,p1,q1,rfl,rfl,rfl,h1,r1⟩:=trodAll_cons r0
 obtain⟨rfl,rfl,rfl⟩:=trodAll_nil r1
 obtain rfl:args=#[v0,v1]:=by cases args;simp_all
 obtain⟨rfl,rfl⟩:=trodVars_none hV
 have hw0:∀ n∈d0.weights Tryz.prog 27,n<=140737488351232:=fun n hn=>by
  have h5:=List.all_eq_true.1 hwt n (DataW.weights_mem_each (j:=0) (t:=27) (d:=d0) (by kernel_rfl) rfl n hn)
  exact of_decide_eq_true h5
 have k0:=h0
 have lt0:∀ x∈p0,x.block<W.heap.size:=by obtain⟨m,hm⟩:=k0;exact DataW.trod_lt m _ _ _ hm
 obtain⟨xs,B,dd,c,t,rfl,hm,hG,hgg,hvt,hst⟩:=open_sec (hval 0 27 v0 rfl rfl) h0 hw0
 obtain⟨a1,rfl,rfl,rfl,w1⟩:=open_int Tryz.underlying3 (hval 1 3 v1 rfl rfl) h1
 clear hA0 hval0
 refine(walk xs B dd c t a1 W hG hm hgg hvt hst w1 hLib).mono fun e W' ⟨he,bel⟩=>?_
 subst he
 exact⟨_,rfl,_,_,_,[],_,[],hW',trodAll_mk1 (shut_bool Tryz.underlying4 _),(trodAll_cons_mk (Below.trod laidOut (by kernel_rfl) (of_decide_eq_true (by kernel_rfl)) k0 bel lt0) (trodAll_cons_mk (shut_int Tryz.underlying3 w1) trodAll_mk0)),rfl,bel.frame _,fun h=>by cases h⟩
end Go.Proofs.YthejpkflcgjdoaaGreatDoor.lxfin
