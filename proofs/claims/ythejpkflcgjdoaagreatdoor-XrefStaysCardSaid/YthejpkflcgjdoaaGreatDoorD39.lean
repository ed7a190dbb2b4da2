/- Merged by program. -/
import Derived.Test.YthejpkflcgjdoaaGreatDoorD38
import Derived.Test.YthejpkflcgjdoaaGreatDoorTie
import Derived.Test.YthejpkflcgjdoaaGreatDoorCards
import Derived.Deep.DeepHandedRow
import Derived.JoinedCond
import Derived.Stop.Joined
import Derived.Lay
import Derived.SevenTiedAt
import Derived.ChangeOld
set_option linter.unusedVariables false
set_option linter.unusedSimpArgs false
namespace Go.Proofs.YthejpkflcgjdoaaGreatDoor.lxsta
open Go.RowKit Go.ChangeShapes Go.WideShapes Go.ChangeAt
theorem own:ownKnob Tryz.prog.godebug=none:=by kernel_rfl
theorem laidOut:laidOutB Tryz.prog=true:=by kernel_rfl
theorem walk (A:Option Addr) (len cap:Nat) (bs:List Nat) (n:Int) (last:Bool) (w:World) (hl:bs.length=len) (hm:len<=maxLen) (hS:Src w 1 A len cap (bs.flatMap encL)) (hg:∀ b∈bs,b<256) (hc:len<=cap) (wn:(Lit.int .u16 n).wf=true) (hLib:LibOk w) :
  Calls Tryz.prog 6 #[.slice A len cap,.int .u16 n,.bool last] w fun e w'=>e=.returned (.bool true)/\Below w.heap.size w w':=by
 rw [flat_bytesL] at hS
 subst hl
 have hn:0<=n/\n<=65535:=by
  simp only [Lit.wf,Bool.and_eq_true,decide_eq_true_eq] at wn
  exact⟨Int.le_trans (by decide) wn.1,Int.le_trans wn.2 (by decide)⟩
 obtain⟨N,rfl⟩:∃ N:Nat,n=N:=⟨n.toNat,by omega⟩
 exact(staysW15 bs A cap N last w hS hm hg hc (by omega) hLib).mono fun e w' h=>⟨h.1,h.2.no_below⟩
set_option maxRecDepth 100000 in
theorem lifted (os:Os) (started:os.Started) (H:Type) (enc:TypeId × Value->H) (Fi:Stop.Interp) :
  ReturnsInHanded {} Tryz.checked os 6 .any ((OpenSpec.ofChange Rows.xrefStaysSpec).preRow enc Tryz.prog Tryz.f6 Rows.xrefStaysRow.domain false Rows.xrefStaysRow.laid) (((OpenSpec.ofChange Rows.xrefStaysSpec).at Fi).post enc Tryz.prog Tryz.f6 false true false false):=by
 refine returnsInHanded_of_row (C:=Tryz.checked) (s:=OpenSpec.ofChange Rows.xrefStaysSpec) own started (by kernel_rfl) Tryz.func6
  (ChangeSpec.witness_shaped (enc:=enc) (C:=Tryz.checked) (os:=os) (s:=Rows.xrefStaysSpec) (X:=fun w _=>laidMetH Tryz.prog Rows.xrefStaysRow.laid w) false (World.laidAll Tryz.prog os Rows.xrefStaysRow.laid) #[.slice none 0 0,.int .u16 0,.bool false] 8 (World.laidAll_os _ _ _)
   (World.shaped_of_ZipB (by kernel_rfl) (by kernel_rfl)) (by kernel_rfl) (by kernel_rfl) (by kernel_rfl)
   (by rw [MakeChecks.laidMetH_plain _ _ _ (by kernel_rfl)];exact laidMet_laidAll _ (by kernel_rfl) (by kernel_rfl))) ?_
 intro W base args ds gs before hval0 hW hcnd _ _ hL hsh _
 have hLib:=lib_ok hL hsh
 have hval:∀ (j:Nat) t v,Tryz.f6.params[j]?=some t->args[j]?=some v->Value.okWide Tryz.prog W .any base t v:=hval0
 have hW':=hW
 obtain⟨p,q,hA0,hV,rfl,hfz,hnd⟩:=hW
 have hA:DataW.TrodAll enc Tryz.prog W 0 (fun _=>true) true Tryz.f6.params.toList args.toList ds p:=hA0
 rw [Tryz.params6] at hA hval
 obtain⟨v0,vs0,d0,ds0,p0,q0,hargs,rfl,rfl,h0,r0⟩:=trodAll_cons hA
 obtain⟨v1,vs1,d1,ds1,p1,q1,rfl,rfl,rfl,h1,r1⟩:=trodAll_cons r0
 obtain⟨v2,vs2,d2,ds2,p2,q2,rfl,rfl,rfl,h2,r2⟩:=trodAll_cons r1
 obtain⟨rfl,rfl,rfl⟩:=trodAll_nil r2
 obtain rfl:args=#[v0,v1,v2]:=by cases args;simp_all
 obtain⟨rfl,rfl⟩:=trodVars_none hV
 obtain⟨a0,len0,cap0,rfl⟩:=okWide_slice Tryz.underlying32 (hval 0 32 v0 rfl rfl)
 have k0:=h0
 have lt0:∀ x∈p0,x.block<W.heap.size:=by obtain⟨m,hm⟩:=k0;exact DataW.trod_lt m _ _ _ hm
 obtain⟨hm0,xs0,hl0,hS0,hg0⟩:len0<=maxLen/\∃ xs:List Nat,xs.length=len0/\Src W 1 a0 len0 cap0 (xs.flatMap encL)/\∀ b∈xs,(fun p:Nat=>p<256) b:=by
  obtain⟨fuel,hf⟩:=h0
  exact open_rows encL (fun p:Nat=>p<256) 1 Tryz.underlying32 (by kernel_rfl) (fun _=>rfl) (fun n cs y h _=>byte_elL h) (by simpa [Value.cells] using hf)
 have hc0:len0<=cap0:=by
  obtain⟨fuel,hf⟩:=h0
  exact open_capL Tryz.underlying32 (by simpa [Value.cells] using hf)
 obtain⟨a1,rfl,rfl,rfl,w1⟩:=open_int Tryz.underlying61 (hval 1 61 v1 rfl rfl) h1
 obtain⟨a2,rfl,rfl,rfl⟩:=open_bool Tryz.underlying4 (hval 2 4 v2 rfl rfl) h2
 clear hA0 hval0
 refine(walk a0 len0 cap0 xs0 a1 a2 W hl0 hm0 hS0 hg0 hc0 w1 hLib).mono fun e W' ⟨he,bel⟩=>?_
 subst he
 exact⟨_,rfl,_,_,_,[],_,[],hW',trodAll_mk1 (shut_bool Tryz.underlying4 _),(trodAll_cons_mk (Below.trod laidOut (by kernel_rfl) (of_decide_eq_true (by kernel_rfl)) k0 bel lt0) (trodAll_cons_mk (shut_int Tryz.underlying61 w1) (trodAll_cons_mk (shut_bool Tryz.underlying4 _) trodAll_mk0))),rfl,bel.frame _,fun h=>by cases h⟩
end Go.Proofs.YthejpkflcgjdoaaGreatDoor.lxsta
