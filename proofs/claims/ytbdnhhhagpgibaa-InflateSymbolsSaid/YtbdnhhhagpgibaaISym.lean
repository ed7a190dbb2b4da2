/- 'InflateSymbols': for every input the statement's function returns true: any symbol's length, and distance, is as the document says; so are the fixed lengths, and the order. Conditions: none. -/
import Derived.Test.YtbdnhhhagpgibaaSymF
import Derived.Test.YtbdnhhhagpgibaaRows
import Derived.OpenShut
import Derived.ChangeOld
import Derived.Lib.SmallJoins
import Derived.BigQuiet
namespace Go.Proofs.Ytbdnhhhagpgibaa.isym
open Go.RowKit Go.ChangeShapes Go.WideShapes Go.ChangeAt
set_option linter.unusedVariables false

theorem own : ownKnob Try.prog.godebug = none := by kernel_rfl
theorem laidOut : laidOutB Try.prog = true := by kernel_rfl

/-- The order, as numbers. -/
def orderI : List Int := order.map fun n : Nat => (n : Int)
theorem src_order (w w' : World) (hc : Chg NoS (w.alloc (.cells orderCells 3)) w') : Src w' 1 (some ⟨w.heap.size, 0, none⟩) 19 19 (icells orderI) := by
  refine Src.below (w0 := w) ?_ hc
  refine ⟨rfl, fun h => (by cases h), fun ad had j u hu => ?_⟩
  cases had
  rw [Addr.add_mid, Nat.zero_add, (Blk.new w 3 _).cell]
  simpa [orderCells, icells, orderI] using hu

/-- Two slices read alike. -/
structure SameAt (W : World) (A : Option Addr) (n c : Nat) (B : Option Addr) (d : Nat) : Prop where
  h : ∃ l : List Int, l.length = n ∧ n ≤ 1000 ∧ Src W 1 A n c (icells l) ∧ Src W 1 B n d (icells l)
theorem SameAt.news {W W' : World} {A B : Option Addr} {n c d : Nat} (h : SameAt W A n c B d) (hc : Chg NoS W W') : SameAt W' A n c B d := by
  obtain ⟨l, h1, h2, h3, h4⟩ := h.h
  exact ⟨l, h1, h2, h3.below (w0 := W) hc, h4.below (w0 := W) hc⟩
theorem same_at {W : World} {A B : Option Addr} {n c d : Nat} (h : SameAt W A n c B d) :
    Calls Try.prog 16 #[.slice A n c, .slice B n d] W fun e w' => e = .returned (.bool true) ∧ Chg NoS W w' := by
  obtain ⟨l, h1, h2, h3, h4⟩ := h.h
  exact same_eq l n A B c d W h1 h2 h3 h4

set_option maxHeartbeats 1000000 in
set_option maxRecDepth 100000 in
theorem walk (z : Int) (w : World) (wz : (Lit.int .i64 z).wf = true) :
    Calls Try.prog 4 #[.int .i64 z] w fun e w' => e = .returned (.bool true) ∧ Below w.heap.size w w' := by
  have b1 := bounds_i64 wz
  obtain ⟨x, n, ok, hA, hB⟩ := lengths_both z b1.1 b1.2
  obtain ⟨y, m, ok2, hC, hD⟩ := distances_both z b1.1 b1.2
  have HA := keepf hA
  have HB := keepf hB
  have HC := keepf hC
  have HD := keepf hD
  clear hA hB hC hD wz
  have hbb : ∀ b : Bool, (b == b) = true := fun b => by cases b <;> rfl
  have q1 := hbb ok
  have q2 := hbb ok2
  go_enter Try.func4, Try.ntmps4
  go_upto_region 7 with (first
    | (go_at_call 10; refine (HA.out _).mono ?_; rintro e w2 ⟨rfl, rfl⟩)
    | (go_at_call 11; refine (HB.out _).mono ?_; rintro e w2 ⟨rfl, rfl⟩)
    | (go_at_call 12; refine (HC.out _).mono ?_; rintro e w2 ⟨rfl, rfl⟩)
    | (go_at_call 13; refine (HD.out _).mono ?_; rintro e w2 ⟨rfl, rfl⟩)
    | (go_at_call 14; refine (fixed_any _).mono ?_; rintro e w3 ⟨A, B, c, d, rfl, hoA, hoB, hc3⟩; have HOA := keepf hoA; have HOB := keepf hoB; have HC3 := keepf hc3; clear hoA hoB hc3)
    | (go_at_call 15; refine (rfixed_any _).mono ?_; rintro e w4 ⟨A4, B4, c4, d4, rfl, hoA4, hoB4, hc4⟩; have HOA4 := keepf hoA4; have HOB4 := keepf hoB4; have HC4 := keepf hc4; clear hoA4 hoB4 hc4))
  have T1 := keepf (show SameAt w4 A 288 c A4 c4 from ⟨fixS, by simp [fixS], by omega, src_own (own_chg HOA.out HC4.out (fun _ _ h => h)), src_own HOA4.out⟩)
  have T2 := keepf (show SameAt w4 B 30 d B4 d4 from ⟨fixD, by simp [fixD], by omega, src_own (own_chg HOB.out HC4.out (fun _ _ h => h)), src_own HOB4.out⟩)
  have T3 := T2
  have HALL := keepf (HC3.out.trans HC4.out (fun _ _ h => h))
  clear HOA HOB HOA4 HOB4 HC3 HC4 HA HB HC HD
  go_wp2_with (first
    | (go_at_call 16; refine (same_at (by first | exact T1.out | exact T2.out | exact T3.out)).mono ?_; rintro e wq ⟨rfl, hcq⟩; have HALL := keepf (HALL.out.trans hcq (fun _ _ h => h)); have T1 := keepf (T1.out.news hcq); have T2 := keepf (T2.out.news hcq); have T3 := keepf (T3.out.news hcq); clear hcq)
    | (go_at_call 17; refine (order_any _).mono ?_; rintro e w7 ⟨rfl, hw7⟩; have hc7 : Chg NoS _ w7 := (by rw [hw7]; exact (Chg.refl NoS wq).alloc _); have HALL := keepf (HALL.out.trans hc7 (fun _ _ h => h)); have T1 := keepf (T1.out.news hc7); have T2 := keepf (T2.out.news hc7); have T3 := keepf (T3.out.news hc7); have HW7 := keepf hw7; clear hw7 hc7)
    | (go_at_call 18; refine (rorder_any _).mono ?_; rintro e w8 ⟨rfl, hw8⟩; have hc8 : Chg NoS w7 w8 := (by rw [hw8]; exact (Chg.refl NoS w7).alloc _); have HALL := keepf (HALL.out.trans hc8 (fun _ _ h => h)); have T1 := keepf (T1.out.news hc8); have T2 := keepf (T2.out.news hc8); have T3 := keepf (show SameAt w8 (some ⟨wq.heap.size, 0, none⟩) 19 19 (some ⟨w7.heap.size, 0, none⟩) 19 from ⟨orderI, rfl, by omega, src_order wq w8 (by rw [← HW7.out]; exact hc8), src_order w7 w8 (by rw [hw8]; exact Chg.refl _ _)⟩); clear hw8 hc8)
    | (go_at_call 7; refine (works_any5 _).mono ?_; rintro e wz ⟨rfl, hcz⟩; have HCz := keepf hcz; clear hcz))
  go_ret
  exact ⟨rfl, (HALL.out.trans HCz.out (fun _ _ h => h)).no_below⟩


set_option maxRecDepth 100000 in
theorem lifted (os : Os) (started : os.Started) (H : Type) (enc : TypeId × Value → H) :
    ReturnsInHanded {} Try.checked os 4 .any (Rows.inflateSymbolsSpec.pre6 enc Try.prog Try.f4 Rows.inflateSymbolsRow.domain false) (Rows.inflateSymbolsSpec.post enc Try.prog Try.f4 false true false false) := by
  refine returnsInHanded_of_change (C := Try.checked) own started (by kernel_rfl) Try.func4
    (ChangeSpec.witness6 (enc := enc) (C := Try.checked) false ⟨#[], #[.int .i64 0], []⟩ 8 (by kernel_rfl) (by kernel_rfl) (by kernel_rfl) (by kernel_rfl)) ?_
  intro W base args ds gs before hval0 hW hcnd _
  have hval : ∀ (j : Nat) t v, Try.f4.params[j]? = some t → args[j]? = some v → Value.okWide Try.prog W .any base t v := hval0
  have hW' := hW
  obtain ⟨p, q, hA0, hV, rfl, hfz, hnd⟩ := hW
  have hA : DataW.TrodAll enc Try.prog W 0 (fun _ => true) true Try.f4.params.toList args.toList ds p := hA0
  rw [Try.params4] at hA hval
  obtain ⟨v0, vs0, d0, ds0, p0, q0, hargs, rfl, rfl, h0, r0⟩ := trodAll_cons hA
  obtain ⟨rfl, rfl, rfl⟩ := trodAll_nil r0
  obtain rfl : args = #[v0] := by cases args; simp_all
  obtain ⟨rfl, rfl⟩ := trodVars_none hV
  obtain ⟨a0, rfl, rfl, rfl, w0⟩ := open_int Try.underlying3 (hval 0 3 v0 rfl rfl) h0
  clear hA0 hval0
  refine (walk a0 W w0).mono fun e W' ⟨he, bel⟩ => ?_
  subst he
  exact ⟨_, rfl, _, _, _, [], _, [], hW', trodAll_mk1 (shut_bool Try.underlying4 _), (trodAll_cons_mk (shut_int Try.underlying3 w0) trodAll_mk0), rfl, bel.frame _, fun h => by cases h⟩

theorem over : Rows.inflateSymbolsRow.holds Try.pinned (OpenSpec.ofChange Rows.inflateSymbolsSpec) :=
  OpenClaim.holds_of_wide 4 Try.f4 rfl rfl rfl rfl rfl rfl rfl ⟨rfl, rfl, rfl, rfl, rfl⟩ rfl rfl rfl rfl rfl (by kernel_rfl) Try.func4 (by kernel_rfl)
    (of_decide_eq_true (by kernel_rfl)) (by unfold Func.isWrapper; first | (rw [if_pos (by decide +kernel)]; kernel_rfl) | (rw [if_neg (by decide +kernel)]; exact ⟨rfl, rfl⟩))
    (fun os started H enc _ => lifted os started H enc)

theorem proved : Rows.InflateSymbolsSaid := over
#print axioms proved
end Go.Proofs.Ytbdnhhhagpgibaa.isym
