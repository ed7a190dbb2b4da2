/- 'LzExpands': for every input the statement's function returns true: any tokens' bytes are as the document says, or the error; so is whether they may be. Conditions: none. -/
import Derived.Test.YtomkejeofcpchaaLzIn
import Derived.Test.YtomkejeofcpchaaRows
import Derived.OpenShut
import Derived.ChangeOld
import Derived.Lib.SmallJoins
namespace Go.Proofs.Ytomkejeofcpchaa.lzexpands
open Go.RowKit Go.ChangeShapes Go.WideShapes Go.ChangeAt
set_option linter.unusedVariables false

theorem own : ownKnob Try.prog.godebug = none := by kernel_rfl
theorem laidOut : laidOutB Try.prog = true := by kernel_rfl

set_option maxHeartbeats 4000000 in
set_option maxRecDepth 100000 in
theorem walk (A : Option Addr) (len cap : Nat) (l : List Tk) (most : Int) (w : World)
    (hl : l.length = len) (hm : len ≤ maxLen) (hS : Src w 3 A len cap (l.flatMap encT)) (hg : ∀ p ∈ l, p.good) (wm : (Lit.int .i64 most).wf = true) :
    Calls Try.prog 3 #[.slice A len cap, .int .i64 most] w fun e w' => e = .returned (.bool true) ∧ Below w.heap.size w w' := by
  change Src w 3 A len cap (kcells l) at hS
  subst hl
  by_cases hle : l.length ≤ 100
  · have d1 : decide ((100 : Int) < l.length) = false := by simp; omega
    have HS := keepf (fun (W : World) (h : Chg NoS w W) => Src.below (w0 := w) hS h)
    have HOF := keepf (fun (W : World) (h : Chg NoS w W) => of_any l A cap W (HS.out W h) (by omega))
    have HPX := keepf (fun (W : World) (B : Option Addr) (cB : Nat) (hB : Src W 3 B l.length cB (kcells l)) => expand_any l B cB most W hB (by unfold maxLen; omega))
    have HRX := keepf (fun (W : World) (h : Chg NoS w W) => rexpand_any l A cap most W (HS.out W h) hm)
    have HRY := keepf (fun (W : World) (h : Chg NoS w W) => rexpand_any l A cap 16777216 W (HS.out W h) hm)
    have HCK := keepf (fun (W : World) (B : Option Addr) (cB : Nat) (hB : Src W 3 B l.length cB (kcells l)) => checkt_any l B cB W hB (by unfold maxLen; omega))
    obtain ⟨n, hn⟩ : ∃ n, n = l.length := ⟨_, rfl⟩
    rw [← hn] at HS HOF HPX HRX HRY HCK hle d1 ⊢
    obtain ⟨o, ho⟩ : ∃ o, o = outR (expandT l most) := ⟨_, rfl⟩
    obtain ⟨e0, he0⟩ : ∃ e, e = errR (expandT l most) := ⟨_, rfl⟩
    obtain ⟨o2, ho2⟩ : ∃ o, o = outR (expandT l 16777216) := ⟨_, rfl⟩
    obtain ⟨e2, he2⟩ : ∃ e, e = errR (expandT l 16777216) := ⟨_, rfl⟩
    unfold ExpTo at HPX HRX HRY
    rw [← ho, ← he0] at HPX HRX
    rw [← ho2, ← he2] at HRY
    rw [← he2] at HCK
    clear hS hm hg hn wm ho he0 ho2 he2
    go_enter Try.func3, Try.ntmps3
    go_upto_region 4 with (first
      | (go_at_call 9; refine (HOF.out _ (Chg.refl _ _)).mono ?_; rintro e w1 ⟨A1, c1, rfl, hs1, hc1⟩; have HS1 := keepf hs1; have HC1 := keepf hc1; clear hs1 hc1)
      | (go_at_call 8; refine (HPX.out _ _ _ HS1.out).mono ?_; rintro e w2 ⟨A2, c2, rfl, hb2⟩; have HB2 := keepf hb2; have HC2 := keepf (HC1.out.trans hb2.2.1 (fun _ _ h => h)); clear hb2))
    go_upto_region 5 with (go_at_call 10; refine (HRX.out _ HC2.out).mono ?_; rintro e w3 ⟨A3, c3, rfl, hb3⟩; have HB3 := keepf hb3; have HC3 := keepf (HC2.out.trans hb3.2.1 (fun _ _ h => h)); clear hb3)
    go_upto_region 6 with (go_at_call 10; refine (HRY.out _ HC3.out).mono ?_; rintro e w4 ⟨A4, c4, rfl, hb4⟩; have HC4 := keepf (HC3.out.trans hb4.2.1 (fun _ _ h => h)); have HD4 := keepf hb4.2.1; clear hb4)
    have hcv2 := convert_bytes (Src.below (w0 := w2) (src_own HB2.out.1) (HB3.out.2.1.trans HD4.out (fun _ _ h => h)))
    have hcv3 := convert_bytes (Src.below (w0 := w3) (src_own HB3.out.1) HD4.out)
    obtain ⟨s, hs⟩ : ∃ s, s = ostr o := ⟨_, rfl⟩
    rw [← hs] at hcv2 hcv3
    clear hs
    go_wp2_with (first
      | (go_at_call 9; refine (HOF.out _ HC4.out).mono ?_; rintro e w5 ⟨A5, c5, rfl, hs5, hc5⟩; have HS5 := keepf hs5; have HC5 := keepf (HC4.out.trans hc5 (fun _ _ h => h)); clear hs5 hc5)
      | (go_at_call 11; refine (HCK.out _ _ _ HS5.out).mono ?_; rintro e w6 ⟨rfl, hc6⟩; have HC6 := keepf (HC5.out.trans hc6 (fun _ _ h => h)); clear hc6)
      | (go_at_call 7; refine (works_any6 _).mono ?_; rintro e wz ⟨rfl, hcz⟩; have HCz := keepf hcz; clear hcz))
    go_ret
    exact ⟨rfl, (HC6.out.trans HCz.out (fun _ _ h => h)).no_below⟩
  · have d1 : decide ((100 : Int) < l.length) = true := by simp; omega
    have d1' : decide (100 < l.length) = true := by simp; omega
    unfold maxLen at hm
    go_enter Try.func3, Try.ntmps3
    go_wp2_with (go_at_call 7; refine (works_any6 _).mono ?_; rintro e wz ⟨rfl, hcz⟩; have HCz := keepf hcz; clear hcz)
    go_ret
    exact ⟨rfl, HCz.out.no_below⟩


set_option maxRecDepth 100000 in
theorem lifted (os : Os) (started : os.Started) (H : Type) (enc : TypeId × Value → H) :
    ReturnsInHanded {} Try.checked os 3 .any (Rows.lzExpandsSpec.pre6 enc Try.prog Try.f3 Rows.lzExpandsRow.domain false) (Rows.lzExpandsSpec.post enc Try.prog Try.f3 false true false false) := by
  refine returnsInHanded_of_change (C := Try.checked) own started (by kernel_rfl) Try.func3
    (ChangeSpec.witness6 (enc := enc) (C := Try.checked) false ⟨#[], #[.slice none 0 0, .int .i64 0], []⟩ 8 (by kernel_rfl) (by kernel_rfl) (by kernel_rfl) (by kernel_rfl)) ?_
  intro W base args ds gs before hval0 hW hcnd _
  have hval : ∀ (j : Nat) t v, Try.f3.params[j]? = some t → args[j]? = some v → Value.okWide Try.prog W .any base t v := hval0
  have hW' := hW
  obtain ⟨p, q, hA0, hV, rfl, hfz, hnd⟩ := hW
  have hA : DataW.TrodAll enc Try.prog W 0 (fun _ => true) true Try.f3.params.toList args.toList ds p := hA0
  rw [Try.params3] at hA hval
  obtain ⟨v0, vs0, d0, ds0, p0, q0, hargs, rfl, rfl, h0, r0⟩ := trodAll_cons hA
  obtain ⟨v1, vs1, d1, ds1, p1, q1, rfl, rfl, rfl, h1, r1⟩ := trodAll_cons r0
  obtain ⟨rfl, rfl, rfl⟩ := trodAll_nil r1
  obtain rfl : args = #[v0, v1] := by cases args; simp_all
  obtain ⟨rfl, rfl⟩ := trodVars_none hV
  obtain ⟨a0, len0, cap0, rfl⟩ := okWide_slice Try.underlying22 (hval 0 22 v0 rfl rfl)
  have k0 := h0
  have lt0 : ∀ x ∈ p0, x.block < W.heap.size := by obtain ⟨m, hm⟩ := k0; exact DataW.trod_lt m _ _ _ hm
  obtain ⟨hm0, xs0, hl0, hS0, hg0⟩ : len0 ≤ maxLen ∧ ∃ xs : List Tk, xs.length = len0 ∧ Src W 3 a0 len0 cap0 (xs.flatMap encT) ∧ ∀ b ∈ xs, (fun p : Tk => p.good) b := by
    obtain ⟨fuel, hf⟩ := h0
    exact open_rows encT (fun p : Tk => p.good) 3 Try.underlying22 (by kernel_rfl) (fun _ => rfl) (fun n cs y h _ => tok_el h) (by simpa [Value.cells] using hf)
  obtain ⟨a1, rfl, rfl, rfl, w1⟩ := open_int Try.underlying3 (hval 1 3 v1 rfl rfl) h1
  clear hA0 hval0
  refine (walk a0 len0 cap0 xs0 a1 W hl0 hm0 hS0 hg0 w1).mono fun e W' ⟨he, bel⟩ => ?_
  subst he
  exact ⟨_, rfl, _, _, _, [], _, [], hW', trodAll_mk1 (shut_bool Try.underlying4 _), (trodAll_cons_mk (Below.trod laidOut (by kernel_rfl) (of_decide_eq_true (by kernel_rfl)) k0 bel lt0) (trodAll_cons_mk (shut_int Try.underlying3 w1) trodAll_mk0)), rfl, bel.frame _, fun h => by cases h⟩

theorem over : Rows.lzExpandsRow.holds Try.pinned (OpenSpec.ofChange Rows.lzExpandsSpec) :=
  OpenClaim.holds_of_wide 3 Try.f3 rfl rfl rfl rfl rfl rfl rfl ⟨rfl, rfl, rfl, rfl, rfl⟩ rfl rfl rfl rfl rfl (by kernel_rfl) Try.func3 (by kernel_rfl)
    (of_decide_eq_true (by kernel_rfl)) (by unfold Func.isWrapper; first | (rw [if_pos (by decide +kernel)]; kernel_rfl) | (rw [if_neg (by decide +kernel)]; exact ⟨rfl, rfl⟩))
    (fun os started H enc _ => lifted os started H enc)

theorem proved : Rows.LzExpandsSaid := over
#print axioms proved
end Go.Proofs.Ytomkejeofcpchaa.lzexpands
