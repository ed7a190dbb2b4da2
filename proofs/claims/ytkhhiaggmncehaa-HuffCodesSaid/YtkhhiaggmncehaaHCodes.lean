/- 'HuffCodes': for every input the statement's function returns true: any lengths' codes, and whether they are complete, are as the document says, or the error. Conditions: none. -/
import Derived.Test.YtkhhiaggmncehaaLensIn
import Derived.Test.YtkhhiaggmncehaaRows
import Derived.OpenShut
import Derived.ChangeOld
import Derived.Lib.SmallJoins
import Derived.BigQuiet
namespace Go.Proofs.Ytkhhiaggmncehaa.hcodes
open Go.RowKit Go.ChangeShapes Go.WideShapes Go.ChangeAt
set_option linter.unusedVariables false

theorem own : ownKnob Try.prog.godebug = none := by kernel_rfl
theorem laidOut : laidOutB Try.prog = true := by kernel_rfl

set_option maxHeartbeats 1000000 in
set_option maxRecDepth 100000 in
theorem walk (A : Option Addr) (len cap : Nat) (xs : List Int) (w : World) (hl : xs.length = len) (hm : len ≤ maxLen) (hS : Src w 1 A len cap (xs.flatMap encI)) (hg : ∀ b ∈ xs, goodI b) :
    Calls Try.prog 3 #[.slice A len cap] w fun e w' => e = .returned (.bool true) ∧ Below w.heap.size w w' := by
  unfold maxLen at hm
  rw [flat_ints] at hS
  subst hl
  have HS := keepf hS
  have HB := keepf (show in64 xs from hg)
  clear hS hg
  by_cases hle : xs.length ≤ 1000
  · have d1 : decide ((1000 : Int) < xs.length) = false := by simp; omega
    by_cases hM : May xs
    · have HA := keepf (codes_ok xs A cap w hM HB.out HS.out)
      obtain ⟨bb, hbb⟩ : ∃ bb, bb = decide (May xs ∧ rmOf xs = 32768) := ⟨_, rfl⟩
      have HBB := keepf hbb
      have HM := keepf hM
      clear hbb hM
      go_enter Try.func3, Try.ntmps3
      go_wp2_with (first
        | (go_at_call 9; refine HA.out.mono ?_; rintro e w2 ⟨A2, c2, rfl, ho2, hc2, hf2⟩; have HO2 := keepf ho2; have HC2 := keepf hc2; have HR := keepf (rcodes_ok xs A cap w2 HM.out HB.out (HS.out.below (w0 := w) hc2)); clear ho2 hc2 hf2)
        | (go_at_call 10; refine HR.out.mono ?_; rintro e w3 ⟨A3, c3, rfl, ho3, hc3, hf3⟩; have HO3 := keepf ho3; have HC3 := keepf (HC2.out.trans hc3 (fun _ _ h => h)); have HO23 := keepf (own_chg HO2.out hc3 (fun _ _ h => h)); have HP := keepf (complete_any xs A cap w3 hle HB.out (HS.out.below (w0 := w) HC3.out)); clear ho3 hc3 hf3)
        | (go_at_call 11; refine HP.out.mono ?_; rintro e w4 ⟨rfl, hc4⟩; rw [← HBB.out]; have HC4 := keepf (HC3.out.trans hc4 (fun _ _ h => h)); have HO24 := keepf (own_chg HO23.out hc4 (fun _ _ h => h)); have HO34 := keepf (own_chg HO3.out hc4 (fun _ _ h => h)); have HQ := keepf (rcomplete_any xs A cap w4 hle HB.out (HS.out.below (w0 := w) HC4.out)); clear hc4)
        | (go_at_call 12; refine HQ.out.mono ?_; rintro e w5 ⟨rfl, rfl⟩; rw [← HBB.out]))
      have hlen : xs.length ≤ 320 := HM.out.2.1
      have hq2 : w4.ownsRow 0 31 1 (.slice A2 xs.length c2) xs.length (crow xs.length (cd xs)) := HO24.out
      have hq3 : w4.ownsRow 0 31 1 (.slice A3 xs.length c3) xs.length (crow xs.length (cd xs)) := HO34.out
      have HQ2 := keepf hq2
      have HQ3 := keepf hq3
      clear hq2 hq3
      generalize xs.length = n at *
      go_loopw [7] (fun i wr => ∃ k : Nat, k ≤ n ∧ i = .int .i64 k ∧ wr.ownsRow 0 31 1 (.slice A2 n c2) n (crow n (cd xs)) ∧ wr.ownsRow 0 31 1 (.slice A3 n c3) n (crow n (cd xs)) ∧ Chg NoS w wr) (fun i _ => n - (intOf i).toNat)
      case atStart => exact ⟨0, Nat.zero_le _, rfl, HQ2.out, HQ3.out, HC4.out⟩
      case round =>
        obtain ⟨k, hk, rfl, hq2, hq3, hch⟩ := hrel
        have HO2 := keepf hq2
        have HO3 := keepf hq3
        have HCh := keepf hch
        clear hq2 hq3 hch
        by_cases hlt : k < n
        · obtain ⟨g2, cap2, hv2, _, _⟩ := own_form HO2.out (by omega)
          obtain ⟨g3, cap3, hv3, _, _⟩ := own_form HO3.out (by omega)
          simp only [Value.slice.injEq] at hv2 hv3
          obtain ⟨rfl, _, rfl⟩ := hv2
          obtain ⟨rfl, _, rfl⟩ := hv3
          have e2 := HO2.out.cellAt k (by omega)
          have e3 := HO3.out.cellAt k (by omega)
          rw [crow_get _ _ _ hlt] at e2 e3
          have hk' : (k : Int) < n := by omega
          go_upto_region 10 with fail
          go_quiet (fail)
          go_wp2_with fail
          go_roundw
          case rel => exact ⟨k + 1, by omega, by go_num, own_drewN HO2.out nq, own_drewN HO3.out nq, HCh.out.drewN nq⟩
          case measure => simp [intOf]; omega
        · obtain rfl : k = n := by omega
          go_wp2_with (go_at_call 8; refine (works_any4 _).mono ?_; rintro e w6 ⟨rfl, hc6⟩; have HC6 := keepf hc6; clear hc6)
          go_ret
          exact ⟨rfl, (HCh.out.trans HC6.out (fun _ _ h => h)).no_below⟩
    · have HA := keepf (codes_no xs A cap w hM hle HB.out HS.out)
      obtain ⟨bb, hbb⟩ : ∃ bb, bb = decide (May xs ∧ rmOf xs = 32768) := ⟨_, rfl⟩
      have HBB := keepf hbb
      have HM := keepf hM
      clear hbb hM
      go_enter Try.func3, Try.ntmps3
      go_wp2_with (first
        | (go_at_call 9; refine HA.out.mono ?_; rintro e w2 ⟨rfl, hc2⟩; have HC2 := keepf hc2; have HR := keepf (rcodes_no xs A cap w2 HM.out hle HB.out (HS.out.below (w0 := w) hc2)); clear hc2)
        | (go_at_call 10; refine HR.out.mono ?_; rintro e w3 ⟨rfl, rfl⟩; have HP := keepf (complete_any xs A cap w2 hle HB.out (HS.out.below (w0 := w) HC2.out)))
        | (go_at_call 11; refine HP.out.mono ?_; rintro e w4 ⟨rfl, hc4⟩; rw [← HBB.out]; have HC4 := keepf (HC2.out.trans hc4 (fun _ _ h => h)); have HQ := keepf (rcomplete_any xs A cap w4 hle HB.out (HS.out.below (w0 := w) HC4.out)); clear hc4)
        | (go_at_call 12; refine HQ.out.mono ?_; rintro e w5 ⟨rfl, rfl⟩; rw [← HBB.out]))
      go_loop [7] (fun i => i = .int .i64 0) (fun _ => 0)
      case atStart => rfl
      case round =>
        obtain rfl := hrel
        go_wp2_with (go_at_call 8; refine (works_any4 _).mono ?_; rintro e w6 ⟨rfl, hc6⟩; have HC6 := keepf hc6; clear hc6)
        go_ret
        exact ⟨rfl, (HC4.out.trans HC6.out (fun _ _ h => h)).no_below⟩
  · have d1 : decide ((1000 : Int) < xs.length) = true := by simp; omega
    go_enter Try.func3, Try.ntmps3
    go_wp2_with (go_at_call 8; refine (works_any4 _).mono ?_; rintro e w4 ⟨rfl, hc4⟩; have HC4 := keepf hc4; clear hc4)
    go_ret
    exact ⟨rfl, HC4.out.no_below⟩


set_option maxRecDepth 100000 in
theorem lifted (os : Os) (started : os.Started) (H : Type) (enc : TypeId × Value → H) :
    ReturnsInHanded {} Try.checked os 3 .any (Rows.huffCodesSpec.pre6 enc Try.prog Try.f3 Rows.huffCodesRow.domain false) (Rows.huffCodesSpec.post enc Try.prog Try.f3 false true false false) := by
  refine returnsInHanded_of_change (C := Try.checked) own started (by kernel_rfl) Try.func3
    (ChangeSpec.witness6 (enc := enc) (C := Try.checked) false ⟨#[], #[.slice none 0 0], []⟩ 8 (by kernel_rfl) (by kernel_rfl) (by kernel_rfl) (by kernel_rfl)) ?_
  intro W base args ds gs before hval0 hW hcnd _
  have hval : ∀ (j : Nat) t v, Try.f3.params[j]? = some t → args[j]? = some v → Value.okWide Try.prog W .any base t v := hval0
  have hW' := hW
  obtain ⟨p, q, hA0, hV, rfl, hfz, hnd⟩ := hW
  have hA : DataW.TrodAll enc Try.prog W 0 (fun _ => true) true Try.f3.params.toList args.toList ds p := hA0
  rw [Try.params3] at hA hval
  obtain ⟨v0, vs0, d0, ds0, p0, q0, hargs, rfl, rfl, h0, r0⟩ := trodAll_cons hA
  obtain ⟨rfl, rfl, rfl⟩ := trodAll_nil r0
  obtain rfl : args = #[v0] := by cases args; simp_all
  obtain ⟨rfl, rfl⟩ := trodVars_none hV
  obtain ⟨a0, len0, cap0, rfl⟩ := okWide_slice Try.underlying22 (hval 0 22 v0 rfl rfl)
  have k0 := h0
  have lt0 : ∀ x ∈ p0, x.block < W.heap.size := by obtain ⟨m, hm⟩ := k0; exact DataW.trod_lt m _ _ _ hm
  obtain ⟨hm0, xs0, hl0, hS0, hg0⟩ : len0 ≤ maxLen ∧ ∃ xs : List Int, xs.length = len0 ∧ Src W 1 a0 len0 cap0 (xs.flatMap encI) ∧ ∀ b ∈ xs, goodI b := by
    obtain ⟨fuel, hf⟩ := h0
    exact open_rows encI goodI 1 Try.underlying22 (by kernel_rfl) (fun _ => rfl) (fun n cs y h _ => int_el h) (by simpa [Value.cells] using hf)
  clear hA0 hval0
  refine (walk a0 len0 cap0 xs0 W hl0 hm0 hS0 hg0).mono fun e W' ⟨he, bel⟩ => ?_
  subst he
  exact ⟨_, rfl, _, _, _, [], _, [], hW', trodAll_mk1 (shut_bool Try.underlying4 _), (trodAll_cons_mk (Below.trod laidOut (by kernel_rfl) (of_decide_eq_true (by kernel_rfl)) k0 bel lt0) trodAll_mk0), rfl, bel.frame _, fun h => by cases h⟩

theorem over : Rows.huffCodesRow.holds Try.pinned (OpenSpec.ofChange Rows.huffCodesSpec) :=
  OpenClaim.holds_of_wide 3 Try.f3 rfl rfl rfl rfl rfl rfl rfl ⟨rfl, rfl, rfl, rfl, rfl⟩ rfl rfl rfl rfl rfl (by kernel_rfl) Try.func3 (by kernel_rfl)
    (of_decide_eq_true (by kernel_rfl)) (by unfold Func.isWrapper; first | (rw [if_pos (by decide +kernel)]; kernel_rfl) | (rw [if_neg (by decide +kernel)]; exact ⟨rfl, rfl⟩))
    (fun os started H enc _ => lifted os started H enc)

theorem proved : Rows.HuffCodesSaid := over
#print axioms proved
end Go.Proofs.Ytkhhiaggmncehaa.hcodes
