/- 'HuffApart': for every input the statement's function returns true: no code is the beginning of another one. Conditions: none. -/
import Derived.Test.YtkhhiaggmncehaaLensIn
import Derived.Test.YtkhhiaggmncehaaRows
import Derived.OpenShut
import Derived.ChangeOld
import Derived.Lib.SmallJoins
import Derived.BigQuiet
namespace Go.Proofs.Ytkhhiaggmncehaa.hapart
open Go.RowKit Go.ChangeShapes Go.WideShapes Go.ChangeAt
set_option linter.unusedVariables false

theorem own : ownKnob Try.prog.godebug = none := by kernel_rfl
theorem laidOut : laidOutB Try.prog = true := by kernel_rfl

theorem apart_last {ls : List Int} {p q n k : Nat} (hn : n ≠ 0) (hle : n ≤ k) (ha : ls[p]? = some (n : Int)) (hb : ls[q]? = some (k : Int)) (hne : p ≠ q) :
    (((cd ls q / 2 ^ (k - n) : Nat) : Int) == ((cd ls p : Nat) : Int)) = false := by
  have h := apart hn hle ha hb hne
  exact beq_eq_false_iff_ne.2 (fun e => h (Int.ofNat_inj.1 e))
theorem half_pow (x d : Nat) : x / 2 ^ d / 2 = x / 2 ^ (d + 1) := by rw [Nat.div_div_eq_div_mul, Nat.pow_succ]

set_option maxHeartbeats 2000000 in
set_option maxRecDepth 100000 in
theorem walk (A : Option Addr) (len cap : Nat) (xs : List Int) (p q : Int) (w : World) (hl : xs.length = len) (hm : len ≤ maxLen) (hS : Src w 1 A len cap (xs.flatMap encI)) (hg : ∀ b ∈ xs, goodI b)
    (w1 : (Lit.int .i64 p).wf = true) (w2 : (Lit.int .i64 q).wf = true) :
    Calls Try.prog 6 #[.slice A len cap, .int .i64 p, .int .i64 q] w fun e w' => e = .returned (.bool true) ∧ Below w.heap.size w w' := by
  have bp := bounds_i64 w1
  have bq := bounds_i64 w2
  clear w1 w2
  unfold maxLen at hm
  rw [flat_ints] at hS
  subst hl
  have HS := keepf hS
  have HB := keepf (show in64 xs from hg)
  clear hS hg
  by_cases hle : xs.length ≤ 400
  · have d1 : decide ((400 : Int) < xs.length) = false := by simp; omega
    by_cases hM : May xs
    · have HM := keepf hM
      clear hM
      obtain ⟨b, off, rfl, hcell⟩ := HS.out.plain (by rw [icells_len]; have := HM.out.1; omega)
      have HC := keepf hcell
      have HA := keepf (codes_ok xs (some ⟨b, off, none⟩) cap w HM.out HB.out HS.out)
      clear hcell
      have hlen : xs.length ≤ 320 := HM.out.2.1
      obtain ⟨n, hn⟩ : ∃ n, n = xs.length := ⟨_, rfl⟩
      have HN := keepf hn
      rw [← hn] at hlen hle d1 HA ⊢
      clear hn
      go_enter Try.func6, Try.ntmps6
      go_upto_region 4 with (first
        | (go_at_call 9; refine HA.out.mono ?_; rintro e w2 ⟨A2, c2, rfl, ho2, hc2, hf2⟩; rw [← HN.out] at ho2 hf2 ⊢; have HO2 := keepf ho2; have HC2 := keepf hc2; clear ho2 hc2 hf2))
      clear d1
      by_cases h1 : p < 0
      · have d1 : decide (p < 0) = true := by simpa using h1
        go_quiet (fail)
        go_wp2_with (go_at_call 8; refine (works_any4 _).mono ?_; rintro e w6 ⟨rfl, hc6⟩; have HC6 := keepf hc6; clear hc6)
        go_ret
        exact ⟨rfl, ((HC2.out.drewN nq).trans HC6.out (fun _ _ h => h)).no_below⟩
      · have d1 : decide (p < 0) = false := by simpa using h1
        by_cases h2 : q < 0
        · have d2 : decide (q < 0) = true := by simpa using h2
          go_quiet (fail)
          go_wp2_with (go_at_call 8; refine (works_any4 _).mono ?_; rintro e w6 ⟨rfl, hc6⟩; have HC6 := keepf hc6; clear hc6)
          go_ret
          exact ⟨rfl, ((HC2.out.drewN nq).trans HC6.out (fun _ _ h => h)).no_below⟩
        · have d2 : decide (q < 0) = false := by simpa using h2
          by_cases h3 : (n : Int) ≤ p
          · have d3 : decide ((n : Int) ≤ p) = true := by simpa using h3
            go_quiet (fail)
            go_wp2_with (go_at_call 8; refine (works_any4 _).mono ?_; rintro e w6 ⟨rfl, hc6⟩; have HC6 := keepf hc6; clear hc6)
            go_ret
            exact ⟨rfl, ((HC2.out.drewN nq).trans HC6.out (fun _ _ h => h)).no_below⟩
          · have d3 : decide ((n : Int) ≤ p) = false := by simpa using h3
            by_cases h4 : (n : Int) ≤ q
            · have d4 : decide ((n : Int) ≤ q) = true := by simpa using h4
              go_quiet (fail)
              go_wp2_with (go_at_call 8; refine (works_any4 _).mono ?_; rintro e w6 ⟨rfl, hc6⟩; have HC6 := keepf hc6; clear hc6)
              go_ret
              exact ⟨rfl, ((HC2.out.drewN nq).trans HC6.out (fun _ _ h => h)).no_below⟩
            · have d4 : decide ((n : Int) ≤ q) = false := by simpa using h4
              obtain ⟨p, rfl⟩ := Int.eq_ofNat_of_zero_le (by omega : 0 ≤ p)
              obtain ⟨q, rfl⟩ := Int.eq_ofNat_of_zero_le (by omega : 0 ≤ q)
              by_cases h5 : p = q
              · have d5 : ((p : Int) == (q : Int)) = true := by simp; omega
                go_quiet (fail)
                go_wp2_with (go_at_call 8; refine (works_any4 _).mono ?_; rintro e w6 ⟨rfl, hc6⟩; have HC6 := keepf hc6; clear hc6)
                go_ret
                exact ⟨rfl, ((HC2.out.drewN nq).trans HC6.out (fun _ _ h => h)).no_below⟩
              · have d5 : ((p : Int) == (q : Int)) = false := by simp; omega
                have hpl : p < xs.length := by have := HN.out; omega
                have hql : q < xs.length := by have := HN.out; omega
                have hp := some_lenAt HM.out.2.2.1 hpl
                have hq := some_lenAt HM.out.2.2.1 hql
                have cp := (HC2.out.cell (p := ⟨b, off + p, none⟩) (by exact cell_lt (HC.out p _ (icells_get hp))) (fun h => h)).trans (HC.out p _ (icells_get hp))
                have cq := (HC2.out.cell (p := ⟨b, off + q, none⟩) (by exact cell_lt (HC.out q _ (icells_get hq))) (fun h => h)).trans (HC.out q _ (icells_get hq))
                have hlp := lenAt_le HM.out.2.2.1 p
                have hlq := lenAt_le HM.out.2.2.1 q
                generalize lenAt xs p = lp at *
                generalize lenAt xs q = lq at *
                have HP := keepf hp
                have HQ := keepf hq
                clear hp hq hpl hql
                have hpn : (p : Int) < n := by omega
                have hqn : (q : Int) < n := by omega
                by_cases h6 : lp = 0
                · have d6 : ((lp : Int) == 0) = true := by simp; omega
                  go_quiet (fail)
                  go_wp2_with (go_at_call 8; refine (works_any4 _).mono ?_; rintro e w6 ⟨rfl, hc6⟩; have HC6 := keepf hc6; clear hc6)
                  go_ret
                  exact ⟨rfl, ((HC2.out.drewN nq).trans HC6.out (fun _ _ h => h)).no_below⟩
                · have d6 : ((lp : Int) == 0) = false := by simp; omega
                  by_cases h7 : lq < lp
                  · have d7 : decide ((lq : Int) < lp) = true := by simp; omega
                    go_quiet (fail)
                    go_wp2_with (go_at_call 8; refine (works_any4 _).mono ?_; rintro e w6 ⟨rfl, hc6⟩; have HC6 := keepf hc6; clear hc6)
                    go_ret
                    exact ⟨rfl, ((HC2.out.drewN nq).trans HC6.out (fun _ _ h => h)).no_below⟩
                  · have d7 : decide ((lq : Int) < lp) = false := by simp; omega
                    obtain ⟨g2, cap2, hv2, _, _⟩ := own_form HO2.out (by omega)
                    simp only [Value.slice.injEq] at hv2
                    obtain ⟨rfl, _, rfl⟩ := hv2
                    have hO := HO2.out
                    have eN : codesOf xs = (List.range n).map (cd xs) := by rw [codesOf, ← HN.out]
                    rw [eN] at hO
                    have ep := hO.cellAt p (by omega)
                    have eq := hO.cellAt q (by omega)
                    rw [show ccells ((List.range n).map (cd xs)) = crow n (cd xs) from rfl] at ep eq
                    rw [crow_get _ _ _ (by omega)] at ep eq
                    have hcq := cd_lt16 HM.out q
                    have hla := keepf (apart_last h6 (by omega) HP.out HQ.out h5)
                    clear hO eN
                    obtain ⟨y, hy⟩ : ∃ y, y = cd xs q := ⟨_, rfl⟩
                    obtain ⟨z, hz⟩ : ∃ z, z = cd xs p := ⟨_, rfl⟩
                    rw [← hy] at eq hcq hla
                    rw [← hz] at ep hla
                    clear hy hz
                    go_quiet (fail)
                    go_upto_region 7 with fail
                    go_wp2_with fail
                    go_loop [9, 10] (fun v i => ∃ k x : Nat, lp ≤ k ∧ k ≤ lq ∧ x < 32768 ∧ i = .int .i64 k ∧ v = .int .u32 x ∧ Hid (x = y / 2 ^ (k - lp))) (fun _ i => lq - (intOf i).toNat)
                    case atStart => exact ⟨lp, y, Nat.le_refl _, by omega, hcq, rfl, rfl, (by show y = _; simp)⟩
                    case round =>
                      obtain ⟨k, x, hk1, hk2, hx, rfl, rfl, hX⟩ := hrel
                      by_cases hlt : k < lq
                      · go_wp2_with fail
                        go_round
                        case rel => exact ⟨k + 1, x / 2, by omega, by omega, by omega, by go_num, by go_num, (by show x / 2 = _; rw [hX.out, half_pow, show k - lp + 1 = k + 1 - lp from by omega])⟩
                        case measure => simp [intOf]; omega
                      · obtain rfl : k = lq := by omega
                        have hl := hla.out
                        rw [← hX.out] at hl
                        have hl2 : ¬ ((x : Int) = (z : Int)) := beq_eq_false_iff_ne.1 hl
                        have hl3 : ¬ (x = z) := fun e => hl2 (by rw [e])
                        go_wp2_with (go_at_call 8; refine (works_any4 _).mono ?_; rintro e w6 ⟨rfl, hc6⟩; have HC6 := keepf hc6; clear hc6)
                        go_ret
                        refine ⟨?_, ((HC2.out.drewN nq).trans HC6.out (fun _ _ h => h)).no_below⟩
                        show Ending.returned (.bool ((x : Int) != (z : Int))) = _
                        rw [bne, hl]
                        rfl
    · have HA := keepf (codes_no xs A cap w hM (by omega) HB.out HS.out)
      clear hM
      go_enter Try.func6, Try.ntmps6
      go_upto_region 4 with (first
        | (go_at_call 9; refine HA.out.mono ?_; rintro e w2 ⟨rfl, hc2⟩; have HC2 := keepf hc2; clear hc2))
      go_quiet (fail)
      go_wp2_with (go_at_call 8; refine (works_any4 _).mono ?_; rintro e w6 ⟨rfl, hc6⟩; have HC6 := keepf hc6; clear hc6)
      go_ret
      exact ⟨rfl, ((HC2.out.drewN nq).trans HC6.out (fun _ _ h => h)).no_below⟩
  · have d1 : decide ((400 : Int) < xs.length) = true := by simp; omega
    go_enter Try.func6, Try.ntmps6
    go_wp2_with (go_at_call 8; refine (works_any4 _).mono ?_; rintro e w4 ⟨rfl, hc4⟩; have HC4 := keepf hc4; clear hc4)
    go_ret
    exact ⟨rfl, HC4.out.no_below⟩


set_option maxRecDepth 100000 in
theorem lifted (os : Os) (started : os.Started) (H : Type) (enc : TypeId × Value → H) :
    ReturnsInHanded {} Try.checked os 6 .any (Rows.huffApartSpec.pre6 enc Try.prog Try.f6 Rows.huffApartRow.domain false) (Rows.huffApartSpec.post enc Try.prog Try.f6 false true false false) := by
  refine returnsInHanded_of_change (C := Try.checked) own started (by kernel_rfl) Try.func6
    (ChangeSpec.witness6 (enc := enc) (C := Try.checked) false ⟨#[], #[.slice none 0 0, .int .i64 0, .int .i64 0], []⟩ 8 (by kernel_rfl) (by kernel_rfl) (by kernel_rfl) (by kernel_rfl)) ?_
  intro W base args ds gs before hval0 hW hcnd _
  have hval : ∀ (j : Nat) t v, Try.f6.params[j]? = some t → args[j]? = some v → Value.okWide Try.prog W .any base t v := hval0
  have hW' := hW
  obtain ⟨p, q, hA0, hV, rfl, hfz, hnd⟩ := hW
  have hA : DataW.TrodAll enc Try.prog W 0 (fun _ => true) true Try.f6.params.toList args.toList ds p := hA0
  rw [Try.params6] at hA hval
  obtain ⟨v0, vs0, d0, ds0, p0, q0, hargs, rfl, rfl, h0, r0⟩ := trodAll_cons hA
  obtain ⟨v1, vs1, d1, ds1, p1, q1, rfl, rfl, rfl, h1, r1⟩ := trodAll_cons r0
  obtain ⟨v2, vs2, d2, ds2, p2, q2, rfl, rfl, rfl, h2, r2⟩ := trodAll_cons r1
  obtain ⟨rfl, rfl, rfl⟩ := trodAll_nil r2
  obtain rfl : args = #[v0, v1, v2] := by cases args; simp_all
  obtain ⟨rfl, rfl⟩ := trodVars_none hV
  obtain ⟨a0, len0, cap0, rfl⟩ := okWide_slice Try.underlying22 (hval 0 22 v0 rfl rfl)
  have k0 := h0
  have lt0 : ∀ x ∈ p0, x.block < W.heap.size := by obtain ⟨m, hm⟩ := k0; exact DataW.trod_lt m _ _ _ hm
  obtain ⟨hm0, xs0, hl0, hS0, hg0⟩ : len0 ≤ maxLen ∧ ∃ xs : List Int, xs.length = len0 ∧ Src W 1 a0 len0 cap0 (xs.flatMap encI) ∧ ∀ b ∈ xs, goodI b := by
    obtain ⟨fuel, hf⟩ := h0
    exact open_rows encI goodI 1 Try.underlying22 (by kernel_rfl) (fun _ => rfl) (fun n cs y h _ => int_el h) (by simpa [Value.cells] using hf)
  obtain ⟨a1, rfl, rfl, rfl, w1⟩ := open_int Try.underlying3 (hval 1 3 v1 rfl rfl) h1
  obtain ⟨a2, rfl, rfl, rfl, w2⟩ := open_int Try.underlying3 (hval 2 3 v2 rfl rfl) h2
  clear hA0 hval0
  refine (walk a0 len0 cap0 xs0 a1 a2 W hl0 hm0 hS0 hg0 w1 w2).mono fun e W' ⟨he, bel⟩ => ?_
  subst he
  exact ⟨_, rfl, _, _, _, [], _, [], hW', trodAll_mk1 (shut_bool Try.underlying4 _), (trodAll_cons_mk (Below.trod laidOut (by kernel_rfl) (of_decide_eq_true (by kernel_rfl)) k0 bel lt0) (trodAll_cons_mk (shut_int Try.underlying3 w1) (trodAll_cons_mk (shut_int Try.underlying3 w2) trodAll_mk0))), rfl, bel.frame _, fun h => by cases h⟩

theorem over : Rows.huffApartRow.holds Try.pinned (OpenSpec.ofChange Rows.huffApartSpec) :=
  OpenClaim.holds_of_wide 6 Try.f6 rfl rfl rfl rfl rfl rfl rfl ⟨rfl, rfl, rfl, rfl, rfl⟩ rfl rfl rfl rfl rfl (by kernel_rfl) Try.func6 (by kernel_rfl)
    (of_decide_eq_true (by kernel_rfl)) (by unfold Func.isWrapper; first | (rw [if_pos (by decide +kernel)]; kernel_rfl) | (rw [if_neg (by decide +kernel)]; exact ⟨rfl, rfl⟩))
    (fun os started H enc _ => lifted os started H enc)

theorem proved : Rows.HuffApartSaid := over
#print axioms proved
end Go.Proofs.Ytkhhiaggmncehaa.hapart
