/- 'SpanJoins': for every input the statement's function returns true: spans that are made one where they lie near are as the document says. Conditions: none. -/
import Derived.Test.YtmpbmmoncelpkaaJoinU
import Derived.Test.YtmpbmmoncelpkaaRows
import Derived.ChangeOld
import Derived.Lib.SmallJoins
namespace Go.Proofs.Ytmpbmmoncelpkaa.joins
open Go.RowKit Go.ChangeShapes Go.WideShapes Go.ChangeAt
set_option linter.unusedVariables false

theorem own : ownKnob Try.prog.godebug = none := by kernel_rfl
theorem laidOut : laidOutB Try.prog = true := by kernel_rfl

theorem all_next {xs : List Sp} {k : Nat} {y : Sp} (h : ∀ z ∈ xs.take k, smallB z = true) (hy : xs[k]? = some y) (hs : smallB y = true) : ∀ z ∈ xs.take (k + 1), smallB z = true := by
  intro z hz
  rw [List.take_add_one, hy, Option.toList_some] at hz
  rcases List.mem_append.1 hz with hz | hz
  · exact h z hz
  · simp at hz
    subst hz
    exact hs

set_option maxHeartbeats 4000000 in
set_option maxRecDepth 100000 in
theorem walk (A : Option Addr) (len cap : Nat) (xs : List Sp) (gap to : Int) (w : World) (hl : xs.length = len) (hm : len ≤ maxLen) (hS : Src w 2 A len cap (xs.flatMap encC)) (hg : ∀ p ∈ xs, goodS p)
    (hgap : (Lit.int .i64 gap).wf = true) (hto : (Lit.int .i64 to).wf = true) :
    Calls Try.prog 5 #[.slice A len cap, .int .i64 gap, .int .i64 to] w fun e w' => e = .returned (.bool true) ∧ Below w.heap.size w w' := by
  unfold maxLen at hm
  have HS := keepf hS
  have HL := keepf hl
  have HG := keepf (fun y (hy : y ∈ xs) => (hg y hy).2.2)
  clear hS hl hg hgap hto
  by_cases hlen : 40 < len
  · go_enter Try.func5, Try.ntmps5
    go_wp2_with fail
    refine (works_any _).mono ?_
    rintro e w9 ⟨rfl, hc9⟩
    have HC9 := keepf ((Chg.refl NoS w).then_ hc9)
    clear hc9
    go_wp2_with fail
    go_ret
    exact ⟨rfl, HC9.out.no_below⟩
  · have hlen' : len ≤ 40 := by omega
    clear hlen hm
    go_enter Try.func5, Try.ntmps5
    go_wp2_with fail
    go_loopw [7] (fun i wr => ∃ k : Nat, k ≤ len ∧ i = .int .i64 k ∧ Chg NoS w wr ∧ Hid (∀ z ∈ xs.take k, smallB z = true)) (fun i _ => len - (intOf i).toNat)
    case atStart => exact ⟨0, Nat.zero_le _, rfl, Chg.refl _ _, fun z h => by simp at h⟩
    case round =>
      obtain ⟨k, hk, rfl, hc, HI⟩ := hrel
      have HC := keepf hc
      clear hc
      by_cases hlt : k < len
      · obtain ⟨b, o, rfl, ⟨y1, y2⟩, hy, cy1, cy2⟩ := row_cells (src_no HS.out HC.out) HL.out hlt
        simp only at cy1 cy2
        have HY := keepf hy
        have CY1 := keepf cy1
        have CY2 := keepf cy2
        clear hy
        go_wp2_with fail
        refine (small_any (y1, y2) _).mono ?_
        rintro e w5 ⟨rfl, hc5⟩
        have e1 := (hc5.cell (p := ⟨b, o + k * 2, none⟩) (by exact cell_lt CY1.out) (fun h => h)).trans CY1.out
        have e2 := (hc5.cell (p := ⟨b, o + k * 2 + 1, none⟩) (by exact cell_lt CY2.out) (fun h => h)).trans CY2.out
        have HC5 := keepf (HC.out.then_ hc5)
        have E1 := keepf e1
        have E2 := keepf e2
        clear hc5 cy1 cy2 CY1 CY2
        cases hys : smallB (y1, y2) with
        | false =>
          clear hys
          go_wp2_with fail
          refine (works_any _).mono ?_
          rintro e w9 ⟨rfl, hc9⟩
          have HC9 := keepf (HC5.out.then_ hc9)
          clear hc9
          go_wp2_with fail
          go_ret
          exact ⟨rfl, HC9.out.no_below⟩
        | true =>
          have HIN := keepf (all_next HI.out HY.out hys)
          clear hys
          go_wp2_with fail
          have hcl := clip_any (y1, y2) to w5
          clear e1 e2
          by_cases hto : to < y2
          · have hmin : min y2 to = to := by omega
            by_cases p1 : 0 ≤ y1
            · by_cases p2 : y1 < to
              · have hcx : clipB (y1, y2) to = (y1, to) := by rw [clipB, hmin]; simp [emptyB]; omega
                have d1 : decide (y1 < 0) = false := by simp; omega
                have d2 : decide (to ≤ y1) = false := by simp; omega
                rw [hcx] at hcl
                have HCL := keepf hcl
                clear hcl p1 p2 hmin
                refine HCL.out.mono ?_
                rintro e6 w6 ⟨rfl, hc6⟩
                have g1 := (hc6.cell (p := ⟨b, o + k * 2, none⟩) (by exact cell_lt E1.out) (fun h => h)).trans E1.out
                have g2 := (hc6.cell (p := ⟨b, o + k * 2 + 1, none⟩) (by exact cell_lt E2.out) (fun h => h)).trans E2.out
                have hgl := cell_lt g1
                simp only at hgl
                have HC6 := keepf (HC5.out.then_ hc6)
                clear hc6
                go_wp2_with fail
                go_quiet (fail)
                go_wp2_with fail
                go_roundw
                case rel => exact ⟨k + 1, by omega, by go_num, (HC6.out.alloc _).drewN _, HIN.out⟩
                case measure => simp [intOf]; omega
              · have hcx : clipB (y1, y2) to = (0, 0) := by rw [clipB, hmin]; simp [emptyB]; omega
                have d1 : decide (y1 < 0) = false := by simp; omega
                have d2 : decide (to ≤ y1) = true := by simp; omega
                rw [hcx] at hcl
                have HCL := keepf hcl
                clear hcl p1 p2 hmin
                refine HCL.out.mono ?_
                rintro e6 w6 ⟨rfl, hc6⟩
                have g1 := (hc6.cell (p := ⟨b, o + k * 2, none⟩) (by exact cell_lt E1.out) (fun h => h)).trans E1.out
                have g2 := (hc6.cell (p := ⟨b, o + k * 2 + 1, none⟩) (by exact cell_lt E2.out) (fun h => h)).trans E2.out
                have hgl := cell_lt g1
                simp only at hgl
                have HC6 := keepf (HC5.out.then_ hc6)
                clear hc6
                go_wp2_with fail
                go_roundw
                case rel => exact ⟨k + 1, by omega, by go_num, HC6.out.alloc _, HIN.out⟩
                case measure => simp [intOf]; omega
            · have hcx : clipB (y1, y2) to = (0, 0) := by rw [clipB, hmin]; simp [emptyB]; omega
              have d1 : decide (y1 < 0) = true := by simp; omega
              rw [hcx] at hcl
              have HCL := keepf hcl
              clear hcl p1 hmin
              refine HCL.out.mono ?_
              rintro e6 w6 ⟨rfl, hc6⟩
              have g1 := (hc6.cell (p := ⟨b, o + k * 2, none⟩) (by exact cell_lt E1.out) (fun h => h)).trans E1.out
              have g2 := (hc6.cell (p := ⟨b, o + k * 2 + 1, none⟩) (by exact cell_lt E2.out) (fun h => h)).trans E2.out
              have hgl := cell_lt g1
              simp only at hgl
              have HC6 := keepf (HC5.out.then_ hc6)
              clear hc6
              go_wp2_with fail
              go_roundw
              case rel => exact ⟨k + 1, by omega, by go_num, HC6.out.alloc _, HIN.out⟩
              case measure => simp [intOf]; omega
          · have hmin : min y2 to = y2 := by omega
            by_cases p1 : 0 ≤ y1
            · by_cases p2 : y1 < y2
              · have hcx : clipB (y1, y2) to = (y1, y2) := by rw [clipB, hmin]; simp [emptyB]; omega
                have d1 : decide (y1 < 0) = false := by simp; omega
                have d2 : decide (y2 ≤ y1) = false := by simp; omega
                rw [hcx] at hcl
                have HCL := keepf hcl
                clear hcl p1 p2 hmin
                refine HCL.out.mono ?_
                rintro e6 w6 ⟨rfl, hc6⟩
                have g1 := (hc6.cell (p := ⟨b, o + k * 2, none⟩) (by exact cell_lt E1.out) (fun h => h)).trans E1.out
                have g2 := (hc6.cell (p := ⟨b, o + k * 2 + 1, none⟩) (by exact cell_lt E2.out) (fun h => h)).trans E2.out
                have hgl := cell_lt g1
                simp only at hgl
                have HC6 := keepf (HC5.out.then_ hc6)
                clear hc6
                go_wp2_with fail
                go_quiet (fail)
                go_wp2_with fail
                go_roundw
                case rel => exact ⟨k + 1, by omega, by go_num, (HC6.out.alloc _).drewN _, HIN.out⟩
                case measure => simp [intOf]; omega
              · have hcx : clipB (y1, y2) to = (0, 0) := by rw [clipB, hmin]; simp [emptyB]; omega
                have d1 : decide (y1 < 0) = false := by simp; omega
                have d2 : decide (y2 ≤ y1) = true := by simp; omega
                rw [hcx] at hcl
                have HCL := keepf hcl
                clear hcl p1 p2 hmin
                refine HCL.out.mono ?_
                rintro e6 w6 ⟨rfl, hc6⟩
                have g1 := (hc6.cell (p := ⟨b, o + k * 2, none⟩) (by exact cell_lt E1.out) (fun h => h)).trans E1.out
                have g2 := (hc6.cell (p := ⟨b, o + k * 2 + 1, none⟩) (by exact cell_lt E2.out) (fun h => h)).trans E2.out
                have hgl := cell_lt g1
                simp only at hgl
                have HC6 := keepf (HC5.out.then_ hc6)
                clear hc6
                go_wp2_with fail
                go_roundw
                case rel => exact ⟨k + 1, by omega, by go_num, HC6.out.alloc _, HIN.out⟩
                case measure => simp [intOf]; omega
            · have hcx : clipB (y1, y2) to = (0, 0) := by rw [clipB, hmin]; simp [emptyB]; omega
              have d1 : decide (y1 < 0) = true := by simp; omega
              rw [hcx] at hcl
              have HCL := keepf hcl
              clear hcl p1 hmin
              refine HCL.out.mono ?_
              rintro e6 w6 ⟨rfl, hc6⟩
              have g1 := (hc6.cell (p := ⟨b, o + k * 2, none⟩) (by exact cell_lt E1.out) (fun h => h)).trans E1.out
              have g2 := (hc6.cell (p := ⟨b, o + k * 2 + 1, none⟩) (by exact cell_lt E2.out) (fun h => h)).trans E2.out
              have hgl := cell_lt g1
              simp only at hgl
              have HC6 := keepf (HC5.out.then_ hc6)
              clear hc6
              go_wp2_with fail
              go_roundw
              case rel => exact ⟨k + 1, by omega, by go_num, HC6.out.alloc _, HIN.out⟩
              case measure => simp [intOf]; omega
      · obtain rfl : k = len := by omega
        have hsm := HI.out
        rw [List.take_of_length_le (by rw [HL.out]; exact Nat.le_refl _)] at hsm
        have HSM := keepf hsm
        have hFl := puts_len xs [] Form.nil HG.out
        have hF := puts_form xs [] Form.nil HG.out
        have hjl := joinL_len gap _ (puts xs []) rfl
        rw [HL.out] at hFl
        simp only [List.length_nil, Nat.zero_add] at hFl
        have HF := keepf hF
        clear hsm hF
        go_wp2_with fail
        refine (join_any gap A k cap xs _ HL.out (by omega) (src_no HS.out HC.out) HG.out).mono ?_
        rintro e w5 ⟨A5, c5, rfl, hown5, hc5, _⟩
        have HO5 := keepf hown5
        have HC5 := keepf (HC.out.then_ hc5)
        clear hown5 hc5
        by_cases hg0 : 0 ≤ gap
        · have hmx : gap = max gap 0 := by omega
          clear hmx
          go_wp2_with fail
          refine (refJoin_any gap A k cap xs _ HL.out (by omega) (src_no HS.out HC5.out) HSM.out).mono ?_
          rintro e w6 ⟨A6, c6, rfl, hown6, hc6, _⟩
          have HO6 := keepf hown6
          have HR5 := keepf (src_no (src_own HO5.out) hc6)
          have HC6 := keepf (HC5.out.then_ hc6)
          clear hown6 hc6
          go_wp2_with fail
          refine (same_any A5 A6 _ _ c5 c6 (joinL gap (puts xs [])) (joinL gap (puts xs [])) _ HR5.out (src_own HO6.out) rfl rfl (by unfold maxLen; omega) (by unfold maxLen; omega)).mono ?_
          rw [show decide (joinL gap (puts xs []) = joinL gap (puts xs [])) = true from by simp]
          rintro e w7 ⟨rfl, hc7⟩
          have HC7 := keepf (HC6.out.then_ hc7)
          clear hc7
          go_wp2_with fail
          refine (works_any _).mono ?_
          rintro e w8 ⟨rfl, hc8⟩
          have HC8 := keepf (HC7.out.then_ hc8)
          clear hc8
          go_wp2_with fail
          go_ret
          exact ⟨rfl, HC8.out.no_below⟩
        · have hmx : (0 : Int) = max gap 0 := by omega
          have hje : joinL gap (puts xs []) = joinL 0 (puts xs []) := (joinL_gap gap _ _ rfl HF.out).trans (by rw [← hmx])
          have HJE := keepf hje
          clear hmx hje
          go_wp2_with fail
          refine (refJoin_any 0 A k cap xs _ HL.out (by omega) (src_no HS.out HC5.out) HSM.out).mono ?_
          rintro e w6 ⟨A6, c6, rfl, hown6, hc6, _⟩
          rw [← HJE.out] at hown6 ⊢
          have HO6 := keepf hown6
          have HR5 := keepf (src_no (src_own HO5.out) hc6)
          have HC6 := keepf (HC5.out.then_ hc6)
          clear hown6 hc6
          go_wp2_with fail
          refine (same_any A5 A6 _ _ c5 c6 (joinL gap (puts xs [])) (joinL gap (puts xs [])) _ HR5.out (src_own HO6.out) rfl rfl (by unfold maxLen; omega) (by unfold maxLen; omega)).mono ?_
          rw [show decide (joinL gap (puts xs []) = joinL gap (puts xs [])) = true from by simp]
          rintro e w7 ⟨rfl, hc7⟩
          have HC7 := keepf (HC6.out.then_ hc7)
          clear hc7
          go_wp2_with fail
          refine (works_any _).mono ?_
          rintro e w8 ⟨rfl, hc8⟩
          have HC8 := keepf (HC7.out.then_ hc8)
          clear hc8
          go_wp2_with fail
          go_ret
          exact ⟨rfl, HC8.out.no_below⟩

set_option maxRecDepth 100000 in
theorem lifted (os : Os) (started : os.Started) (H : Type) (enc : TypeId × Value → H) :
    ReturnsInHanded {} Try.checked os 5 .any (Rows.spanJoinsSpec.pre6 enc Try.prog Try.f5 Rows.spanJoinsRow.domain false) (Rows.spanJoinsSpec.post enc Try.prog Try.f5 false true false false) := by
  refine returnsInHanded_of_change (C := Try.checked) own started (by kernel_rfl) Try.func5
    (ChangeSpec.witness6 (enc := enc) (C := Try.checked) false ⟨#[], #[.slice none 0 0, .int .i64 0, .int .i64 0], []⟩ 8 (by kernel_rfl) (by kernel_rfl) (by kernel_rfl) (by kernel_rfl)) ?_
  intro W base args ds gs before hval0 hW hcnd _
  have hval : ∀ (j : Nat) t v, Try.f5.params[j]? = some t → args[j]? = some v → Value.okWide Try.prog W .any base t v := hval0
  have hW' := hW
  obtain ⟨p, q, hA0, hV, rfl, hfz, hnd⟩ := hW
  have hA : DataW.TrodAll enc Try.prog W 0 (fun _ => true) true Try.f5.params.toList args.toList ds p := hA0
  rw [Try.params5] at hA hval
  obtain ⟨v0, vs0, d0, ds0, p0, q0, hargs, rfl, rfl, h0, r0⟩ := trodAll_cons hA
  obtain ⟨v1, vs1, d1, ds1, p1, q1, rfl, rfl, rfl, h1, r1⟩ := trodAll_cons r0
  obtain ⟨v2, vs2, d2, ds2, p2, q2, rfl, rfl, rfl, h2, r2⟩ := trodAll_cons r1
  obtain ⟨rfl, rfl, rfl⟩ := trodAll_nil r2
  obtain rfl : args = #[v0, v1, v2] := by cases args; simp_all
  obtain ⟨rfl, rfl⟩ := trodVars_none hV
  obtain ⟨a0, len0, cap0, rfl⟩ := okWide_slice Try.underlying32 (hval 0 32 v0 rfl rfl)
  have k0 := h0
  have lt0 : ∀ x ∈ p0, x.block < W.heap.size := by obtain ⟨m, hm⟩ := k0; exact DataW.trod_lt m _ _ _ hm
  obtain ⟨hm0, xs0, hl0, hS0, hg0⟩ : len0 ≤ maxLen ∧ ∃ xs : List Sp, xs.length = len0 ∧ Src W 2 a0 len0 cap0 (xs.flatMap encC) ∧ ∀ b ∈ xs, goodS b := by
    obtain ⟨fuel, hf⟩ := h0
    exact open_rows encC goodS 2 Try.underlying32 (by kernel_rfl) (fun _ => rfl) (fun n cs y h _ => span_el h) (by simpa [Value.cells] using hf)
  obtain ⟨a1, rfl, rfl, rfl, w1⟩ := open_int Try.underlying3 (hval 1 3 v1 rfl rfl) h1
  obtain ⟨a2, rfl, rfl, rfl, w2⟩ := open_int Try.underlying3 (hval 2 3 v2 rfl rfl) h2
  clear hA0 hval0
  refine (walk a0 len0 cap0 xs0 a1 a2 W hl0 hm0 hS0 hg0 w1 w2).mono fun e W' ⟨he, bel⟩ => ?_
  subst he
  exact ⟨_, rfl, _, _, _, [], _, [], hW', trodAll_mk1 (shut_bool Try.underlying4 _), (trodAll_cons_mk (Below.trod laidOut (by kernel_rfl) (of_decide_eq_true (by kernel_rfl)) k0 bel lt0) (trodAll_cons_mk (shut_int Try.underlying3 w1) (trodAll_cons_mk (shut_int Try.underlying3 w2) trodAll_mk0))), rfl, bel.frame _, fun h => by cases h⟩

theorem over : Rows.spanJoinsRow.holds Try.pinned (OpenSpec.ofChange Rows.spanJoinsSpec) :=
  OpenClaim.holds_of_wide 5 Try.f5 rfl rfl rfl rfl rfl rfl rfl ⟨rfl, rfl, rfl, rfl, rfl⟩ rfl rfl rfl rfl rfl (by kernel_rfl) Try.func5 (by kernel_rfl)
    (of_decide_eq_true (by kernel_rfl)) (by unfold Func.isWrapper; first | (rw [if_pos (by decide +kernel)]; kernel_rfl) | (rw [if_neg (by decide +kernel)]; exact ⟨rfl, rfl⟩))
    (fun os started H enc _ => lifted os started H enc)

theorem proved : Rows.SpanJoinsSaid := over
#print axioms proved
end Go.Proofs.Ytmpbmmoncelpkaa.joins
