/- Merged by program: ShApW. -/
import Derived.Test.YtcehpobjnbgpdaaGreatDoorG16
import Derived.Test.YtcehpobjnbgpdaaGreatDoorG17
/- ShowApart: the walk. -/
namespace Go.Proofs.YtcehpobjnbgpdaaGreatDoor
open Go.RowKit
set_option linter.unusedVariables false
set_option linter.unusedSimpArgs false

/-- Two values' boxes, whole, and nothing of old changed. -/
structure VB2 (w : World) (g1 g2 : Nat) (cs1 cs2 : Array Value) (W : World) : Prop where
  b1 : Blk W g1 24 cs1
  b2 : Blk W g2 24 cs2
  chg : Chg NoS w W

theorem VB2.call {w W W' : World} {g1 g2 : Nat} {cs1 cs2 : Array Value} (h : VB2 w g1 g2 cs1 cs2 W) (hc : Chg NoS W W') : VB2 w g1 g2 cs1 cs2 W' := ⟨h.b1.chg hc (fun e => e), h.b2.chg hc (fun e => e), h.chg.trans hc (fun _ _ e => e)⟩

theorem VB2.cells {w W : World} {g1 g2 : Nat} {a b c d a' b' c' d' : Value} (h : VB2 w g1 g2 #[a, b, c, d] #[a', b', c', d'] W) : W.cell? ⟨g1, 0, none⟩ = some a ∧ W.cell? ⟨g1, 1, none⟩ = some b ∧ W.cell? ⟨g1, 2, none⟩ = some c ∧ W.cell? ⟨g1, 3, none⟩ = some d ∧ W.cell? ⟨g2, 0, none⟩ = some a' ∧ W.cell? ⟨g2, 1, none⟩ = some b' ∧ W.cell? ⟨g2, 2, none⟩ = some c' ∧ W.cell? ⟨g2, 3, none⟩ = some d' := by
  have x0 := h.b1.cell 0
  have x1 := h.b1.cell 1
  have x2 := h.b1.cell 2
  have x3 := h.b1.cell 3
  have y0 := h.b2.cell 0
  have y1 := h.b2.cell 1
  have y2 := h.b2.cell 2
  have y3 := h.b2.cell 3
  simp at x0 x1 x2 x3 y0 y1 y2 y3
  exact ⟨x0, x1, x2, x3, y0, y1, y2, y3⟩

theorem sb_inj {a b : List Nat} (ha : ∀ d ∈ a, d < 256) (hb : ∀ d ∈ b, d < 256) (h : sb a = sb b) : a = b := by
  rw [← sl_sb a ha, ← sl_sb b hb, h]

set_option maxHeartbeats 8000000 in
set_option maxRecDepth 100000 in
theorem showApartW (t u : VT) (c c' : VC) (w : World) (hv : ValIs w t c) (hv' : ValIs w u c') (hL : LibOk w) :
    Calls Tryz.prog 6 #[c.val, c'.val] w fun e w' => e = .returned (.bool true) ∧ Chg NoS w w' := by
  have HS := keepf (fun W (h : Chg NoS w W) => small13_any t c W (hv.chg h))
  have HS' := keepf (fun W (h : Chg NoS w W) => small13_any u c' W (hv'.chg h))
  have HW := keepf (fun W (h : Chg NoS w W) => works_any13 W (hL.chg h))
  obtain ⟨b, hb⟩ : ∃ b, smallB t = b := ⟨_, rfl⟩
  rw [hb] at HS
  obtain ⟨b', hb'⟩ : ∃ b', smallB u = b' := ⟨_, rfl⟩
  rw [hb'] at HS'
  have hf3 : ∀ x, smallB x = true → checkT x = 0 → (formT x).length ≤ 300000 := fun x hs hc => by
    obtain ⟨h1, h2⟩ := smallB_true hs
    have := form_len _ x (Nat.le_refl _) (first_of hc) h2
    omega
  have HSH := keepf (fun (hs : smallB t = true) W (h : Chg NoS w W) => show_any t c W (hL.chg h) (hv.chg h) (by have := (smallB_true hs).1; omega) (fun hc => by have := hf3 t hs hc; omega))
  have HSH' := keepf (fun (hs : smallB u = true) W (h : Chg NoS w W) => show_any u c' W (hL.chg h) (hv'.chg h) (by have := (smallB_true hs).1; omega) (fun hc => by have := hf3 u hs hc; omega))
  have HSM := keepf (fun W (h : Chg NoS w W) => rsame11_any t u c c' W (hv.chg h) (hv'.chg h))
  obtain ⟨S, hS⟩ : ∃ S, S = sb (showO t) := ⟨_, rfl⟩
  obtain ⟨z, hz⟩ : ∃ z, z = checkT t := ⟨_, rfl⟩
  obtain ⟨S', hS'⟩ : ∃ S', S' = sb (showO u) := ⟨_, rfl⟩
  obtain ⟨z', hz'⟩ : ∃ z', z' = checkT u := ⟨_, rfl⟩
  have HEQ := keepf (show z = 0 → z' = 0 → (S = S' ↔ cmpT t u = 0) from fun h0 h0' => by
    have ht : checkT t = 0 := by rw [← hz]; exact h0
    have hu : checkT u = 0 := by rw [← hz']; exact h0'
    rw [same_form ht hu, hS, hS']
    unfold showO
    rw [if_pos ht, if_pos hu]
    exact ⟨sb_inj (form_lt t) (form_lt u), fun h => by rw [h]⟩)
  rw [← hS, ← hz] at HSH
  rw [← hS', ← hz'] at HSH'
  obtain ⟨k, n, s, A, len, cap⟩ := c
  obtain ⟨k', n', s', A', len', cap'⟩ := c'
  unfold VC.val at HS HS' HSH HSH' HSM ⊢
  simp only [] at HS HS' HSH HSH' HSM ⊢
  obtain ⟨W1, hW1⟩ : ∃ W1, W1 = (w.alloc (.cells #[.int .i64 k, .int .i64 n, .string s, .slice A len cap] 24)).alloc (.cells #[.int .i64 k', .int .i64 n', .string s', .slice A' len' cap'] 24) := ⟨_, rfl⟩
  obtain ⟨g, hg⟩ : ∃ g, g = w.heap.size := ⟨_, rfl⟩
  obtain ⟨g', hg'⟩ : ∃ g', g' = w.heap.size + 1 := ⟨_, rfl⟩
  have HV : Hid (VB2 w g g' #[.int .i64 k, .int .i64 n, .string s, .slice A len cap] #[.int .i64 k', .int .i64 n', .string s', .slice A' len' cap'] W1) := by
    show VB2 _ _ _ _ _ _
    rw [hW1, hg, hg']
    refine ⟨(Blk.new w _ _).alloc _, ?_, ((Chg.refl NoS w).alloc _).alloc _⟩
    have h2 := Blk.new (w.alloc (.cells #[.int .i64 k, .int .i64 n, .string s, .slice A len cap] 24)) 24 #[.int .i64 k', .int .i64 n', .string s', .slice A' len' cap']
    rw [World.size_alloc] at h2
    exact h2
  clear hv hv' hL hS hS' hz hz' hf3
  cases b with
  | false =>
    clear HSH HSH' HSM hb hb' HS' HEQ
    go_enter Tryz.func6, Tryz.ntmps6
    go_upto_region 1 with fail
    rw [← hg', ← hg, ← hW1]
    clear hg hg' hW1
    obtain ⟨q0, q1, q2, q3, p0, p1, p2, p3⟩ := HV.out.cells
    go_wp2_with first
      | (go_at_call 7; refine (HS.out _ HV.out.chg).mono ?_; rintro e w2 ⟨rfl, h2⟩; have HV2 := keepf (HV.out.call h2); clear h2; obtain ⟨q0, q1, q2, q3, p0, p1, p2, p3⟩ := HV2.out.cells)
      | (go_at_call 8; refine (HW.out _ HV2.out.chg).mono ?_; rintro e w9 ⟨rfl, h9⟩; have HV9 := keepf (HV2.out.call h9); clear h9)
    go_ret
    exact ⟨rfl, HV9.out.chg⟩
  | true =>
    cases b' with
    | false =>
      clear HSH HSH' HSM hb hb' HEQ
      go_enter Tryz.func6, Tryz.ntmps6
      go_upto_region 1 with fail
      rw [← hg', ← hg, ← hW1]
      clear hg hg' hW1
      obtain ⟨q0, q1, q2, q3, p0, p1, p2, p3⟩ := HV.out.cells
      go_wp2_with first
        | (have hx := HV2.out.chg; go_at_call 7; refine (HS'.out _ hx).mono ?_; rintro e w3 ⟨rfl, h3⟩; have HV3 := keepf (HV2.out.call h3); clear h3 hx)
        | (go_at_call 7; refine (HS.out _ HV.out.chg).mono ?_; rintro e w2 ⟨rfl, h2⟩; have HV2 := keepf (HV.out.call h2); clear h2; obtain ⟨q0, q1, q2, q3, p0, p1, p2, p3⟩ := HV2.out.cells)
        | (go_at_call 8; refine (HW.out _ HV3.out.chg).mono ?_; rintro e w9 ⟨rfl, h9⟩; have HV9 := keepf (HV3.out.call h9); clear h9)
      go_ret
      exact ⟨rfl, HV9.out.chg⟩
    | true =>
      have HS1 := keepf (HSH.out hb)
      have HS2 := keepf (HSH'.out hb')
      clear HSH HSH' hb hb'
      by_cases h0 : z = 0
      · by_cases h0' : z' = 0
        · have he := HEQ.out h0 h0'
          subst h0 h0'
          by_cases hc : cmpT t u = 0
          · rw [decide_eq_true hc] at HSM
            have hs := he.2 hc
            subst hs
            clear he hc HEQ
            go_enter Tryz.func6, Tryz.ntmps6
            go_upto_region 1 with fail
            rw [← hg', ← hg, ← hW1]
            clear hg hg' hW1
            obtain ⟨q0, q1, q2, q3, p0, p1, p2, p3⟩ := HV.out.cells
            go_upto_region 3 with first
              | (have hx := HV2.out.chg; go_at_call 7; refine (HS'.out _ hx).mono ?_; rintro e w3 ⟨rfl, h3⟩; have HV3 := keepf (HV2.out.call h3); clear h3 hx)
              | (go_at_call 7; refine (HS.out _ HV.out.chg).mono ?_; rintro e w2 ⟨rfl, h2⟩; have HV2 := keepf (HV.out.call h2); clear h2; obtain ⟨q0, q1, q2, q3, p0, p1, p2, p3⟩ := HV2.out.cells)
            obtain ⟨q0, q1, q2, q3, p0, p1, p2, p3⟩ := HV3.out.cells
            go_upto_region 4 with (go_at_call 9; refine (HS1.out _ HV3.out.chg).mono ?_; rintro e w4 ⟨rfl, h4⟩; have HV4 := keepf (HV3.out.call h4); clear h4)
            clear q0 q1 q2 q3 p0 p1 p2 p3
            obtain ⟨q0, q1, q2, q3, p0, p1, p2, p3⟩ := HV4.out.cells
            go_upto_region 5 with (go_at_call 9; refine (HS2.out _ HV4.out.chg).mono ?_; rintro e w5 ⟨rfl, h5⟩; have HV5 := keepf (HV4.out.call h5); clear h5)
            clear q0 q1 q2 q3 p0 p1 p2 p3
            obtain ⟨q0, q1, q2, q3, p0, p1, p2, p3⟩ := HV5.out.cells
            go_wp2_with first
              | (go_at_call 18; refine (HSM.out _ HV5.out.chg).mono ?_; rintro e w6 ⟨rfl, h6⟩; have HV6 := keepf (HV5.out.call h6); clear h6)
              | (go_at_call 8; refine (HW.out _ HV6.out.chg).mono ?_; rintro e w9 ⟨rfl, h9⟩; have HV9 := keepf (HV6.out.call h9); clear h9)
            go_ret
            exact ⟨rfl, HV9.out.chg⟩
          · rw [decide_eq_false hc] at HSM
            have hs : ¬ S = S' := fun h => hc (he.1 h)
            have hs1 : (S.toList == S'.toList) = false := beq_eq_false_iff_ne.2 (fun h => hs (toList_inj h))
            clear he hc HEQ hs
            go_enter Tryz.func6, Tryz.ntmps6
            go_upto_region 1 with fail
            rw [← hg', ← hg, ← hW1]
            clear hg hg' hW1
            obtain ⟨q0, q1, q2, q3, p0, p1, p2, p3⟩ := HV.out.cells
            go_upto_region 3 with first
              | (have hx := HV2.out.chg; go_at_call 7; refine (HS'.out _ hx).mono ?_; rintro e w3 ⟨rfl, h3⟩; have HV3 := keepf (HV2.out.call h3); clear h3 hx)
              | (go_at_call 7; refine (HS.out _ HV.out.chg).mono ?_; rintro e w2 ⟨rfl, h2⟩; have HV2 := keepf (HV.out.call h2); clear h2; obtain ⟨q0, q1, q2, q3, p0, p1, p2, p3⟩ := HV2.out.cells)
            obtain ⟨q0, q1, q2, q3, p0, p1, p2, p3⟩ := HV3.out.cells
            go_upto_region 4 with (go_at_call 9; refine (HS1.out _ HV3.out.chg).mono ?_; rintro e w4 ⟨rfl, h4⟩; have HV4 := keepf (HV3.out.call h4); clear h4)
            clear q0 q1 q2 q3 p0 p1 p2 p3
            obtain ⟨q0, q1, q2, q3, p0, p1, p2, p3⟩ := HV4.out.cells
            go_upto_region 5 with (go_at_call 9; refine (HS2.out _ HV4.out.chg).mono ?_; rintro e w5 ⟨rfl, h5⟩; have HV5 := keepf (HV4.out.call h5); clear h5)
            clear q0 q1 q2 q3 p0 p1 p2 p3
            obtain ⟨q0, q1, q2, q3, p0, p1, p2, p3⟩ := HV5.out.cells
            go_wp2_with first
              | (go_at_call 18; refine (HSM.out _ HV5.out.chg).mono ?_; rintro e w6 ⟨rfl, h6⟩; have HV6 := keepf (HV5.out.call h6); clear h6)
              | (go_at_call 8; refine (HW.out _ HV6.out.chg).mono ?_; rintro e w9 ⟨rfl, h9⟩; have HV9 := keepf (HV6.out.call h9); clear h9)
            go_ret
            exact ⟨rfl, HV9.out.chg⟩
        · have e0 : (z' == 0) = false := by simpa using h0'
          have e1 : (z' != 0) = true := by simpa using h0'
          subst h0
          clear h0' HEQ
          go_enter Tryz.func6, Tryz.ntmps6
          go_upto_region 1 with fail
          rw [← hg', ← hg, ← hW1]
          clear hg hg' hW1
          obtain ⟨q0, q1, q2, q3, p0, p1, p2, p3⟩ := HV.out.cells
          go_upto_region 3 with first
            | (have hx := HV2.out.chg; go_at_call 7; refine (HS'.out _ hx).mono ?_; rintro e w3 ⟨rfl, h3⟩; have HV3 := keepf (HV2.out.call h3); clear h3 hx)
            | (go_at_call 7; refine (HS.out _ HV.out.chg).mono ?_; rintro e w2 ⟨rfl, h2⟩; have HV2 := keepf (HV.out.call h2); clear h2; obtain ⟨q0, q1, q2, q3, p0, p1, p2, p3⟩ := HV2.out.cells)
          obtain ⟨q0, q1, q2, q3, p0, p1, p2, p3⟩ := HV3.out.cells
          go_upto_region 4 with (go_at_call 9; refine (HS1.out _ HV3.out.chg).mono ?_; rintro e w4 ⟨rfl, h4⟩; have HV4 := keepf (HV3.out.call h4); clear h4)
          clear q0 q1 q2 q3 p0 p1 p2 p3
          obtain ⟨q0, q1, q2, q3, p0, p1, p2, p3⟩ := HV4.out.cells
          go_upto_region 5 with (go_at_call 9; refine (HS2.out _ HV4.out.chg).mono ?_; rintro e w5 ⟨rfl, h5⟩; have HV5 := keepf (HV4.out.call h5); clear h5)
          clear q0 q1 q2 q3 p0 p1 p2 p3
          obtain ⟨q0, q1, q2, q3, p0, p1, p2, p3⟩ := HV5.out.cells
          go_wp2_with (go_at_call 8; refine (HW.out _ HV5.out.chg).mono ?_; rintro e w9 ⟨rfl, h9⟩; have HV9 := keepf (HV5.out.call h9); clear h9)
          go_ret
          exact ⟨rfl, HV9.out.chg⟩
      · have e0 : (z == 0) = false := by simpa using h0
        have e1 : (z != 0) = true := by simpa using h0
        clear h0 HEQ
        go_enter Tryz.func6, Tryz.ntmps6
        go_upto_region 1 with fail
        rw [← hg', ← hg, ← hW1]
        clear hg hg' hW1
        obtain ⟨q0, q1, q2, q3, p0, p1, p2, p3⟩ := HV.out.cells
        go_upto_region 3 with first
          | (have hx := HV2.out.chg; go_at_call 7; refine (HS'.out _ hx).mono ?_; rintro e w3 ⟨rfl, h3⟩; have HV3 := keepf (HV2.out.call h3); clear h3 hx)
          | (go_at_call 7; refine (HS.out _ HV.out.chg).mono ?_; rintro e w2 ⟨rfl, h2⟩; have HV2 := keepf (HV.out.call h2); clear h2; obtain ⟨q0, q1, q2, q3, p0, p1, p2, p3⟩ := HV2.out.cells)
        obtain ⟨q0, q1, q2, q3, p0, p1, p2, p3⟩ := HV3.out.cells
        go_upto_region 4 with (go_at_call 9; refine (HS1.out _ HV3.out.chg).mono ?_; rintro e w4 ⟨rfl, h4⟩; have HV4 := keepf (HV3.out.call h4); clear h4)
        clear q0 q1 q2 q3 p0 p1 p2 p3
        obtain ⟨q0, q1, q2, q3, p0, p1, p2, p3⟩ := HV4.out.cells
        go_upto_region 5 with (go_at_call 9; refine (HS2.out _ HV4.out.chg).mono ?_; rintro e w5 ⟨rfl, h5⟩; have HV5 := keepf (HV4.out.call h5); clear h5)
        clear q0 q1 q2 q3 p0 p1 p2 p3
        obtain ⟨q0, q1, q2, q3, p0, p1, p2, p3⟩ := HV5.out.cells
        go_wp2_with (go_at_call 8; refine (HW.out _ HV5.out.chg).mono ?_; rintro e w9 ⟨rfl, h9⟩; have HV9 := keepf (HV5.out.call h9); clear h9)
        go_ret
        exact ⟨rfl, HV9.out.chg⟩

end Go.Proofs.YtcehpobjnbgpdaaGreatDoor

