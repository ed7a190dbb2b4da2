/- 'SpanOrder': for every input the statement's function returns true: in whatever order spans are put in, the set is the same; what is missing, put in, is there. Conditions: none. -/
import Derived.Test.YtmpbmmoncelpkaaSpanEl
import Derived.Test.YtmpbmmoncelpkaaRows
import Derived.ChangeOld
import Derived.Lib.SmallJoins
import Derived.Deep.RegionHeld3
namespace Go.Proofs.Ytmpbmmoncelpkaa.order
open Go.RowKit Go.ChangeShapes Go.WideShapes Go.ChangeAt
set_option linter.unusedVariables false

theorem own : ownKnob Try.prog.godebug = none := by kernel_rfl
theorem laidOut : laidOutB Try.prog = true := by kernel_rfl

/-- The two sets, and x in its box. -/
structure St (w wr : World) (x1 x2 : Int) (F G : List Sp) : Prop where
  s : SetAt wr (w.heap.size + 1) F
  t : SetAt wr (w.heap.size + 1 + 1) G
  b : Blk wr w.heap.size 34 #[.int .i64 x1, .int .i64 x2]
  c : Chg NoS w wr

theorem St.putS {w wr w' : World} {x1 x2 : Int} {F G F' : List Sp} {e : Ending} (h : St w wr x1 x2 F G) (hp : PutTo wr (w.heap.size + 1) F' e w') : e = .returned (.tuple #[]) ∧ St w w' x1 x2 F' G := by
  obtain ⟨he, hs, hc⟩ := hp
  exact ⟨he, hs, h.s.other h.t (by omega) hc, h.b.chg hc (by omega), h.c.trans hc (fun i h1 h2 => by omega)⟩
theorem St.putT {w wr w' : World} {x1 x2 : Int} {F G G' : List Sp} {e : Ending} (h : St w wr x1 x2 F G) (hp : PutTo wr (w.heap.size + 1 + 1) G' e w') : e = .returned (.tuple #[]) ∧ St w w' x1 x2 F G' := by
  obtain ⟨he, hs, hc⟩ := hp
  exact ⟨he, h.t.other h.s (by omega) hc, hs, h.b.chg hc (by omega), h.c.trans hc (fun i h1 h2 => by omega)⟩
theorem St.no {w wr w' : World} {x1 x2 : Int} {F G : List Sp} (h : St w wr x1 x2 F G) (hc : Chg NoS wr w') : St w w' x1 x2 F G :=
  ⟨h.s.no hc, h.t.no hc, h.b.chg hc (fun h => h), h.c.then_ hc⟩

theorem st_new (w : World) (x1 x2 : Int) : ∃ W : World, ((w.alloc (.cells #[.int .i64 x1, .int .i64 x2] 34)).alloc (.cells #[.pointer none] 38)).alloc (.cells #[.pointer none] 38) = W ∧ St w W x1 x2 [] [] := by
  refine ⟨_, rfl, ?_, ?_, ((Blk.new _ _ _).alloc _).alloc _, (((Chg.refl _ _).alloc _).alloc _).alloc _⟩
  · have := set_new (w.alloc (.cells #[.int .i64 x1, .int .i64 x2] 34))
    rw [World.size_alloc] at this
    exact this.no ((Chg.refl _ _).alloc _)
  · have := set_new ((w.alloc (.cells #[.int .i64 x1, .int .i64 x2] 34)).alloc (.cells #[.pointer none] 38))
    rw [World.size_alloc, World.size_alloc] at this
    exact this

theorem rev_at {xs : List Sp} {n k j : Nat} {y : Sp} (hl : xs.length = n) (hj : j + k + 1 = n) (hy : xs[j]? = some y) : xs.reverse[k]? = some y := by
  rw [List.getElem?_reverse (by omega), ← hy]
  congr 1
  omega

theorem mem_ok {xs : List Sp} (h : ∀ p ∈ xs, goodS p) : ∀ y ∈ xs, y.2 ≤ 9223372036854775807 := fun y hy => (h y hy).2.2

set_option maxHeartbeats 4000000 in
set_option maxRecDepth 100000 in
theorem walk (A : Option Addr) (len cap : Nat) (xs : List Sp) (x : Sp) (w : World) (hl : xs.length = len) (hm : len ≤ maxLen) (hS : Src w 2 A len cap (xs.flatMap encC)) (hg : ∀ p ∈ xs, goodS p)
    (hx1 : -9223372036854775808 ≤ x.1 ∧ x.1 ≤ 9223372036854775807) (hx2 : -9223372036854775808 ≤ x.2 ∧ x.2 ≤ 9223372036854775807) :
    Calls Try.prog 6 #[.slice A len cap, encS x] w fun e w' => e = .returned (.bool true) ∧ Below w.heap.size w w' := by
  obtain ⟨x1, x2⟩ := x
  unfold maxLen at hm
  have hxm : x2 ≤ 9223372036854775807 := hx2.2
  have HXM := keepf hxm
  clear hx1 hx2 hxm
  have HS := keepf hS
  have HL := keepf hl
  have HG := keepf (mem_ok hg)
  clear hS hl hg
  by_cases hlen : 100 < len
  · go_enter Try.func6, Try.ntmps6
    go_wp2_with fail
    refine (works_any _).mono ?_
    rintro e w1 ⟨rfl, hc1⟩
    have HC := keepf (((Chg.refl NoS w).alloc (.cells #[.int .i64 x1, .int .i64 x2] 34)).then_ hc1)
    clear hc1
    go_wp2_with fail
    go_ret
    exact ⟨rfl, HC.out.no_below⟩
  · have hlen' : len ≤ 100 := by omega
    clear hlen hm
    obtain ⟨W, hW, hSt⟩ := st_new w x1 x2
    have HW := keepf hW
    have HSt := keepf hSt
    clear hW hSt
    go_enter Try.func6, Try.ntmps6
    go_wp2_with fail
    rw [HW.out]
    go_loopw [7] (fun i wr => ∃ k : Nat, k ≤ len ∧ i = .int .i64 k ∧ St w wr x1 x2 (puts (xs.take k) []) (puts (xs.reverse.take k) [])) (fun i _ => len - (intOf i).toNat)
    case atStart => exact ⟨0, Nat.zero_le _, rfl, HSt.out⟩
    case round =>
      obtain ⟨k, hk, rfl, hst⟩ := hrel
      have HT := keepf hst
      clear hst HSt HW
      by_cases hlt : k < len
      · obtain ⟨b, o, rfl, ⟨y1, y2⟩, hy, cy1, cy2⟩ := row_cells (src_no HS.out HT.out.c) HL.out hlt
        obtain ⟨j, hj⟩ : ∃ j, j + k + 1 = len := ⟨len - 1 - k, by omega⟩
        obtain ⟨b', o', hb', ⟨z1, z2⟩, hz, _, _⟩ := row_cells (src_no HS.out HT.out.c) HL.out (show j < len by omega)
        simp only [Option.some.injEq, Addr.mk.injEq, and_true] at hb'
        obtain ⟨rfl, rfl⟩ := hb'
        simp only at cy1 cy2
        have HY := keepf hy
        have HZ := keepf hz
        have HJ := keepf hj
        have hy2 := HG.out _ (List.mem_of_getElem? hy)
        have hz2 := HG.out _ (List.mem_of_getElem? hz)
        simp only at hy2 hz2
        have hjj : (len : Int) - 1 - (k : Int) = (j : Int) := by omega
        clear hy hz hj
        go_wp2_with fail
        refine (put_any (w.heap.size + 1) (y1, y2) _ _ HT.out.s hy2).mono ?_
        intro e w1 hp
        obtain ⟨rfl, hst1⟩ := HT.out.putS hp
        rw [← puts_take HY.out] at hst1
        obtain ⟨b', o', hb', ⟨u1, u2⟩, hu, cz1, cz2⟩ := row_cells (src_no HS.out hst1.c) HL.out (show j < len by omega)
        simp only [Option.some.injEq, Addr.mk.injEq, and_true] at hb'
        obtain ⟨rfl, rfl⟩ := hb'
        have hzu : (u1, u2) = (z1, z2) := by have h2 := HZ.out; rw [hu] at h2; injection h2
        obtain ⟨rfl, rfl⟩ : u1 = z1 ∧ u2 = z2 := by simpa using hzu
        simp only at cz1 cz2
        have HT1 := keepf hst1
        clear hp hst1 hu hzu cy1 cy2
        go_wp2_with fail
        refine (put_any (w.heap.size + 1 + 1) (u1, u2) _ _ HT1.out.t hz2).mono ?_
        intro e w2 hp
        obtain ⟨rfl, hst2⟩ := HT1.out.putT hp
        rw [← puts_take (rev_at HL.out HJ.out HZ.out)] at hst2
        have HT2 := keepf hst2
        clear hp hst2 cz1 cz2 hjj
        go_wp2_with fail
        go_roundw
        case rel => exact ⟨k + 1, by omega, by go_num, HT2.out⟩
        case measure => simp [intOf]; omega
      · obtain rfl : k = len := by omega
        have hst := HT.out
        rw [List.take_of_length_le (by rw [HL.out]; exact Nat.le_refl _), List.take_of_length_le (by rw [List.length_reverse, HL.out]; exact Nat.le_refl _)] at hst
        have e : puts xs.reverse [] = puts xs [] := (puts_order HG.out (fun y => List.mem_reverse.symm)).symm
        rw [e] at hst
        have hF := puts_form xs [] Form.nil HG.out
        have hFl := puts_len xs [] Form.nil HG.out
        rw [HL.out] at hFl
        simp only [List.length_nil, Nat.zero_add] at hFl
        generalize puts xs [] = F at hst hF hFl
        have HST := keepf hst
        have HF := keepf hF
        clear hst hF e HT HG
        go_wp2_with fail
        refine (all_any _ F _ HST.out.s.v (by omega)).mono ?_
        rintro e w1 ⟨A1, c1, rfl, hown1, hc1, _⟩
        have HO1 := keepf hown1
        have HS1 := keepf (HST.out.no hc1)
        clear hown1 hc1 HST
        go_wp2_with fail
        refine (all_any _ F _ HS1.out.t.v (by omega)).mono ?_
        rintro e w2 ⟨A2, c2, rfl, hown2, hc2, _⟩
        have HO2 := keepf hown2
        have HR1 := keepf (src_no (src_own HO1.out) hc2)
        have HS2 := keepf (HS1.out.no hc2)
        clear hown2 hc2 HS1
        go_wp2_with fail
        refine (same_any A1 A2 _ _ c1 c2 F F _ HR1.out (src_own HO2.out) rfl rfl (by unfold maxLen; omega) (by unfold maxLen; omega)).mono ?_
        rw [show decide (F = F) = true from by simp]
        rintro e w3 ⟨rfl, hc3⟩
        have HS3 := keepf (HS2.out.no hc3)
        have b0 := HS3.out.b.cell 0
        have b1 := HS3.out.b.cell 1
        simp at b0 b1
        clear hc3 HS2 HO1 HO2 HR1
        go_wp2_with fail
        refine (missing_any _ F (x1, x2) _ HS3.out.s.v (by omega)).mono ?_
        rintro e w4 ⟨A4, c4, rfl, hown4, hc4, _⟩
        have HS4 := keepf (HS3.out.no hc4)
        have HR4 := keepf (src_own hown4)
        have hMl := missF_len (x1, x2) F
        have HFM := keepf (fun k y => @miss_not F HF.out (x1, x2) HXM.out k y)
        have HFP := keepf (miss_put HF.out (x1, x2) HXM.out)
        have HFF := keepf (missF_form HF.out (x := (x1, x2)) HXM.out).1
        obtain ⟨M, hM⟩ : ∃ M, missF (x1, x2) F = M := ⟨_, rfl⟩
        rw [hM] at HR4 hMl HFM HFP HFF ⊢
        obtain ⟨mn, hmn⟩ : ∃ mn, M.length = mn := ⟨_, rfl⟩
        rw [hmn] at HR4 hMl ⊢
        have HML := keepf hmn
        have hmn200 : mn ≤ 101 := by omega
        clear hown4 hc4 HS3 b0 b1 hM hmn hMl
        go_wp2_with fail
        go_loopw [9] (fun i wr => ∃ q : Nat, q ≤ mn ∧ i = .int .i64 q ∧ St w wr x1 x2 (puts (M.take q) F) F ∧ Src wr 2 A4 mn c4 (M.flatMap encC)) (fun i _ => mn - (intOf i).toNat)
        case atStart => exact ⟨0, Nat.zero_le _, rfl, HS4.out, HR4.out⟩
        case round =>
          obtain ⟨q, hq, rfl, hst, hR⟩ := hrel
          have HT := keepf hst
          have HR := keepf hR
          clear hst hR HS4 HR4
          by_cases hlt : q < mn
          · obtain ⟨b, o, rfl, ⟨y1, y2⟩, hy, cy1, cy2⟩ := row_cells HR.out HML.out hlt
            obtain ⟨n1, n2, n3, n4⟩ := HFM.out q _ hy
            simp only at cy1 cy2 n2 n3 n4
            have b0 := HT.out.b.cell 0
            have b1 := HT.out.b.cell 1
            simp at b0 b1
            have hhas := has_any _ _ (y1, y2) wr.drew (HT.out.s.v.no (Chg.refl _ _).drew)
            rw [n1] at hhas
            have HH := keepf hhas
            have HY := keepf hy
            have d1 : decide (y1 < x1) = false := by simp; omega
            have d2 : decide (x2 < y2) = false := by simp; omega
            clear hhas hy n1
            go_wp2_with fail
            first
              | (go_loud (go_region_held3 (fun w' => w'.cell? ⟨w.heap.size, 0, none⟩ = some (.int .i64 x1) ∧ w'.cell? ⟨w.heap.size, 1, none⟩ = some (.int .i64 x2) ∧ w'.cell? ⟨b, o + q * 2, none⟩ = some (.int .i64 y1) ∧ w'.cell? ⟨b, o + q * 2 + 1, none⟩ = some (.int .i64 y2))
                (first | go_keep | exact ⟨by assumption, by assumption, by assumption, by assumption⟩)
                (first
                  | (go_at_call 20; refine HH.out.mono ?_; rintro e w5 ⟨rfl, hc5⟩; have HC5 := keepf (show Chg NoS wr w5 from (Chg.refl _ wr).drew.then_ hc5); have e0 := (HT.out.b.chg HC5.out (fun h => h)).cell 0; have e1 := (HT.out.b.chg HC5.out (fun h => h)).cell 1; simp at e0 e1; have e2 := (HC5.out.cell (p := ⟨b, o + q * 2, none⟩) (by exact cell_lt cy1) (fun h => h)).trans cy1; have e3 := (HC5.out.cell (p := ⟨b, o + q * 2 + 1, none⟩) (by exact cell_lt cy2) (fun h => h)).trans cy2; clear hc5))))
              | fail "region"
            go_wp2_with fail
            refine (put_any (w.heap.size + 1) (y1, y2) _ _ (HT.out.s.no HC5.out) n4).mono ?_
            intro e w6 hp
            obtain ⟨rfl, hst6⟩ := (HT.out.no HC5.out).putS hp
            rw [← puts_take HY.out] at hst6
            have hbs : b ≠ w.heap.size + 1 := by
              rintro rfl
              obtain ⟨_, oo, hbb, _⟩ := HT.out.s
              have h1 := hbb.cell (o + q * 2)
              rw [cy1] at h1
              rcases Nat.eq_zero_or_pos (o + q * 2) with h0 | h0
              · rw [h0] at h1; simp at h1
              · rw [Array.getElem?_eq_none (by simp; omega)] at h1; cases h1
            have hR6 := (src_no HR.out HC5.out).chg hp.2.2 (fun a ha _ => by cases ha; exact hbs) (fun h => by omega)
            have HT6 := keepf hst6
            have HR6 := keepf hR6
            clear hp hst6 hR6 hbs d1 d2 cy1 cy2 b0 b1 e0 e1 e2 e3
            go_wp2_with fail
            go_roundw
            case rel => exact ⟨q + 1, by omega, by go_num, HT6.out, HR6.out⟩
            case measure => simp [intOf]; omega
          · obtain rfl : q = mn := by omega
            have hst := HT.out
            rw [List.take_of_length_le (by rw [HML.out]; exact Nat.le_refl _)] at hst
            have hFP := HFP.out
            have hPl := puts_len M F HF.out (fun y hy => (HFF.out.ok y hy).2.2)
            rw [HML.out] at hPl
            generalize puts M F = P at hst hFP hPl
            have HST := keepf hst
            have b0 := HST.out.b.cell 0
            have b1 := HST.out.b.cell 1
            simp at b0 b1
            have hhas := has_any _ P (x1, x2) wr HST.out.s.v
            rw [hFP.1] at hhas
            have hml : (missF (x1, x2) P).length = 0 := by rw [hFP.2]; rfl
            have HH := keepf hhas
            have HMZ := keepf hml
            clear hst hFP hhas hml HT HR
            go_wp2_with fail
            refine HH.out.mono ?_
            rintro e w5 ⟨rfl, hc5⟩
            have HS5 := keepf (HST.out.no hc5)
            have e0 := HS5.out.b.cell 0
            have e1 := HS5.out.b.cell 1
            simp at e0 e1
            clear hc5 b0 b1
            go_wp2_with fail
            refine (missing_any _ P (x1, x2) _ HS5.out.s.v (by omega)).mono ?_
            rintro e w6 ⟨A6, c6, rfl, hown6, hc6, _⟩
            rw [HMZ.out]
            have HS6 := keepf (HS5.out.no hc6)
            clear hown6 hc6 e0 e1
            go_wp2_with fail
            refine (works_any _).mono ?_
            rintro e w7 ⟨rfl, hc7⟩
            have HC7 := keepf (HS6.out.c.then_ hc7)
            clear hc7
            go_wp2_with fail
            go_ret
            exact ⟨rfl, HC7.out.no_below⟩

set_option maxRecDepth 100000 in
theorem lifted (os : Os) (started : os.Started) (H : Type) (enc : TypeId × Value → H) :
    ReturnsInHanded {} Try.checked os 6 .any (Rows.spanOrderSpec.pre6 enc Try.prog Try.f6 Rows.spanOrderRow.domain false) (Rows.spanOrderSpec.post enc Try.prog Try.f6 false true false false) := by
  refine returnsInHanded_of_change (C := Try.checked) own started (by kernel_rfl) Try.func6
    (ChangeSpec.witness6 (enc := enc) (C := Try.checked) false ⟨#[], #[.slice none 0 0, .agg #[.int .i64 0, .int .i64 0]], []⟩ 8 (by kernel_rfl) (by kernel_rfl) (by kernel_rfl) (by kernel_rfl)) ?_
  intro W base args ds gs before hval0 hW hcnd _
  have hval : ∀ (j : Nat) t v, Try.f6.params[j]? = some t → args[j]? = some v → Value.okWide Try.prog W .any base t v := hval0
  have hW' := hW
  obtain ⟨p, q, hA0, hV, rfl, hfz, hnd⟩ := hW
  have hA : DataW.TrodAll enc Try.prog W 0 (fun _ => true) true Try.f6.params.toList args.toList ds p := hA0
  rw [Try.params6] at hA hval
  obtain ⟨v0, vs0, d0, ds0, p0, q0, hargs, rfl, rfl, h0, r0⟩ := trodAll_cons hA
  obtain ⟨v1, vs1, d1, ds1, p1, q1, rfl, rfl, rfl, h1, r1⟩ := trodAll_cons r0
  obtain ⟨rfl, rfl, rfl⟩ := trodAll_nil r1
  obtain rfl : args = #[v0, v1] := by cases args; simp_all
  obtain ⟨rfl, rfl⟩ := trodVars_none hV
  obtain ⟨a0, len0, cap0, rfl⟩ := okWide_slice Try.underlying32 (hval 0 32 v0 rfl rfl)
  have k0 := h0
  have lt0 : ∀ x ∈ p0, x.block < W.heap.size := by obtain ⟨m, hm⟩ := k0; exact DataW.trod_lt m _ _ _ hm
  obtain ⟨hm0, xs0, hl0, hS0, hg0⟩ : len0 ≤ maxLen ∧ ∃ xs : List Sp, xs.length = len0 ∧ Src W 2 a0 len0 cap0 (xs.flatMap encC) ∧ ∀ b ∈ xs, goodS b := by
    obtain ⟨fuel, hf⟩ := h0
    exact open_rows encC goodS 2 Try.underlying32 (by kernel_rfl) (fun _ => rfl) (fun n cs y h _ => span_el h) (by simpa [Value.cells] using hf)
  have k1 := h1
  have lt1 : ∀ x ∈ p1, x.block < W.heap.size := by obtain ⟨m, hm⟩ := k1; exact DataW.trod_lt m _ _ _ hm
  obtain ⟨cu1, cv1, y01, y11, m1, rfl, _, _, hy01, hy11⟩ := Go.Joins.open_agg2 Try.underlying34 (by kernel_rfl) (by kernel_rfl) (hval 1 34 v1 rfl rfl) h1
  obtain ⟨za1, ea1, ga1⟩ := el_int Try.underlying3 hy01
  obtain ⟨zb1, eb1, gb1⟩ := el_int Try.underlying3 hy11
  simp only [List.cons.injEq, and_true] at ea1 eb1
  subst ea1 eb1
  clear hA0 hval0
  refine (walk a0 len0 cap0 xs0 (za1, zb1) W hl0 hm0 hS0 hg0 (bounds_i64 ga1) (bounds_i64 gb1)).mono fun e W' ⟨he, bel⟩ => ?_
  subst he
  exact ⟨_, rfl, _, _, _, [], _, [], hW', trodAll_mk1 (shut_bool Try.underlying4 _), (trodAll_cons_mk (Below.trod laidOut (by kernel_rfl) (of_decide_eq_true (by kernel_rfl)) k0 bel lt0) (trodAll_cons_mk (Below.trod laidOut (by kernel_rfl) (of_decide_eq_true (by kernel_rfl)) k1 bel lt1) trodAll_mk0)), rfl, bel.frame _, fun h => by cases h⟩

theorem over : Rows.spanOrderRow.holds Try.pinned (OpenSpec.ofChange Rows.spanOrderSpec) :=
  OpenClaim.holds_of_wide 6 Try.f6 rfl rfl rfl rfl rfl rfl rfl ⟨rfl, rfl, rfl, rfl, rfl⟩ rfl rfl rfl rfl rfl (by kernel_rfl) Try.func6 (by kernel_rfl)
    (of_decide_eq_true (by kernel_rfl)) (by unfold Func.isWrapper; first | (rw [if_pos (by decide +kernel)]; kernel_rfl) | (rw [if_neg (by decide +kernel)]; exact ⟨rfl, rfl⟩))
    (fun os started H enc _ => lifted os started H enc)

theorem proved : Rows.SpanOrderSaid := over
#print axioms proved
end Go.Proofs.Ytmpbmmoncelpkaa.order
