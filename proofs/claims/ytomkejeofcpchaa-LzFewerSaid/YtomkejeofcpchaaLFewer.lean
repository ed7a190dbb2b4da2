/- 'LzFewer': for every input the statement's function returns true: bytes among which six alike ones follow one another, or that are twice the same six or more, have fewer tokens than bytes. Conditions: none. -/
import Derived.Test.YtomkejeofcpchaaLzIn
import Derived.Test.YtomkejeofcpchaaRows
import Derived.OpenShut
import Derived.ChangeOld
import Derived.Lib.SmallJoins
namespace Go.Proofs.Ytomkejeofcpchaa.lzfewer
open Go.RowKit Go.ChangeShapes Go.WideShapes Go.ChangeAt
set_option linter.unusedVariables false

theorem own : ownKnob Try.prog.godebug = none := by kernel_rfl
theorem laidOut : laidOutB Try.prog = true := by kernel_rfl

theorem add_row {w wr w2 wr' : World} {V : Value} {o x : List Nat} {A2 A3 : Option Addr} {n m c2 c3 : Nat} (h : OLoop w wr V o A2 c2) (hn : o.length = n) (hm : x.length = m) (hc : Chg NoS wr w2) (hg : w2.grownBy wr' (Value.slice A2 n c2).ownBlock)
    (ho : wr'.ownsRow 0 5 1 (.slice A3 (n + m) c3) (n + m) (ocells o ++ ocells x))
    (hat : (Value.slice A3 (n + m) c3).ownBlock = (Value.slice A2 n c2).ownBlock ∨ (Value.slice A3 (n + m) c3).ownBlock = some w2.heap.size) : OLoop w wr' V (o ++ x) A3 c3 := by
  subst hn hm
  have hs := h.chg.size
  have hs2 := hc.size
  refine ⟨?_, ?_, ?_⟩
  · rw [List.length_append, ocells_app]
    exact ho
  · have h4 := ((Chg.refl (fun i => (Value.slice A2 o.length c2).ownBlock = some i) w2).grown hg (fun k e _ => e))
    refine (h.chg.trans hc (fun _ _ h => absurd h (fun h => h))).trans h4 (fun i hi e => ?_)
    rcases A2 with _ | a
    · simp [Value.ownBlock] at e
    · have e2 : a.block = i := by simpa [Value.ownBlock] using e
      rcases h.new a rfl with h5 | h5
      · rw [← e2]; exact h5
      · omega
  · rintro a rfl
    rcases hat with e | e
    · rcases A2 with _ | b
      · simp [Value.ownBlock] at e
      · have e2 : a.block = b.block := by simpa [Value.ownBlock] using e
        rw [e2]
        exact h.new b rfl
    · have e2 : a.block = w2.heap.size := by simpa [Value.ownBlock] using e
      exact .inr (by omega)
theorem row_empty (w : World) : OLoop w (w.alloc (.cells #[] 5)) (.slice none 0 0) [] (some ⟨w.heap.size, 0, none⟩) 0 :=
  OLoop.made ⟨rfl, .inr ⟨w.heap.size, 0, #[], rfl, Nat.zero_le _, heap_alloc_new w _, Nat.le_refl _, Nat.zero_le _, rfl, rfl⟩⟩ ((Chg.refl _ _).alloc _) (Nat.le_refl _)

/-- Six alike: three of them stand twice. -/
theorem six_found (a b : List Nat) (x : Nat) : ∃ v p, v < p ∧ p + 2 < (a ++ [x, x, x, x, x, x] ++ b).length ∧ p ≤ v + 32768 ∧ threeOf (a ++ [x, x, x, x, x, x] ++ b) v = threeOf (a ++ [x, x, x, x, x, x] ++ b) p := by
  have hx : ∀ j, j < 6 → (a ++ [x, x, x, x, x, x] ++ b).getD (a.length + j) 0 = x := by
    intro j hj
    rw [List.getD_eq_getElem?_getD, List.append_assoc, List.getElem?_append_right (by omega), Nat.add_sub_cancel_left, List.getElem?_append_left (by simpa using hj)]
    have : j = 0 ∨ j = 1 ∨ j = 2 ∨ j = 3 ∨ j = 4 ∨ j = 5 := by omega
    rcases this with rfl | rfl | rfl | rfl | rfl | rfl <;> rfl
  refine ⟨a.length, a.length + 1, by omega, by simp; omega, by omega, ?_⟩
  unfold threeOf
  have h0 := hx 0 (by decide)
  rw [Nat.add_zero] at h0
  rw [h0, hx 1 (by decide), hx 2 (by decide), show a.length + 1 + 2 = a.length + 3 from rfl, hx 3 (by decide)]
theorem twice_found (a : List Nat) (h : 6 ≤ a.length) (h2 : a.length ≤ 1000) : ∃ v p, v < p ∧ p + 2 < (a ++ a).length ∧ p ≤ v + 32768 ∧ threeOf (a ++ a) v = threeOf (a ++ a) p := by
  have hx : ∀ j, j < 6 → (a ++ a).getD j 0 = (a ++ a).getD (a.length + j) 0 := by
    intro j hj
    rw [List.getD_eq_getElem?_getD, List.getD_eq_getElem?_getD, List.getElem?_append_left (by omega), List.getElem?_append_right (by omega), Nat.add_sub_cancel_left]
  refine ⟨0, a.length, by omega, by simp; omega, by omega, ?_⟩
  unfold threeOf
  have h0 := hx 0 (by decide)
  rw [Nat.add_zero] at h0
  rw [h0, hx 1 (by decide), hx 2 (by decide)]

set_option maxHeartbeats 4000000 in
set_option maxRecDepth 100000 in
theorem walk (A : Option Addr) (la ca : Nat) (a : List Nat) (B : Option Addr) (lb cb : Nat) (b : List Nat) (x : Int) (w : World)
    (hla : a.length = la) (hma : la ≤ maxLen) (hSa : Src w 1 A la ca (a.flatMap encO)) (hga : ∀ p ∈ a, p < 256) (hca : la ≤ ca)
    (hlb : b.length = lb) (hmb : lb ≤ maxLen) (hSb : Src w 1 B lb cb (b.flatMap encO)) (hgb : ∀ p ∈ b, p < 256) (hcb : lb ≤ cb) (wx : (Lit.int .u8 x).wf = true) :
    Calls Try.prog 6 #[.slice A la ca, .slice B lb cb, .int .u8 x] w fun e w' => e = .returned (.bool true) ∧ Below w.heap.size w w' := by
  rw [flat_bytesO] at hSa hSb
  obtain ⟨x, rfl⟩ : ∃ y : Nat, x = y := ⟨x.toNat, by have := bounds_u8 wx; omega⟩
  have hx : x < 256 := by have := bounds_u8 wx; omega
  have HSA := keepf (fun (W : World) (h : Chg NoS w W) => Src.below (w0 := w) hSa h)
  have HSB := keepf (fun (W : World) (h : Chg NoS w W) => Src.below (w0 := w) hSb h)
  unfold maxLen at hma hmb
  by_cases hle : la ≤ 1000 ∧ lb ≤ 1000
  · obtain ⟨h1, h2⟩ := hle
    have d1 : decide ((1000 : Int) < la) = false := by simp; omega
    have d2 : decide ((1000 : Int) < lb) = false := by simp; omega
    obtain ⟨i0, hi, hz0, hz1, hz2⟩ := info_parts info_byte
    have HLA := keepf hla
    have HLB := keepf hlb
    have HGR := keepf (show ∀ p ∈ a ++ [x, x, x, x, x, x] ++ b, p < 256 by
      intro p hp
      rcases List.mem_append.1 hp with hp | hp
      · rcases List.mem_append.1 hp with hp | hp
        · exact hga p hp
        · simp at hp; omega
      · exact hgb p hp)
    have HGT := keepf (show ∀ p ∈ a ++ a, p < 256 by
      intro p hp
      rcases List.mem_append.1 hp with hp | hp <;> exact hga p hp)
    have HE0 := keepf (row_empty w)
    have HE1 := keepf (show (w.alloc (.cells #[] 5)).ownsRow 0 5 1 (.slice (some ⟨w.heap.size, 0, none⟩) 0 0) 0 [] from (row_empty w).own)
    clear hSa hSb hga hgb hla hlb wx hca hcb
    go_enter Try.func6, Try.ntmps6
    go_upto_region 4 with (first
      | (at_builtin; refine wpList_append_src rfl (.tmp 18) (.tmp 19) 24 rfl 5 i0 (.int .u8 0) 1 1 Try.underlying24 hi hz0 hz1 hz2 rfl (by decide) (.slice (some ⟨w.heap.size, 0, none⟩) 0 0) 0 [] rfl HE1.out A la ca (ocells a) rfl (HSA.out _ ((Chg.refl _ _).alloc _)) (ocells_one _) (by unfold maxLen; omega) (by omega) ?_
         intro S2 w2 hown2 hgr2 hat2
         rw [Nat.zero_add, List.nil_append] at hown2
         obtain ⟨A2, c2, rfl, _⟩ := own_slice hown2
         have HO2 := keepf (show OLoop w w2 (.slice none 0 0) ([] ++ a) A2 c2 from add_row (n := 0) (m := la) HE0.out rfl HLA.out (Chg.refl _ _) hgr2 (by rw [Nat.zero_add]; exact hown2) (by rw [Nat.zero_add]; exact hat2))
         have HW2 := keepf hown2
         clear hown2 hgr2 hat2)
      | (at_builtin; refine wpList_append_src rfl (.tmp 20) (.tmp 27) 24 rfl 5 i0 (.int .u8 0) 1 1 Try.underlying24 hi hz0 hz1 hz2 rfl (by decide) (.slice A2 la c2) la (ocells a) rfl (own_chg (S := NoS) HW2.out ((Chg.refl _ _).alloc _) (fun _ _ h => h)) (some ⟨w2.heap.size, 0, none⟩) 6 6 (ocells [x, x, x, x, x, x]) rfl (src_new #[.int .u8 (x : Nat), .int .u8 (x : Nat), .int .u8 (x : Nat), .int .u8 (x : Nat), .int .u8 (x : Nat), .int .u8 (x : Nat)] _ rfl rfl) (ocells_one _) (by unfold maxLen; omega) (by omega) ?_
         intro S3 w3 hown3 hgr3 hat3
         obtain ⟨A3, c3, rfl, _⟩ := own_slice hown3
         have HO3 := keepf (show OLoop w w3 (.slice none 0 0) (a ++ [x, x, x, x, x, x]) A3 c3 from add_row (n := la) (m := 6) HO2.out HLA.out rfl ((Chg.refl _ _).alloc _) hgr3 hown3 hat3)
         have HW3 := keepf hown3
         clear hown3 hgr3 hat3)
      | (at_builtin; refine wpList_append_src rfl (.tmp 28) (.tmp 29) 24 rfl 5 i0 (.int .u8 0) 1 1 Try.underlying24 hi hz0 hz1 hz2 rfl (by decide) (.slice A3 (la + 6) c3) (la + 6) (ocells a ++ ocells [x, x, x, x, x, x]) rfl HW3.out B lb cb (ocells b) rfl (HSB.out _ (HO3.out.no rfl)) (ocells_one _) (by unfold maxLen; omega) (by omega) ?_
         intro S4 w4 hown4 hgr4 hat4
         obtain ⟨g4, c4, rfl, hc4, _⟩ := own_form hown4 (by omega)
         have HO4 := keepf (show OLoop w w4 (.slice none 0 0) (a ++ [x, x, x, x, x, x] ++ b) (some ⟨g4, 0, none⟩) c4 from add_row (n := la + 6) (m := lb) HO3.out (by rw [List.length_append, HLA.out]; rfl) HLB.out (Chg.refl _ _) hgr4 (by rw [ocells_app]; exact hown4) hat4)
         clear hown4 hgr4 hat4))
    have HC4 := keepf (HO4.out.no rfl)
    have hlen4 : (a ++ [x, x, x, x, x, x] ++ b).length = la + 6 + lb := by rw [List.length_append, List.length_append, HLA.out, HLB.out]; rfl
    have HT1 := keepf (show Calls Try.prog 12 #[.slice (some ⟨g4, 0, none⟩) (la + 6 + lb) c4] w4 fun e w' => ∃ tl A c, e = .returned (.slice A tl c) ∧ tl < la + 6 + lb ∧ Chg NoS w4 w' by
      have h := tokens_any (a ++ [x, x, x, x, x, x] ++ b) (some ⟨g4, 0, none⟩) c4 w4 (src_own HO4.out.own) (by rw [hlen4]; omega) (by rw [hlen4]; exact hc4) HGR.out
      rw [hlen4] at h
      exact h.mono fun e w' ⟨T, A, c, h1, h2, h3, _⟩ => ⟨T.length, A, c, h1, by have h5 := (h3 (by rw [hlen4]; omega)).fewer (six_found a b x); rw [hlen4] at h5; exact h5, h2.2.1⟩)
    obtain ⟨n4, hn4⟩ : ∃ n4, n4 = la + 6 + lb := ⟨_, rfl⟩
    rw [← hn4] at HT1 ⊢
    have hn5 : n4 ≤ 2006 := by omega
    clear hn4 hlen4 HO4 HO3 HO2 HW3 HW2 HE0 HE1 HGR hc4
    go_upto_region 7 with (first
      | (go_at_call 12; refine HT1.out.mono ?_; rintro e w5 ⟨tl, A5, c5, rfl, ht, hc5⟩; have HC5 := keepf (HC4.out.trans hc5 (fun _ _ h => h)); have d3 : decide ((n4 : Int) ≤ tl) = false := (by simp; omega); have d3' : decide (n4 ≤ tl) = false := (by simp; omega); have HE5 := keepf (row_empty w5); have HE6 := keepf (show (w5.alloc (.cells #[] 5)).ownsRow 0 5 1 (.slice (some ⟨w5.heap.size, 0, none⟩) 0 0) 0 [] from (row_empty w5).own); clear hc5 ht)
      | (at_builtin; refine wpList_append_src rfl (.tmp 37) (.tmp 38) 24 rfl 5 i0 (.int .u8 0) 1 1 Try.underlying24 hi hz0 hz1 hz2 rfl (by decide) (.slice (some ⟨w5.heap.size, 0, none⟩) 0 0) 0 [] rfl HE6.out A la ca (ocells a) rfl (HSA.out _ (HC5.out.alloc _)) (ocells_one _) (by unfold maxLen; omega) (by omega) ?_
         intro S6 w6 hown6 hgr6 hat6
         rw [Nat.zero_add, List.nil_append] at hown6
         obtain ⟨A6, c6, rfl, _⟩ := own_slice hown6
         have HO6 := keepf (show OLoop w5 w6 (.slice none 0 0) ([] ++ a) A6 c6 from add_row (n := 0) (m := la) HE5.out rfl HLA.out (Chg.refl _ _) hgr6 (by rw [Nat.zero_add]; exact hown6) (by rw [Nat.zero_add]; exact hat6))
         have HW6 := keepf hown6
         have HC6 := keepf (HC5.out.trans (HO6.out.no rfl) (fun _ _ h => h))
         clear hown6 hgr6 hat6)
      | (at_builtin; refine wpList_append_src rfl (.tmp 39) (.tmp 40) 24 rfl 5 i0 (.int .u8 0) 1 1 Try.underlying24 hi hz0 hz1 hz2 rfl (by decide) (.slice A6 la c6) la (ocells a) rfl HW6.out A la ca (ocells a) rfl (HSA.out _ HC6.out) (ocells_one _) (by unfold maxLen; omega) (by omega) ?_
         intro S7 w7 hown7 hgr7 hat7
         obtain ⟨A7, c7, rfl, _⟩ := own_slice hown7
         have HO7 := keepf (show OLoop w5 w7 (.slice none 0 0) (a ++ a) A7 c7 from add_row (n := la) (m := la) HO6.out HLA.out HLA.out (Chg.refl _ _) hgr7 hown7 hat7)
         have HC7 := keepf (HC5.out.trans (HO7.out.no rfl) (fun _ _ h => h))
         have HW7 := keepf hown7
         clear hown7 hgr7 hat7))
    by_cases h6 : la < 6
    · go_wp2_with (go_at_call 7; refine (works_any6 _).mono ?_; rintro e wz ⟨rfl, hcz⟩; have HCz := keepf hcz; clear hcz)
      go_ret
      exact ⟨rfl, (HC7.out.trans HCz.out (fun _ _ h => h)).no_below⟩
    · have hlen7 : (a ++ a).length = la + la := by rw [List.length_append, HLA.out]
      obtain ⟨g7, cc7, hA7, hc7, _⟩ := own_form HW7.out (by omega)
      injection hA7 with hA7 e1 e2
      subst hA7 e2
      clear e1
      have HT2 := keepf (show Calls Try.prog 12 #[.slice (some ⟨g7, 0, none⟩) (la + la) c7] w7 fun e w' => ∃ tl A c, e = .returned (.slice A tl c) ∧ tl < la + la ∧ Chg NoS w7 w' by
        have h := tokens_any (a ++ a) (some ⟨g7, 0, none⟩) c7 w7 (src_own HO7.out.own) (by rw [hlen7]; omega) (by rw [hlen7]; exact hc7) HGT.out
        rw [hlen7] at h
        exact h.mono fun e w' ⟨T, A, c, h1, h2, h3, _⟩ => ⟨T.length, A, c, h1, by have h5 := (h3 (by rw [hlen7]; omega)).fewer (twice_found a (by rw [HLA.out]; omega) (by rw [HLA.out]; omega)); rw [hlen7] at h5; exact h5, h2.2.1⟩)
      obtain ⟨n7, hn7⟩ : ∃ n7, n7 = la + la := ⟨_, rfl⟩
      rw [← hn7] at HT2 ⊢
      have hn8 : n7 ≤ 2006 := by omega
      clear hn7 hlen7 HO7 HO6 HW6 HW7 HE5 HE6 HGT hc7
      go_wp2_with (first
        | (go_at_call 12; refine HT2.out.mono ?_; rintro e w8 ⟨tl2, A8, c8, rfl, ht, hc8⟩; have HC8 := keepf (HC7.out.trans hc8 (fun _ _ h => h)); have d4 : decide ((tl2 : Int) < n7) = true := (by simp; omega); have d4' : decide (tl2 < n7) = true := (by simp; omega); clear hc8 ht)
        | (go_at_call 7; refine (works_any6 _).mono ?_; rintro e wz ⟨rfl, hcz⟩; have HCz := keepf hcz; clear hcz))
      go_ret
      exact ⟨rfl, (HC8.out.trans HCz.out (fun _ _ h => h)).no_below⟩
  · have hcase : 1000 < la ∨ (la ≤ 1000 ∧ 1000 < lb) := by omega
    rcases hcase with h | ⟨h, h2⟩
    · have d1 : decide ((1000 : Int) < la) = true := by simp; omega
      have d1' : decide (1000 < la) = true := by simp; omega
      go_enter Try.func6, Try.ntmps6
      go_wp2_with (go_at_call 7; refine (works_any6 _).mono ?_; rintro e wz ⟨rfl, hcz⟩; have HCz := keepf hcz; clear hcz)
      go_ret
      exact ⟨rfl, HCz.out.no_below⟩
    · have d1 : decide ((1000 : Int) < la) = false := by simp; omega
      have d1' : decide (1000 < la) = false := by simp; omega
      have d2 : decide ((1000 : Int) < lb) = true := by simp; omega
      have d2' : decide (1000 < lb) = true := by simp; omega
      go_enter Try.func6, Try.ntmps6
      go_wp2_with (go_at_call 7; refine (works_any6 _).mono ?_; rintro e wz ⟨rfl, hcz⟩; have HCz := keepf hcz; clear hcz)
      go_ret
      exact ⟨rfl, HCz.out.no_below⟩


set_option maxRecDepth 100000 in
theorem lifted (os : Os) (started : os.Started) (H : Type) (enc : TypeId × Value → H) :
    ReturnsInHanded {} Try.checked os 6 .any (Rows.lzFewerSpec.pre6 enc Try.prog Try.f6 Rows.lzFewerRow.domain false) (Rows.lzFewerSpec.post enc Try.prog Try.f6 false true false false) := by
  refine returnsInHanded_of_change (C := Try.checked) own started (by kernel_rfl) Try.func6
    (ChangeSpec.witness6 (enc := enc) (C := Try.checked) false ⟨#[], #[.slice none 0 0, .slice none 0 0, .int .u8 0], []⟩ 8 (by kernel_rfl) (by kernel_rfl) (by kernel_rfl) (by kernel_rfl)) ?_
  intro W base args ds gs before hval0 hW hcnd _
  have hval : ∀ (j : Nat) t v, Try.f6.params[j]? = some t → args[j]? = some v → Value.okWide Try.prog W .any base t v := hval0
  have hW' := hW
  obtain ⟨p, q, hA0, hV, rfl, hfz, hnd⟩ := hW
  have hA : DataW.TrodAll enc Try.prog W 0 (fun _ => true) true Try.f6.params.toList args.toList ds p := hA0
  rw [Try.params6] at hA hval
  obtain ⟨v0, vs0, d0, ds0, p0, q0, hargs, rfl, rfl, h0, r0⟩ := trodAll_cons hA
  obtain ⟨v1, vs1, d1, ds1, p1, q1, rfl, rfl, rfl, h1, r1⟩ := trodAll_cons r0
  obtain ⟨v2, vs2, d2, ds2, p2, q2, rfl, rfl, rfl, h2, r2⟩ := trodAll_cons r1
  obtain ⟨rfl, rfl, rfl⟩ := trodAll_nil r2
  obtain rfl : args = #[v0, v1, v2] := by cases args; simp_all
  obtain ⟨rfl, rfl⟩ := trodVars_none hV
  obtain ⟨a0, len0, cap0, rfl⟩ := okWide_slice Try.underlying24 (hval 0 24 v0 rfl rfl)
  have k0 := h0
  have lt0 : ∀ x ∈ p0, x.block < W.heap.size := by obtain ⟨m, hm⟩ := k0; exact DataW.trod_lt m _ _ _ hm
  obtain ⟨hm0, xs0, hl0, hS0, hg0⟩ : len0 ≤ maxLen ∧ ∃ xs : List Nat, xs.length = len0 ∧ Src W 1 a0 len0 cap0 (xs.flatMap encO) ∧ ∀ b ∈ xs, (fun p : Nat => p < 256) b := by
    obtain ⟨fuel, hf⟩ := h0
    exact open_rows encO (fun p : Nat => p < 256) 1 Try.underlying24 (by kernel_rfl) (fun _ => rfl) (fun n cs y h _ => byte_elO h) (by simpa [Value.cells] using hf)
  have hc0 : len0 ≤ cap0 := by
    obtain ⟨fuel, hf⟩ := h0
    exact open_capO Try.underlying24 (by simpa [Value.cells] using hf)
  obtain ⟨a1, len1, cap1, rfl⟩ := okWide_slice Try.underlying24 (hval 1 24 v1 rfl rfl)
  have k1 := h1
  have lt1 : ∀ x ∈ p1, x.block < W.heap.size := by obtain ⟨m, hm⟩ := k1; exact DataW.trod_lt m _ _ _ hm
  obtain ⟨hm1, xs1, hl1, hS1, hg1⟩ : len1 ≤ maxLen ∧ ∃ xs : List Nat, xs.length = len1 ∧ Src W 1 a1 len1 cap1 (xs.flatMap encO) ∧ ∀ b ∈ xs, (fun p : Nat => p < 256) b := by
    obtain ⟨fuel, hf⟩ := h1
    exact open_rows encO (fun p : Nat => p < 256) 1 Try.underlying24 (by kernel_rfl) (fun _ => rfl) (fun n cs y h _ => byte_elO h) (by simpa [Value.cells] using hf)
  have hc1 : len1 ≤ cap1 := by
    obtain ⟨fuel, hf⟩ := h1
    exact open_capO Try.underlying24 (by simpa [Value.cells] using hf)
  obtain ⟨a2, rfl, rfl, rfl, w2⟩ := open_int Try.underlying5 (hval 2 5 v2 rfl rfl) h2
  clear hA0 hval0
  refine (walk a0 len0 cap0 xs0 a1 len1 cap1 xs1 a2 W hl0 hm0 hS0 hg0 hc0 hl1 hm1 hS1 hg1 hc1 w2).mono fun e W' ⟨he, bel⟩ => ?_
  subst he
  exact ⟨_, rfl, _, _, _, [], _, [], hW', trodAll_mk1 (shut_bool Try.underlying4 _), (trodAll_cons_mk (Below.trod laidOut (by kernel_rfl) (of_decide_eq_true (by kernel_rfl)) k0 bel lt0) (trodAll_cons_mk (Below.trod laidOut (by kernel_rfl) (of_decide_eq_true (by kernel_rfl)) k1 bel lt1) (trodAll_cons_mk (shut_int Try.underlying5 w2) trodAll_mk0))), rfl, bel.frame _, fun h => by cases h⟩

theorem over : Rows.lzFewerRow.holds Try.pinned (OpenSpec.ofChange Rows.lzFewerSpec) :=
  OpenClaim.holds_of_wide 6 Try.f6 rfl rfl rfl rfl rfl rfl rfl ⟨rfl, rfl, rfl, rfl, rfl⟩ rfl rfl rfl rfl rfl (by kernel_rfl) Try.func6 (by kernel_rfl)
    (of_decide_eq_true (by kernel_rfl)) (by unfold Func.isWrapper; first | (rw [if_pos (by decide +kernel)]; kernel_rfl) | (rw [if_neg (by decide +kernel)]; exact ⟨rfl, rfl⟩))
    (fun os started H enc _ => lifted os started H enc)

theorem proved : Rows.LzFewerSaid := over
#print axioms proved
end Go.Proofs.Ytomkejeofcpchaa.lzfewer
