/- 'AdlerSees': for every input the statement's function returns true: bytes of which one is changed have another sum. Conditions: none. -/
import Derived.Test.YtgfdinclhakjhaaBytesIn
import Derived.Test.YtgfdinclhakjhaaRows
import Derived.OpenShut
import Derived.ChangeOld
import Derived.Lib.SmallJoins
import Derived.Deep.RegionHeld3
import Derived.Deep.RegionWith
namespace Go.Proofs.Ytgfdinclhakjhaa.adlersees
open Go.RowKit Go.ChangeShapes Go.WideShapes Go.ChangeAt
set_option linter.unusedVariables false

theorem own : ownKnob Try.prog.godebug = none := by kernel_rfl
theorem laidOut : laidOutB Try.prog = true := by kernel_rfl
theorem info_u8 : (Try.prog.info? 5).map (fun i => (i.zero, i.size, i.bytes)) = some (some (.int .u8 0), 1, 1) := by kernel_rfl

theorem own_empty (w : World) (e : TypeId) : (w.alloc (.cells #[] e)).ownsRow 0 e 1 (.slice (some ⟨w.heap.size, 0, none⟩) 0 0) 0 [] :=
  ⟨rfl, .inr ⟨w.heap.size, 0, #[], rfl, Nat.zero_le _, heap_alloc_new w _, Nat.le_refl _, Nat.zero_le _, rfl, rfl⟩⟩

theorem ucells_one (bs : List Nat) : ∀ u ∈ ucells bs, u.oneCell' = true := by
  intro u hu
  obtain ⟨_, _, rfl⟩ := List.mem_map.1 hu
  rfl

set_option maxHeartbeats 1000000 in
theorem walk (A : Option Addr) (len cap : Nat) (xs : List Nat) (pos x : Int) (w : World) (hl : xs.length = len) (hm : len ≤ maxLen) (hS : Src w 1 A len cap (xs.flatMap encB)) (hg : ∀ b ∈ xs, b < 256) (hc : len ≤ cap)
    (w1 : (Lit.int .u16 pos).wf = true) (w2 : (Lit.int .u8 x).wf = true) :
    Calls Try.prog 6 #[.slice A len cap, .int .u16 pos, .int .u8 x] w fun e w' => e = .returned (.bool true) ∧ Below w.heap.size w w' := by
  have HP := keepf (piece_in hl hS hg hc)
  have HL := keepf hl
  have HG := keepf hg
  clear hl hS hg hc
  unfold maxLen at hm
  obtain ⟨a, rfl⟩ : ∃ a : Nat, pos = a := ⟨pos.toNat, by have := bounds_u16 w1; omega⟩
  obtain ⟨y, rfl⟩ : ∃ y : Nat, x = y := ⟨x.toNat, by have := bounds_u8 w2; omega⟩
  have ha : a ≤ 65535 := by have := bounds_u16 w1; omega
  have hy : y < 256 := by have := bounds_u8 w2; omega
  clear w1 w2
  by_cases hin : 0 < len ∧ len ≤ 20000
  · obtain ⟨h0, hle⟩ := hin
    have d0 : decide ((len : Int) = 0) = false := by simp; omega
    have d1 : decide ((20000 : Int) < len) = false := by simp; omega
    have hklt : a % len < len := Nat.mod_lt _ h0
    obtain ⟨k, hk⟩ : ∃ k, a % len = k := ⟨_, rfl⟩
    rw [hk] at hklt
    have t1 : (a : Int) % len = (k : Int) := by rw [← hk]; simp
    have t2 : (a : Int).tmod len = (k : Int) := by rw [Int.tmod_eq_emod_of_nonneg (by omega)]; exact t1
    clear hk
    obtain ⟨v, hv⟩ : ∃ v, xs[k]? = some v := ⟨_, List.getElem?_eq_getElem (by rw [HL.out]; exact hklt)⟩
    have hv256 : v < 256 := HG.out v (List.mem_of_getElem? hv)
    obtain ⟨bb, off, hAe, hcell⟩ := HP.out.src.plain (by simp [ucells, HL.out]; omega)
    have hcb := hcell k (.int .u8 (v : Nat)) (by simp [ucells, hv])
    have hss := sum_set xs k y (by rw [HL.out]; exact hklt) hy HG.out
    rw [hv, Option.some.injEq] at hss
    have hset : (ucells xs).set k (.int .u8 (y : Nat)) = ucells (xs.set k y) := by simp [ucells, List.map_set]
    have HSET := keepf hset
    have HSS := keepf hss
    have HCB := keepf hcb
    have HV := keepf hv
    simp only at hAe
    clear hset hss hcb hcell hv
    subst hAe
    obtain ⟨i0, hi, hz0, hz1, hz2⟩ := info_parts info_u8
    go_enter Try.func6, Try.ntmps6
    go_wp2_with (first
      | (at_builtin; refine wpList_append_src rfl (.tmp 18) (.tmp 19) 22 rfl 5 i0 (.int .u8 0) 1 1 Try.underlying22 hi hz0 hz1 hz2 rfl (by decide) (.slice (some ⟨w.heap.size, 0, none⟩) 0 0) 0 [] rfl (own_empty _ _) (some ⟨bb, off, none⟩) len cap (ucells xs) rfl (HP.out.no ((Chg.refl _ _).alloc _)).src (ucells_one _) (by unfold maxLen; omega) (by omega) ?_; intro S2 w2 hown2 hgr hat; obtain ⟨g, c2, rfl, hc1, hc2⟩ := own_form hown2 (by omega); have q0 := hown2.cellAt k (by omega); have q1 := hown2.frozenAt k; simp [ucells, HV.out] at q0; have HG2 := keepf hgr; have HO2 := keepf hown2; have HA2 := keepf hat; clear hgr hown2 hat))
    have hcw2 : Chg NoS w w2 := ((Chg.refl NoS w).alloc (.cells #[] 5)).grown HG2.out (fun i e h => by cases e; exact absurd h (Nat.lt_irrefl _))
    have hgw : w.heap.size ≤ g := by
      rcases HA2.out with h | h
      · injection h with h
        have : g = w.heap.size := h
        omega
      · injection h with h
        rw [World.size_alloc] at h
        have : g = w.heap.size + 1 := h
        omega
    have hcw3 : Chg NoS w (w2.setCell ⟨g, k, none⟩ (.int .u8 (y : Nat))) := hcw2.setCell (p := ⟨g, k, none⟩) (fun h => by have : g < w.heap.size := h; omega) _
    have hst := (HO2.out.stored k (.int .u8 (y : Nat))).1
    simp only [List.nil_append, Nat.zero_add] at hst hc1
    rw [HSET.out] at hst
    have HPC := keepf (show Piece.At ⟨some ⟨g, 0, none⟩, len, c2, xs.set k y⟩ (w2.setCell ⟨g, k, none⟩ (.int .u8 (y : Nat))) NoS from ⟨src_own hst, by simp [HL.out], hc1, fun z hz => by
      rcases List.mem_or_eq_of_mem_set hz with h | h
      · exact HG.out z h
      · omega, fun _ _ _ h => h⟩)
    have HPB := keepf (HP.out.no hcw3)
    have HCW := keepf hcw3
    clear hst hcw2 hcw3 hc1 hc2 HO2 HA2 HG2 q0 q1
    generalize w2.setCell ⟨g, k, none⟩ (.int .u8 (y : Nat)) = w3 at *
    have hs1 := adlerSum_any w3.drew ⟨some ⟨g, 0, none⟩, len, c2, xs.set k y⟩ (HPC.out.no (Chg.refl _ _).drew) (by show len ≤ _; omega)
    simp only [Piece.cell] at hs1
    have HCB3 := keepf ((HCW.out.cell (p := ⟨bb, off + k, none⟩) (by exact cell_lt HCB.out) (fun h => h)).trans HCB.out)
    obtain ⟨z1, hz1e⟩ : ∃ z1, sumA (xs.set k y) = z1 := ⟨_, rfl⟩
    obtain ⟨z2, hz2e⟩ : ∃ z2, sumA xs = z2 := ⟨_, rfl⟩
    rw [hz1e] at HSS hs1
    rw [hz2e] at HSS
    have HZ2 := keepf hz2e
    have HA1 := keepf hs1
    clear hs1 hz1e hz2e HPC HV HSET HG HL HCB hi hz0 hz1 hz2 t1 t2
    by_cases hvy : v = y
    · have hzz : z1 = z2 := HSS.out.2 hvy
      subst hvy hzz
      clear HSS
      have c3 := HCB3.out
      go_wp2_with fail
      first
        | (go_loud (go_region_held3 (fun w' => w'.cell? ⟨bb, off + k, none⟩ = some (.int .u8 (v : Nat)))
            (first | go_keep | assumption)
            (first
              | (go_at_call 7; refine HA1.out.mono ?_; clear HA1; rintro e w5 ⟨rfl, hc5⟩; have HC5 := keepf (HCW.out.drew.trans hc5 (fun _ _ h => h)); have hs2 := adlerSum_any w5 ⟨some ⟨bb, off, none⟩, len, cap, xs⟩ ((HPB.out.no (Chg.refl _ _).drew).no hc5) (by show len ≤ _; omega); rw [HZ2.out] at hs2; simp only [Piece.cell] at hs2; have HA2 := keepf hs2; have e5 := (hc5.cell (p := ⟨bb, off + k, none⟩) (by exact cell_lt HCB3.out) (fun h => h)).trans HCB3.out; clear hc5 hs2)
              | (go_at_call 7; refine HA2.out.mono ?_; clear HA2; rintro e w6 ⟨rfl, hc6⟩; have HC6 := keepf (HC5.out.trans hc6 (fun _ _ h => h)); have e6 := (hc6.cell (p := ⟨bb, off + k, none⟩) (by exact cell_lt e5) (fun h => h)).trans e5; clear hc6)
              | (go_at_call 9; refine (works_any _).mono ?_; rintro e w7 ⟨rfl, hc7⟩; have HC7 := keepf (HC6.out.trans hc7 (fun _ _ h => h)); have e7 := (hc7.cell (p := ⟨bb, off + k, none⟩) (by exact cell_lt e6) (fun h => h)).trans e6; clear hc7))))
        | fail
      go_wp2_with fail
      go_ret
      exact ⟨rfl, HC7.out.no_below⟩
    · have hzz : z1 ≠ z2 := fun h => hvy (HSS.out.1 h)
      have u1 : ¬ ((v : Int) = (y : Int)) := by omega
      have u2 : ¬ ((z1 : Int) = (z2 : Int)) := by omega
      have u3 : ((v : Int) == (y : Int)) = false := by simpa using u1
      have u4 : ((z1 : Int) == (z2 : Int)) = false := by simpa using u2
      have u5 : ((v : Int) != (y : Int)) = true := by simpa using u1
      have u6 : ((z1 : Int) != (z2 : Int)) = true := by simpa using u2
      clear HSS hvy hzz
      have c3 := HCB3.out
      go_wp2_with fail
      first
        | (go_loud (go_region_held3 (fun w' => w'.cell? ⟨bb, off + k, none⟩ = some (.int .u8 (v : Nat)))
            (first | go_keep | assumption)
            (first
              | (go_at_call 7; refine HA1.out.mono ?_; clear HA1; rintro e w5 ⟨rfl, hc5⟩; have HC5 := keepf (HCW.out.drew.trans hc5 (fun _ _ h => h)); have hs2 := adlerSum_any w5 ⟨some ⟨bb, off, none⟩, len, cap, xs⟩ ((HPB.out.no (Chg.refl _ _).drew).no hc5) (by show len ≤ _; omega); rw [HZ2.out] at hs2; simp only [Piece.cell] at hs2; have HA2 := keepf hs2; have e5 := (hc5.cell (p := ⟨bb, off + k, none⟩) (by exact cell_lt HCB3.out) (fun h => h)).trans HCB3.out; clear hc5 hs2)
              | (go_at_call 7; refine HA2.out.mono ?_; clear HA2; rintro e w6 ⟨rfl, hc6⟩; have HC6 := keepf (HC5.out.trans hc6 (fun _ _ h => h)); have e6 := (hc6.cell (p := ⟨bb, off + k, none⟩) (by exact cell_lt e5) (fun h => h)).trans e5; clear hc6)
              | (go_at_call 9; refine (works_any _).mono ?_; rintro e w7 ⟨rfl, hc7⟩; have HC7 := keepf (HC6.out.trans hc7 (fun _ _ h => h)); have e7 := (hc7.cell (p := ⟨bb, off + k, none⟩) (by exact cell_lt e6) (fun h => h)).trans e6; clear hc7))))
        | fail
      go_wp2_with fail
      go_ret
      exact ⟨rfl, HC7.out.no_below⟩
  · have hcase : len = 0 ∨ (len ≠ 0 ∧ 20000 < len) := by omega
    rcases hcase with rfl | ⟨h1, h2⟩
    · go_enter Try.func6, Try.ntmps6
      go_wp2_with fail
      refine (works_any _).mono ?_
      rintro e w4 ⟨rfl, hc4⟩
      have HC4 := keepf hc4
      clear hc4
      go_wp2_with fail
      go_ret
      exact ⟨rfl, HC4.out.no_below⟩
    · have d0 : decide ((len : Int) = 0) = false := by simp; omega
      have d1 : decide ((20000 : Int) < len) = true := by simp; omega
      go_enter Try.func6, Try.ntmps6
      go_wp2_with fail
      refine (works_any _).mono ?_
      rintro e w4 ⟨rfl, hc4⟩
      have HC4 := keepf hc4
      clear hc4
      go_wp2_with fail
      go_ret
      exact ⟨rfl, HC4.out.no_below⟩

set_option maxRecDepth 100000 in
theorem lifted (os : Os) (started : os.Started) (H : Type) (enc : TypeId × Value → H) :
    ReturnsInHanded {} Try.checked os 6 .any (Rows.adlerSeesSpec.pre6 enc Try.prog Try.f6 Rows.adlerSeesRow.domain false) (Rows.adlerSeesSpec.post enc Try.prog Try.f6 false true false false) := by
  refine returnsInHanded_of_change (C := Try.checked) own started (by kernel_rfl) Try.func6
    (ChangeSpec.witness6 (enc := enc) (C := Try.checked) false ⟨#[], #[.slice none 0 0, .int .u16 0, .int .u8 0], []⟩ 8 (by kernel_rfl) (by kernel_rfl) (by kernel_rfl) (by kernel_rfl)) ?_
  intro W base args ds gs before hval0 hW hcnd _
  have hval : ∀ (j : Nat) t v, Try.f6.params[j]? = some t → args[j]? = some v → Value.okWide Try.prog W .any base t v := hval0
  have hW' := hW
  obtain ⟨p, q, hA0, hV, rfl, hfz, hnd⟩ := hW
  have hA : DataW.TrodAll enc Try.prog W 0 (fun _ => true) true Try.f6.params.toList args.toList ds p := hA0
  rw [Try.params6] at hA hval
  obtain ⟨v0, vs0, d0, ds0, p0, q0, hargs, rfl, rfl, h0, r0⟩ := trodAll_cons hA
  obtain ⟨v1, vs1, d1, ds1, p1, q1, rfl, rfl, rfl, h1, r1⟩ := trodAll_cons r0
  obtain ⟨v2, vs2, d2, ds2, p2, q2, rfl, rfl, rfl, h2, r2⟩ := trodAll_cons r1
  obtain ⟨rfl, rfl, rfl⟩ := trodAll_nil r2
  obtain rfl : args = #[v0, v1, v2] := by cases args; simp_all
  obtain ⟨rfl, rfl⟩ := trodVars_none hV
  obtain ⟨a0, len0, cap0, rfl⟩ := okWide_slice Try.underlying22 (hval 0 22 v0 rfl rfl)
  have k0 := h0
  have lt0 : ∀ x ∈ p0, x.block < W.heap.size := by obtain ⟨m, hm⟩ := k0; exact DataW.trod_lt m _ _ _ hm
  obtain ⟨hm0, xs0, hl0, hS0, hg0⟩ : len0 ≤ maxLen ∧ ∃ xs : List Nat, xs.length = len0 ∧ Src W 1 a0 len0 cap0 (xs.flatMap encB) ∧ ∀ b ∈ xs, (fun p : Nat => p < 256) b := by
    obtain ⟨fuel, hf⟩ := h0
    exact open_rows encB (fun p : Nat => p < 256) 1 Try.underlying22 (by kernel_rfl) (fun _ => rfl) (fun n cs y h _ => byte_el h) (by simpa [Value.cells] using hf)
  have hc0 : len0 ≤ cap0 := by
    obtain ⟨fuel, hf⟩ := h0
    exact open_cap Try.underlying22 (by simpa [Value.cells] using hf)
  obtain ⟨a1, rfl, rfl, rfl, w1⟩ := open_int Try.underlying43 (hval 1 43 v1 rfl rfl) h1
  obtain ⟨a2, rfl, rfl, rfl, w2⟩ := open_int Try.underlying5 (hval 2 5 v2 rfl rfl) h2
  clear hA0 hval0
  refine (walk a0 len0 cap0 xs0 a1 a2 W hl0 hm0 hS0 hg0 hc0 w1 w2).mono fun e W' ⟨he, bel⟩ => ?_
  subst he
  exact ⟨_, rfl, _, _, _, [], _, [], hW', trodAll_mk1 (shut_bool Try.underlying4 _), (trodAll_cons_mk (Below.trod laidOut (by kernel_rfl) (of_decide_eq_true (by kernel_rfl)) k0 bel lt0) (trodAll_cons_mk (shut_int Try.underlying43 w1) (trodAll_cons_mk (shut_int Try.underlying5 w2) trodAll_mk0))), rfl, bel.frame _, fun h => by cases h⟩

theorem over : Rows.adlerSeesRow.holds Try.pinned (OpenSpec.ofChange Rows.adlerSeesSpec) :=
  OpenClaim.holds_of_wide 6 Try.f6 rfl rfl rfl rfl rfl rfl rfl ⟨rfl, rfl, rfl, rfl, rfl⟩ rfl rfl rfl rfl rfl (by kernel_rfl) Try.func6 (by kernel_rfl)
    (of_decide_eq_true (by kernel_rfl)) (by unfold Func.isWrapper; first | (rw [if_pos (by decide +kernel)]; kernel_rfl) | (rw [if_neg (by decide +kernel)]; exact ⟨rfl, rfl⟩))
    (fun os started H enc _ => lifted os started H enc)

theorem proved : Rows.AdlerSeesSaid := over
#print axioms proved
end Go.Proofs.Ytgfdinclhakjhaa.adlersees
