/- 'LzMatches': for every input the statement's function returns true: how many bytes repeat anywhere is as the document says. Conditions: none. -/
import Derived.Test.YtomkejeofcpchaaLzIn
import Derived.Test.YtomkejeofcpchaaRows
import Derived.OpenShut
import Derived.ChangeOld
import Derived.Lib.SmallJoins
import Derived.Deep.RegionHeld3
import Derived.Deep.RegionWith
namespace Go.Proofs.Ytomkejeofcpchaa.lzmatches
open Go.RowKit Go.ChangeShapes Go.WideShapes Go.ChangeAt
set_option linter.unusedVariables false

theorem own : ownKnob Try.prog.godebug = none := by kernel_rfl
theorem laidOut : laidOutB Try.prog = true := by kernel_rfl

set_option maxHeartbeats 4000000 in
set_option maxRecDepth 100000 in
theorem walk (A : Option Addr) (len cap : Nat) (bs : List Nat) (a f m : Int) (w : World)
    (hl : bs.length = len) (hm : len ≤ maxLen) (hS : Src w 1 A len cap (bs.flatMap encO)) (hg : ∀ p ∈ bs, p < 256) (hc : len ≤ cap) (ba : -9223372036854775808 ≤ a ∧ a ≤ 9223372036854775807) (bf : -9223372036854775808 ≤ f ∧ f ≤ 9223372036854775807) (bm : -9223372036854775808 ≤ m ∧ m ≤ 9223372036854775807) :
    Calls Try.prog 5 #[.slice A len cap, .agg #[.int .i64 a, .int .i64 f, .int .i64 m]] w fun e w' => e = .returned (.bool true) ∧ Below w.heap.size w w' := by
  rw [flat_bytesO] at hS
  subst hl
  have HS := keepf (fun (W : World) (h : Chg NoS w W) => Src.below (w0 := w) hS h)
  have hm2 := hm
  unfold maxLen at hm2
  by_cases hle : bs.length ≤ 3000
  · have d1 : decide ((3000 : Int) < bs.length) = false := by simp; omega
    have H1 := keepf (fun (W : World) (h : Chg NoS w W) => show Calls Try.prog 14 #[.slice A bs.length cap, .int .i64 a, .int .i64 f, .int .i64 m] W fun e w' => e = .returned (.int .i64 (mtI bs a f m)) ∧ Chg NoS W w' from (match_any bs A cap a f m W (HS.out W h) hm hc bm.2).mono fun e w' ⟨h1, q, h2⟩ => ⟨h1, by rw [h2]; exact (Chg.refl _ _).drewN q⟩)
    have H2 := keepf (fun (W : World) (h : Chg NoS w W) => show Calls Try.prog 15 #[.slice A bs.length cap, .int .i64 a, .int .i64 f, .int .i64 m] W fun e w' => e = .returned (.int .i64 (mtI bs a f m)) ∧ Chg NoS W w' from (rmatch_any bs A cap a f m W (HS.out W h) hm bm.2).mono fun e w' ⟨h1, q, h2⟩ => ⟨h1, by rw [h2]; exact (Chg.refl _ _).drewN q⟩)
    obtain ⟨n, hn⟩ : ∃ n, n = bs.length := ⟨_, rfl⟩
    obtain ⟨r, hr⟩ : ∃ r, mtI bs a f m = r := ⟨_, rfl⟩
    rw [← hn] at H1 H2 d1 ⊢
    rw [hr] at H1 H2
    clear hS hm hm2 hn hr hc HS hg hle ba bf bm
    go_enter Try.func5, Try.ntmps5
    go_upto_region 3 with fail
    have c0 : (w.alloc (.cells #[.int .i64 a, .int .i64 f, .int .i64 m] 37)).cell? ⟨w.heap.size, 0, none⟩ = some (.int .i64 a) := (Blk.new w 37 #[.int .i64 a, .int .i64 f, .int .i64 m]).cell 0
    have c1 : (w.alloc (.cells #[.int .i64 a, .int .i64 f, .int .i64 m] 37)).cell? ⟨w.heap.size, 1, none⟩ = some (.int .i64 f) := (Blk.new w 37 #[.int .i64 a, .int .i64 f, .int .i64 m]).cell 1
    have c2 : (w.alloc (.cells #[.int .i64 a, .int .i64 f, .int .i64 m] 37)).cell? ⟨w.heap.size, 2, none⟩ = some (.int .i64 m) := (Blk.new w 37 #[.int .i64 a, .int .i64 f, .int .i64 m]).cell 2
    have HC0 := keepf (((Chg.refl NoS w).alloc (.cells #[.int .i64 a, .int .i64 f, .int .i64 m] 37)))
    obtain ⟨W0, hW0⟩ : ∃ W0, W0 = w.alloc (.cells #[.int .i64 a, .int .i64 f, .int .i64 m] 37) := ⟨_, rfl⟩
    have hlt : w.heap.size < W0.heap.size := by rw [hW0]; simp
    rw [← hW0] at c0 c1 c2 HC0 ⊢
    clear hW0
    first
      | (go_loud (go_region_held3 (fun w' => w'.cell? ⟨w.heap.size, 0, none⟩ = some (.int .i64 a) ∧ w'.cell? ⟨w.heap.size, 1, none⟩ = some (.int .i64 f) ∧ w'.cell? ⟨w.heap.size, 2, none⟩ = some (.int .i64 m))
          (first | (go_keep; done) | (go_split_ands; exact ⟨by assumption, by assumption, by assumption⟩))
          (first
            | (go_at_call 14; refine (H1.out _ HC0.out.drew).mono ?_; rintro e w5 ⟨rfl, hc5⟩; have HC5 := keepf (HC0.out.drew.trans hc5 (fun _ _ h => h)); have q0 := (hc5.cell (p := ⟨w.heap.size, 0, none⟩) (by exact hlt) (fun h => h)).trans c0; have q1 := (hc5.cell (p := ⟨w.heap.size, 1, none⟩) (by exact hlt) (fun h => h)).trans c1; have q2 := (hc5.cell (p := ⟨w.heap.size, 2, none⟩) (by exact hlt) (fun h => h)).trans c2; have hlt5 := Nat.lt_of_lt_of_le hlt hc5.size; clear hc5)
            | (go_at_call 15; refine (H2.out _ HC5.out).mono ?_; rintro e w6 ⟨rfl, hc6⟩; have HC6 := keepf (HC5.out.trans hc6 (fun _ _ h => h)); have r0 := (hc6.cell (p := ⟨w.heap.size, 0, none⟩) (by exact hlt5) (fun h => h)).trans q0; have r1 := (hc6.cell (p := ⟨w.heap.size, 1, none⟩) (by exact hlt5) (fun h => h)).trans q1; have r2 := (hc6.cell (p := ⟨w.heap.size, 2, none⟩) (by exact hlt5) (fun h => h)).trans q2; have hlt6 := Nat.lt_of_lt_of_le hlt5 hc6.size; clear hc6)
            | (go_at_call 7; refine (works_any6 _).mono ?_; rintro e w7 ⟨rfl, hc7⟩; have HC7 := keepf (HC6.out.trans hc7 (fun _ _ h => h)); have s0 := (hc7.cell (p := ⟨w.heap.size, 0, none⟩) (by exact hlt6) (fun h => h)).trans r0; have s1 := (hc7.cell (p := ⟨w.heap.size, 1, none⟩) (by exact hlt6) (fun h => h)).trans r1; have s2 := (hc7.cell (p := ⟨w.heap.size, 2, none⟩) (by exact hlt6) (fun h => h)).trans r2; clear hc7))))
      | fail "region"
    go_wp2_with fail
    go_ret
    exact ⟨rfl, HC7.out.no_below⟩
  · have d1 : decide ((3000 : Int) < bs.length) = true := by simp; omega
    have d1' : decide (3000 < bs.length) = true := by simp; omega
    go_enter Try.func5, Try.ntmps5
    go_wp2_with (go_at_call 7; refine (works_any6 _).mono ?_; rintro e wz ⟨rfl, hcz⟩; have HCz := keepf hcz; clear hcz)
    go_ret
    exact ⟨rfl, (((Chg.refl NoS w).alloc _).trans HCz.out (fun _ _ h => h)).no_below⟩


set_option maxRecDepth 100000 in
theorem lifted (os : Os) (started : os.Started) (H : Type) (enc : TypeId × Value → H) :
    ReturnsInHanded {} Try.checked os 5 .any (Rows.lzMatchesSpec.pre6 enc Try.prog Try.f5 Rows.lzMatchesRow.domain false) (Rows.lzMatchesSpec.post enc Try.prog Try.f5 false true false false) := by
  refine returnsInHanded_of_change (C := Try.checked) own started (by kernel_rfl) Try.func5
    (ChangeSpec.witness6 (enc := enc) (C := Try.checked) false ⟨#[], #[.slice none 0 0, .agg #[.int .i64 0, .int .i64 0, .int .i64 0]], []⟩ 8 (by kernel_rfl) (by kernel_rfl) (by kernel_rfl) (by kernel_rfl)) ?_
  intro W base args ds gs before hval0 hW hcnd _
  have hval : ∀ (j : Nat) t v, Try.f5.params[j]? = some t → args[j]? = some v → Value.okWide Try.prog W .any base t v := hval0
  have hW' := hW
  obtain ⟨p, q, hA0, hV, rfl, hfz, hnd⟩ := hW
  have hA : DataW.TrodAll enc Try.prog W 0 (fun _ => true) true Try.f5.params.toList args.toList ds p := hA0
  rw [Try.params5] at hA hval
  obtain ⟨v0, vs0, d0, ds0, p0, q0, hargs, rfl, rfl, h0, r0⟩ := trodAll_cons hA
  obtain ⟨v1, vs1, d1, ds1, p1, q1, rfl, rfl, rfl, h1, r1⟩ := trodAll_cons r0
  obtain ⟨rfl, rfl, rfl⟩ := trodAll_nil r1
  obtain rfl : args = #[v0, v1] := by cases args; simp_all
  obtain ⟨rfl, rfl⟩ := trodVars_none hV
  obtain ⟨a0, len0, cap0, rfl⟩ := okWide_slice Try.underlying24 (hval 0 24 v0 rfl rfl)
  have k0 := h0
  have lt0 : ∀ x ∈ p0, x.block < W.heap.size := by obtain ⟨m, hm⟩ := k0; exact DataW.trod_lt m _ _ _ hm
  obtain ⟨hm0, xs0, hl0, hS0, hg0⟩ : len0 ≤ maxLen ∧ ∃ xs : List Nat, xs.length = len0 ∧ Src W 1 a0 len0 cap0 (xs.flatMap encO) ∧ ∀ b ∈ xs, (fun p : Nat => p < 256) b := by
    obtain ⟨fuel, hf⟩ := h0
    exact open_rows encO (fun p : Nat => p < 256) 1 Try.underlying24 (by kernel_rfl) (fun _ => rfl) (fun n cs y h _ => byte_elO h) (by simpa [Value.cells] using hf)
  have hc0 : len0 ≤ cap0 := by
    obtain ⟨fuel, hf⟩ := h0
    exact open_capO Try.underlying24 (by simpa [Value.cells] using hf)
  have k1 := h1
  have lt1 : ∀ x ∈ p1, x.block < W.heap.size := by obtain ⟨m, hm⟩ := k1; exact DataW.trod_lt m _ _ _ hm
  obtain ⟨za1, zb1, zc1, rfl, ga1, gb1, gc1⟩ := open_arr3 (hval 1 37 v1 rfl rfl) h1
  clear hA0 hval0
  refine (walk a0 len0 cap0 xs0 za1 zb1 zc1 W hl0 hm0 hS0 hg0 hc0 ga1 gb1 gc1).mono fun e W' ⟨he, bel⟩ => ?_
  subst he
  exact ⟨_, rfl, _, _, _, [], _, [], hW', trodAll_mk1 (shut_bool Try.underlying4 _), (trodAll_cons_mk (Below.trod laidOut (by kernel_rfl) (of_decide_eq_true (by kernel_rfl)) k0 bel lt0) (trodAll_cons_mk (Below.trod laidOut (by kernel_rfl) (of_decide_eq_true (by kernel_rfl)) k1 bel lt1) trodAll_mk0)), rfl, bel.frame _, fun h => by cases h⟩

theorem over : Rows.lzMatchesRow.holds Try.pinned (OpenSpec.ofChange Rows.lzMatchesSpec) :=
  OpenClaim.holds_of_wide 5 Try.f5 rfl rfl rfl rfl rfl rfl rfl ⟨rfl, rfl, rfl, rfl, rfl⟩ rfl rfl rfl rfl rfl (by kernel_rfl) Try.func5 (by kernel_rfl)
    (of_decide_eq_true (by kernel_rfl)) (by unfold Func.isWrapper; first | (rw [if_pos (by decide +kernel)]; kernel_rfl) | (rw [if_neg (by decide +kernel)]; exact ⟨rfl, rfl⟩))
    (fun os started H enc _ => lifted os started H enc)

theorem proved : Rows.LzMatchesSaid := over
#print axioms proved
end Go.Proofs.Ytomkejeofcpchaa.lzmatches
