/- The small question that every statement of huff asks: four codes. -/
import Derived.Test.YtkhhiaggmncehaaCodes
import Derived.Test.YtkhhiaggmncehaaGetH
namespace Go.Proofs.Ytkhhiaggmncehaa
open Go.RowKit
set_option linter.unusedVariables false
set_option linter.unusedSimpArgs false

theorem alloc_size (w : World) (o : Obj) : (w.alloc o).heap.size = w.heap.size + 1 := by
  show (w.heap.push o).size = _
  simp

def ls0 : List Int := [2, 1, 3, 3]
theorem may0 : May ls0 := by decide
theorem codes0 : codesOf ls0 = [2, 0, 6, 7] := by decide
theorem in0 : in64 ls0 := by
  intro z hz
  simp [ls0] at hz
  omega
theorem no0 : ∀ m : Nat, m < 3 → ∀ q : Nat, q < 4 → ¬ (m ≠ 0 ∧ ls0[q]? = some (m : Int) ∧ cd ls0 q = vl ((leftBits true [192] 0).take m)) := by decide
theorem hit0 : ls0[(2 : Nat)]? = some ((3 : Nat) : Int) ∧ cd ls0 2 = vl ((leftBits true [192] 0).take 3) ∧ 3 ≤ (leftBits true [192] 0).length := by decide
theorem out0 : Out ls0 (leftBits true [192] 0) 2 3 0 := by
  refine .ok 3 2 ⟨by decide, hit0.2.2, hit0.1, hit0.2.1⟩ (fun m q hm hh => ?_)
  have hq : q < 4 := (List.getElem?_eq_some_iff.1 hh.2.2.1).1
  exact no0 m hm q hq ⟨hh.1, hh.2.2.1, hh.2.2.2⟩

theorem src_lit4 (w : World) : Src (w.alloc (.cells #[.int .i64 2, .int .i64 1, .int .i64 3, .int .i64 3] 3)) 1 (some ⟨w.heap.size, 0, none⟩) ls0.length 4 (icells ls0) := by
  refine ⟨rfl, fun h => (by cases h), fun ad had j u hu => ?_⟩
  cases had
  rw [Addr.add_mid, Nat.zero_add, (Blk.new w 3 _).cell]
  match j, hu with
  | 0, hu => exact hu
  | 1, hu => exact hu
  | 2, hu => exact hu
  | 3, hu => exact hu
  | j + 4, hu => simp [icells, ls0] at hu
theorem src_lit1 (w : World) : Src (w.alloc (.cells #[.int .u8 192] 5)) 1 (some ⟨w.heap.size, 0, none⟩) [192].length 1 (ucells [192]) := by
  refine ⟨rfl, fun h => (by cases h), fun ad had j u hu => ?_⟩
  cases had
  rw [Addr.add_mid, Nat.zero_add, (Blk.new w 5 _).cell]
  match j, hu with
  | 0, hu => exact hu
  | j + 1, hu => simp [ucells] at hu

set_option maxHeartbeats 2000000 in
set_option maxRecDepth 100000 in
theorem works_any4 (w : World) : Calls Try.prog 8 #[] w fun e w' => e = .returned (.bool true) ∧ Chg NoS w w' := by
  have HC0 := keepf (codes_ok ls0 (some ⟨w.heap.size, 0, none⟩) 4 _ may0 in0 (src_lit4 w))
  go_enter Try.func8, Try.ntmps8
  go_upto_region 3 with (first
    | (go_at_call 9; refine HC0.out.mono ?_; rintro e w2 ⟨A2, c2, rfl, ho2, hc2, hf2⟩; have HO2 := keepf ho2; have HC2 := keepf hc2; have HN1 := keepf (new_ok ls0 (some ⟨w2.heap.size, 0, none⟩) 4 _ may0 in0 (src_lit4 w2)); clear ho2 hc2 hf2)
    | (go_at_call 13; refine HN1.out.mono ?_; rintro e w3 ⟨g3, rfl, ht3, hc3, hg3⟩; have HT3 := keepf ht3; have HC3 := keepf hc3; have HG3 := keepf hg3; clear ht3 hc3 hg3))
  obtain ⟨ga, ca, hv, _, _⟩ := own_form HO2.out (by decide)
  simp only [Value.slice.injEq] at hv
  obtain ⟨rfl, _, rfl⟩ := hv
  have HC23 : Hid (Chg NoS w2 w3) := ((Chg.refl NoS w2).alloc _).trans HC3.out (fun _ _ h => h)
  have c0 := (own_chg HO2.out HC23.out (fun _ _ h => h)).cellAt 0 (by decide)
  have c3 := (own_chg HO2.out HC23.out (fun _ _ h => h)).cellAt 3 (by decide)
  rw [codes0] at c0 c3
  simp [ccells] at c0 c3
  have hl4 : ls0.length = 4 := rfl
  rw [hl4]
  go_upto_region 5 with fail
  have HRD := keepf (read_any true [192] (some ⟨w3.heap.size, 0, none⟩) 1 _ (src_lit1 w3) (by decide))
  have HT3' := HT3.out
  go_upto_region 6 with (first
    | (go_at_call 14; refine HRD.out.mono ?_; rintro e w4 ⟨gr, S, rfl, hrd, hc4, hg4, hs4⟩; have hgr : g3 ≠ gr := (by have := HT3.out.lt; have hz : (w3.alloc (.cells #[.int .u8 192] 5)).heap.size = w3.heap.size + 1 := alloc_size _ _; omega); have HC4 := keepf (((Chg.refl NoS w3).alloc (.cells #[.int .u8 192] 5)).trans hc4 (fun _ _ h => h)); have HG := keepf (tget_any g3 gr 0 true [192] ls0 S w4 may0 (HT3.out.chg HC4.out (fun h => h)) hrd (by decide) (by decide) (by decide) hgr (fun h => hs4 g3 (by have := HT3.out.lt; have hz : (w3.alloc (.cells #[.int .u8 192] 5)).heap.size = w3.heap.size + 1 := alloc_size _ _; omega) h) (own_ne_blk hrd.2 hrd.1 (by decide))); have HGR := keepf hg4; clear hrd hc4 hg4 hs4)
    | (go_at_call 16; refine HG.out.mono ?_; rintro e w5 ⟨s, n, c, rfl, ho5, hr5, hc5⟩; obtain ⟨rfl, rfl, rfl⟩ := ho5.one out0; have HC5 := keepf hc5; clear ho5 hr5 hc5))
  go_wp2_with fail
  go_ret
  have hz : (w3.alloc (.cells #[.int .u8 192] 5)).heap.size = w3.heap.size + 1 := alloc_size _ _
  have h1 : Chg NoS w w2 := ((Chg.refl NoS w).alloc _).trans HC2.out (fun _ _ h => h)
  have h2 := (h1.trans HC23.out (fun _ _ h => h)).trans HC4.out (fun _ _ h => h)
  have h3 := (h1.trans HC23.out (fun _ _ h => h)).size
  exact ⟨rfl, h2.trans HC5.out (fun i hi e => by have := HGR.out; omega)⟩
end Go.Proofs.Ytkhhiaggmncehaa
