/- The document's own Same, and the law's small and numbers. -/
import Derived.Test.YtjbjfoingpnlmaaRVt2
import Derived.Test.YtjbjfoingpnlmaaRVt3
namespace Go.Proofs.Ytjbjfoingpnlmaa
open Go.RowKit
set_option linter.unusedVariables false
set_option linter.unusedSimpArgs false

theorem ret_vb {a b : Bool} (h : a = b) : Ending.returned (.bool a) = .returned (.bool b) := by rw [h]
set_option maxHeartbeats 1000000 in
theorem rsame11_any (t t' : VT) (c c' : VC) (w : World) (hv : ValIs w t c) (hv' : ValIs w t' c') :
    Calls Try.prog 18 #[c.val, c'.val] w fun e w' => e = .returned (.bool (decide (cmpT t t' = 0))) ∧ Chg NoS w w' := by
  have HC := keepf (fun W (h : ValIs W t c) (h' : ValIs W t' c') => rcmp_any t t' c c' W h h')
  have HV := keepf hv
  have HV' := keepf hv'
  obtain ⟨z, hz⟩ : ∃ z, cmpT t t' = z := ⟨_, rfl⟩
  rw [hz] at HC ⊢
  obtain ⟨k, n, s, A, len, cap⟩ := c
  obtain ⟨k', n', s', A', len', cap'⟩ := c'
  unfold VC.val at HC ⊢
  simp only [] at HC ⊢
  clear hv hv' hz
  have HB := keepf ((Blk.new w 24 #[.int .i64 k, .int .i64 n, .string s, .slice A len cap]).alloc (.cells #[.int .i64 k', .int .i64 n', .string s', .slice A' len' cap'] 24))
  have HB' := keepf (Blk.new (w.alloc (.cells #[.int .i64 k, .int .i64 n, .string s, .slice A len cap] 24)) 24 #[.int .i64 k', .int .i64 n', .string s', .slice A' len' cap'])
  have hs1 : (w.alloc (.cells #[.int .i64 k, .int .i64 n, .string s, .slice A len cap] 24)).heap.size = w.heap.size + 1 := by simp
  rw [hs1] at HB'
  have HC0 := keepf (((Chg.refl NoS w).alloc (.cells #[.int .i64 k, .int .i64 n, .string s, .slice A len cap] 24)).alloc (.cells #[.int .i64 k', .int .i64 n', .string s', .slice A' len' cap'] 24))
  by_cases h0 : z = 0
  · subst h0
    go_enter Try.func18, Try.ntmps18
    go_upto_region 1 with fail
    obtain ⟨W0, hW⟩ : ∃ W, W = ((w.alloc (.cells #[.int .i64 k, .int .i64 n, .string s, .slice A len cap] 24)).alloc (.cells #[.int .i64 k', .int .i64 n', .string s', .slice A' len' cap'] 24)) := ⟨_, rfl⟩
    rw [← hW] at HB HB' HC0 ⊢
    clear hW hs1
    have p0 := HB.out.cell 0
    have p1 := HB.out.cell 1
    have p2 := HB.out.cell 2
    have p3 := HB.out.cell 3
    have q0 := HB'.out.cell 0
    have q1 := HB'.out.cell 1
    have q2 := HB'.out.cell 2
    have q3 := HB'.out.cell 3
    simp at p0 p1 p2 p3 q0 q1 q2 q3
    go_wp2_with (go_at_call 16; refine (HC.out _ (HV.out.chg HC0.out) (HV'.out.chg HC0.out)).mono ?_; rintro e w2 ⟨rfl, hc2⟩; have HC2 := keepf (HC0.out.trans hc2 (fun _ _ e => e)); clear hc2)
    go_ret
    exact ⟨rfl, HC2.out⟩
  · have HD := keepf (show decide (z = 0) = false from by simpa using h0)
    have e0 : (z == 0) = false := by simpa using h0
    clear h0
    go_enter Try.func18, Try.ntmps18
    go_upto_region 1 with fail
    obtain ⟨W0, hW⟩ : ∃ W, W = ((w.alloc (.cells #[.int .i64 k, .int .i64 n, .string s, .slice A len cap] 24)).alloc (.cells #[.int .i64 k', .int .i64 n', .string s', .slice A' len' cap'] 24)) := ⟨_, rfl⟩
    rw [← hW] at HB HB' HC0 ⊢
    clear hW hs1
    have p0 := HB.out.cell 0
    have p1 := HB.out.cell 1
    have p2 := HB.out.cell 2
    have p3 := HB.out.cell 3
    have q0 := HB'.out.cell 0
    have q1 := HB'.out.cell 1
    have q2 := HB'.out.cell 2
    have q3 := HB'.out.cell 3
    simp at p0 p1 p2 p3 q0 q1 q2 q3
    go_wp2_with (go_at_call 16; refine (HC.out _ (HV.out.chg HC0.out) (HV'.out.chg HC0.out)).mono ?_; rintro e w2 ⟨rfl, hc2⟩; have HC2 := keepf (HC0.out.trans hc2 (fun _ _ e => e)); clear hc2)
    go_ret
    exact ⟨ret_vb HD.out.symm, HC2.out⟩

set_option maxHeartbeats 1000000 in
theorem small_any (t : VT) (c : VC) (w : World) (hv : ValIs w t c) :
    Calls Try.prog 9 #[c.val] w fun e w' => e = .returned (.bool (decide (0 ≤ fewT t 300))) ∧ Chg NoS w w' := by
  have HF := keepf (fun W (h : ValIs W t c) => rfew_any t c 300 W h (by decide) (by decide))
  have HV := keepf hv
  obtain ⟨z, hz⟩ : ∃ z, fewT t 300 = z := ⟨_, rfl⟩
  rw [hz] at HF ⊢
  obtain ⟨k, n, s, A, len, cap⟩ := c
  unfold VC.val at HF ⊢
  simp only [] at HF ⊢
  clear hv hz
  have HB := keepf (Blk.new w 24 #[.int .i64 k, .int .i64 n, .string s, .slice A len cap])
  have HC0 := keepf ((Chg.refl NoS w).alloc (.cells #[.int .i64 k, .int .i64 n, .string s, .slice A len cap] 24))
  have HD : Hid (∀ b, decide (0 ≤ z) = b → (decide (z ≥ 0)) = b) := fun b h => h
  obtain ⟨b, hb⟩ : ∃ b, decide (0 ≤ z) = b := ⟨_, rfl⟩
  rw [hb]
  go_enter Try.func9, Try.ntmps9
  go_upto_region 1 with fail
  obtain ⟨W0, hW⟩ : ∃ W, W = w.alloc (.cells #[.int .i64 k, .int .i64 n, .string s, .slice A len cap] 24) := ⟨_, rfl⟩
  rw [← hW] at HB HC0 ⊢
  clear hW
  have p0 := HB.out.cell 0
  have p1 := HB.out.cell 1
  have p2 := HB.out.cell 2
  have p3 := HB.out.cell 3
  simp at p0 p1 p2 p3
  go_wp2_with (go_at_call 30; refine (HF.out _ (HV.out.chg HC0.out)).mono ?_; rintro e w2 ⟨rfl, hc2⟩; have HC2 := keepf (HC0.out.trans hc2 (fun _ _ e => e)); clear hc2)
  go_ret
  exact ⟨rfl, HC2.out⟩
end Go.Proofs.Ytjbjfoingpnlmaa
