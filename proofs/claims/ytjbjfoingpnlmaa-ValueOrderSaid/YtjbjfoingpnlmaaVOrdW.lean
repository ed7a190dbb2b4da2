/- The walk of ValueOrder: of any three values the order is total (written by mkvord.py). -/
import Derived.Test.YtjbjfoingpnlmaaVOk
import Derived.Test.YtjbjfoingpnlmaaValO
import Derived.Deep.RegionHeld3
import Derived.BigRegion
namespace Go.Proofs.Ytjbjfoingpnlmaa
open Go.RowKit
set_option linter.unusedVariables false
set_option linter.unusedSimpArgs false
/-- Three values' boxes. -/
structure VSt3 (w : World) (g g2 g3 : Nat) (cs cs2 cs3 : Array Value) (W : World) : Prop where
  b : Blk W g 24 cs
  d : Blk W g2 24 cs2
  f : Blk W g3 24 cs3
  chg : Chg NoS w W
theorem VSt3.call {w W W' : World} {g g2 g3 : Nat} {cs cs2 cs3 : Array Value} (h : VSt3 w g g2 g3 cs cs2 cs3 W) (hc : Chg NoS W W') : VSt3 w g g2 g3 cs cs2 cs3 W' := ⟨h.b.chg hc (fun e => e), h.d.chg hc (fun e => e), h.f.chg hc (fun e => e), h.chg.trans hc (fun _ _ e => e)⟩
theorem VSt3.drew {w W : World} {g g2 g3 : Nat} {cs cs2 cs3 : Array Value} (h : VSt3 w g g2 g3 cs cs2 cs3 W) : VSt3 w g g2 g3 cs cs2 cs3 W.drew := ⟨h.b, h.d, h.f, h.chg.drew⟩
theorem VSt3.cells {w W : World} {g g2 g3 : Nat} {a b c d a' b' c' d' a2 b2 c2 d2 : Value} (h : VSt3 w g g2 g3 #[a, b, c, d] #[a', b', c', d'] #[a2, b2, c2, d2] W) : W.cell? ⟨g, 0, none⟩ = some a ∧ W.cell? ⟨g, 1, none⟩ = some b ∧ W.cell? ⟨g, 2, none⟩ = some c ∧ W.cell? ⟨g, 3, none⟩ = some d ∧ W.cell? ⟨g2, 0, none⟩ = some a' ∧ W.cell? ⟨g2, 1, none⟩ = some b' ∧ W.cell? ⟨g2, 2, none⟩ = some c' ∧ W.cell? ⟨g2, 3, none⟩ = some d' ∧ W.cell? ⟨g3, 0, none⟩ = some a2 ∧ W.cell? ⟨g3, 1, none⟩ = some b2 ∧ W.cell? ⟨g3, 2, none⟩ = some c2 ∧ W.cell? ⟨g3, 3, none⟩ = some d2 := by
  have x0 := h.b.cell 0
  have x1 := h.b.cell 1
  have x2 := h.b.cell 2
  have x3 := h.b.cell 3
  have y0 := h.d.cell 0
  have y1 := h.d.cell 1
  have y2 := h.d.cell 2
  have y3 := h.d.cell 3
  have z0 := h.f.cell 0
  have z1 := h.f.cell 1
  have z2 := h.f.cell 2
  have z3 := h.f.cell 3
  simp at x0 x1 x2 x3 y0 y1 y2 y3 z0 z1 z2 z3
  exact ⟨x0, x1, x2, x3, y0, y1, y2, y3, z0, z1, z2, z3⟩
theorem VSt3.of_ {w : World} {g g2 g3 : Nat} {cs cs2 cs3 : Array Value} {f : FuncId} {args : Array Value} {v : Value} (H : ∀ W, Chg NoS w W → Calls Try.prog f args W fun e w' => e = .returned v ∧ Chg NoS W w') (W : World) (h : VSt3 w g g2 g3 cs cs2 cs3 W) : Calls Try.prog f args W fun e w' => e = .returned v ∧ VSt3 w g g2 g3 cs cs2 cs3 w' :=
  (H W h.chg).mono fun _ _ ⟨he, hc⟩ => ⟨he, h.call hc⟩
set_option maxHeartbeats 8000000 in
set_option maxRecDepth 100000 in
theorem order_no1 (H : ValOk) (t t' t2 : VT) (c c' c2 : VC) (w : World) (hv : ValIs w t c) (hv' : ValIs w t' c') (hv2 : ValIs w t2 c2) (hsm1 : ¬ 0 ≤ fewT t 300) :
    Calls Try.prog 5 #[c.val, c'.val, c2.val] w fun e w' => e = .returned (.bool true) ∧ Chg NoS w w' := by
  have K1 := fun (W : World) (h : Chg NoS w W) => small_any t c W (hv.chg h)
  have K2 := fun (W : World) (h : Chg NoS w W) => small_any t' c' W (hv'.chg h)
  have K3 := fun (W : World) (h : Chg NoS w W) => small_any t2 c2 W (hv2.chg h)
  obtain ⟨k, n, s, A, len, cap⟩ := c
  obtain ⟨k', n', s', A', len', cap'⟩ := c'
  obtain ⟨k2, n2, s2, A2, len2, cap2⟩ := c2
  obtain ⟨cs, hcs⟩ : ∃ cs : Array Value, cs = #[.int .i64 k, .int .i64 n, .string s, .slice A len cap] := ⟨_, rfl⟩
  obtain ⟨cs2, hcs2⟩ : ∃ cs : Array Value, cs = #[.int .i64 k', .int .i64 n', .string s', .slice A' len' cap'] := ⟨_, rfl⟩
  obtain ⟨cs3, hcs3⟩ : ∃ cs : Array Value, cs = #[.int .i64 k2, .int .i64 n2, .string s2, .slice A2 len2 cap2] := ⟨_, rfl⟩
  obtain ⟨W, hW⟩ : ∃ W, W = ((w.alloc (.cells #[.int .i64 k, .int .i64 n, .string s, .slice A len cap] 24)).alloc (.cells #[.int .i64 k', .int .i64 n', .string s', .slice A' len' cap'] 24)).alloc (.cells #[.int .i64 k2, .int .i64 n2, .string s2, .slice A2 len2 cap2] 24) := ⟨_, rfl⟩
  obtain ⟨g, hg⟩ : ∃ g, g = w.heap.size := ⟨_, rfl⟩
  obtain ⟨g2, hg2⟩ : ∃ g, g = w.heap.size + 1 := ⟨_, rfl⟩
  obtain ⟨g3, hg3⟩ : ∃ g, g = w.heap.size + 1 + 1 := ⟨_, rfl⟩
  have hs1 : (w.alloc (.cells #[.int .i64 k, .int .i64 n, .string s, .slice A len cap] 24)).heap.size = w.heap.size + 1 := by simp
  have hs2 : ((w.alloc (.cells #[.int .i64 k, .int .i64 n, .string s, .slice A len cap] 24)).alloc (.cells #[.int .i64 k', .int .i64 n', .string s', .slice A' len' cap'] 24)).heap.size = w.heap.size + 1 + 1 := by simp
  have hst : VSt3 w g g2 g3 cs cs2 cs3 W := ⟨by rw [hcs, hW, hg]; exact ((Blk.new w _ _).alloc _).alloc _, by rw [hcs2, hW, hg2, ← hs1]; exact (Blk.new _ _ _).alloc _, by rw [hcs3, hW, hg3, ← hs2]; exact Blk.new _ _ _, by rw [hW]; exact (((Chg.refl NoS w).alloc _).alloc _).alloc _⟩
  have hst2 := hst.drew
  have KW := keepf (VSt3.of_ (w := w) (g := g) (g2 := g2) (g3 := g3) (cs := cs) (cs2 := cs2) (cs3 := cs3) (fun W _ => H.works W))
  rw [show decide (0 ≤ fewT t 300) = false from by simpa using hsm1] at K1
  have KS1 := keepf (VSt3.of_ (w := w) (g := g) (g2 := g2) (g3 := g3) (cs := cs) (cs2 := cs2) (cs3 := cs3) K1)
  unfold VC.val at KS1 ⊢
  simp only [] at KS1 ⊢
  clear hv hv' hv2 H K1 K2 K3 hsm1
  go_enter Try.func5, Try.ntmps5
  go_upto_region 1 with fail
  rw [← hW, ← hg3, ← hg2, ← hg]
  clear hW hg hg2 hg3 hs1 hs2
  subst hcs hcs2 hcs3
  obtain ⟨p0, p1, p2, p3, q0, q1, q2, q3, r0, r1, r2, r3⟩ := hst.cells
  go_wp2_with first
    | (go_at_call 9; with_reducible refine (KS1.out _ (by assumption)).mono ?_; rintro e wq ⟨rfl, hq⟩; obtain ⟨_, _, _, _, _, _, _, _, _, _, _, _⟩ := hq.cells)
    | (go_at_call 14; with_reducible refine (KW.out _ (by assumption)).mono ?_; rintro e wq ⟨rfl, hq⟩; obtain ⟨_, _, _, _, _, _, _, _, _, _, _, _⟩ := hq.cells)
  go_ret
  exact ⟨rfl, (by assumption : VSt3 w g g2 g3 #[.int .i64 k, .int .i64 n, .string s, .slice A len cap] #[.int .i64 k', .int .i64 n', .string s', .slice A' len' cap'] #[.int .i64 k2, .int .i64 n2, .string s2, .slice A2 len2 cap2] _).chg⟩
set_option maxHeartbeats 8000000 in
set_option maxRecDepth 100000 in
theorem order_no2 (H : ValOk) (t t' t2 : VT) (c c' c2 : VC) (w : World) (hv : ValIs w t c) (hv' : ValIs w t' c') (hv2 : ValIs w t2 c2) (hsm1 : 0 ≤ fewT t 300) (hsm2 : ¬ 0 ≤ fewT t' 300) :
    Calls Try.prog 5 #[c.val, c'.val, c2.val] w fun e w' => e = .returned (.bool true) ∧ Chg NoS w w' := by
  have K1 := fun (W : World) (h : Chg NoS w W) => small_any t c W (hv.chg h)
  have K2 := fun (W : World) (h : Chg NoS w W) => small_any t' c' W (hv'.chg h)
  have K3 := fun (W : World) (h : Chg NoS w W) => small_any t2 c2 W (hv2.chg h)
  obtain ⟨k, n, s, A, len, cap⟩ := c
  obtain ⟨k', n', s', A', len', cap'⟩ := c'
  obtain ⟨k2, n2, s2, A2, len2, cap2⟩ := c2
  obtain ⟨cs, hcs⟩ : ∃ cs : Array Value, cs = #[.int .i64 k, .int .i64 n, .string s, .slice A len cap] := ⟨_, rfl⟩
  obtain ⟨cs2, hcs2⟩ : ∃ cs : Array Value, cs = #[.int .i64 k', .int .i64 n', .string s', .slice A' len' cap'] := ⟨_, rfl⟩
  obtain ⟨cs3, hcs3⟩ : ∃ cs : Array Value, cs = #[.int .i64 k2, .int .i64 n2, .string s2, .slice A2 len2 cap2] := ⟨_, rfl⟩
  obtain ⟨W, hW⟩ : ∃ W, W = ((w.alloc (.cells #[.int .i64 k, .int .i64 n, .string s, .slice A len cap] 24)).alloc (.cells #[.int .i64 k', .int .i64 n', .string s', .slice A' len' cap'] 24)).alloc (.cells #[.int .i64 k2, .int .i64 n2, .string s2, .slice A2 len2 cap2] 24) := ⟨_, rfl⟩
  obtain ⟨g, hg⟩ : ∃ g, g = w.heap.size := ⟨_, rfl⟩
  obtain ⟨g2, hg2⟩ : ∃ g, g = w.heap.size + 1 := ⟨_, rfl⟩
  obtain ⟨g3, hg3⟩ : ∃ g, g = w.heap.size + 1 + 1 := ⟨_, rfl⟩
  have hs1 : (w.alloc (.cells #[.int .i64 k, .int .i64 n, .string s, .slice A len cap] 24)).heap.size = w.heap.size + 1 := by simp
  have hs2 : ((w.alloc (.cells #[.int .i64 k, .int .i64 n, .string s, .slice A len cap] 24)).alloc (.cells #[.int .i64 k', .int .i64 n', .string s', .slice A' len' cap'] 24)).heap.size = w.heap.size + 1 + 1 := by simp
  have hst : VSt3 w g g2 g3 cs cs2 cs3 W := ⟨by rw [hcs, hW, hg]; exact ((Blk.new w _ _).alloc _).alloc _, by rw [hcs2, hW, hg2, ← hs1]; exact (Blk.new _ _ _).alloc _, by rw [hcs3, hW, hg3, ← hs2]; exact Blk.new _ _ _, by rw [hW]; exact (((Chg.refl NoS w).alloc _).alloc _).alloc _⟩
  have hst2 := hst.drew
  have KW := keepf (VSt3.of_ (w := w) (g := g) (g2 := g2) (g3 := g3) (cs := cs) (cs2 := cs2) (cs3 := cs3) (fun W _ => H.works W))
  rw [show decide (0 ≤ fewT t 300) = true from by simpa using hsm1] at K1
  have KS1 := keepf (VSt3.of_ (w := w) (g := g) (g2 := g2) (g3 := g3) (cs := cs) (cs2 := cs2) (cs3 := cs3) K1)
  rw [show decide (0 ≤ fewT t' 300) = false from by simpa using hsm2] at K2
  have KS2 := keepf (VSt3.of_ (w := w) (g := g) (g2 := g2) (g3 := g3) (cs := cs) (cs2 := cs2) (cs3 := cs3) K2)
  unfold VC.val at KS1 KS2 ⊢
  simp only [] at KS1 KS2 ⊢
  clear hv hv' hv2 H K1 K2 K3 hsm1 hsm2
  go_enter Try.func5, Try.ntmps5
  go_upto_region 1 with fail
  rw [← hW, ← hg3, ← hg2, ← hg]
  clear hW hg hg2 hg3 hs1 hs2
  subst hcs hcs2 hcs3
  obtain ⟨p0, p1, p2, p3, q0, q1, q2, q3, r0, r1, r2, r3⟩ := hst.cells
  go_wp2_with first
    | (go_at_call 9; with_reducible refine (KS1.out _ (by assumption)).mono ?_; rintro e wq ⟨rfl, hq⟩; obtain ⟨_, _, _, _, _, _, _, _, _, _, _, _⟩ := hq.cells)
    | (go_at_call 9; with_reducible refine (KS2.out _ (by assumption)).mono ?_; rintro e wq ⟨rfl, hq⟩; obtain ⟨_, _, _, _, _, _, _, _, _, _, _, _⟩ := hq.cells)
    | (go_at_call 14; with_reducible refine (KW.out _ (by assumption)).mono ?_; rintro e wq ⟨rfl, hq⟩; obtain ⟨_, _, _, _, _, _, _, _, _, _, _, _⟩ := hq.cells)
  go_ret
  exact ⟨rfl, (by assumption : VSt3 w g g2 g3 #[.int .i64 k, .int .i64 n, .string s, .slice A len cap] #[.int .i64 k', .int .i64 n', .string s', .slice A' len' cap'] #[.int .i64 k2, .int .i64 n2, .string s2, .slice A2 len2 cap2] _).chg⟩
set_option maxHeartbeats 8000000 in
set_option maxRecDepth 100000 in
theorem order_no3 (H : ValOk) (t t' t2 : VT) (c c' c2 : VC) (w : World) (hv : ValIs w t c) (hv' : ValIs w t' c') (hv2 : ValIs w t2 c2) (hsm1 : 0 ≤ fewT t 300) (hsm2 : 0 ≤ fewT t' 300) (hsm3 : ¬ 0 ≤ fewT t2 300) :
    Calls Try.prog 5 #[c.val, c'.val, c2.val] w fun e w' => e = .returned (.bool true) ∧ Chg NoS w w' := by
  have K1 := fun (W : World) (h : Chg NoS w W) => small_any t c W (hv.chg h)
  have K2 := fun (W : World) (h : Chg NoS w W) => small_any t' c' W (hv'.chg h)
  have K3 := fun (W : World) (h : Chg NoS w W) => small_any t2 c2 W (hv2.chg h)
  obtain ⟨k, n, s, A, len, cap⟩ := c
  obtain ⟨k', n', s', A', len', cap'⟩ := c'
  obtain ⟨k2, n2, s2, A2, len2, cap2⟩ := c2
  obtain ⟨cs, hcs⟩ : ∃ cs : Array Value, cs = #[.int .i64 k, .int .i64 n, .string s, .slice A len cap] := ⟨_, rfl⟩
  obtain ⟨cs2, hcs2⟩ : ∃ cs : Array Value, cs = #[.int .i64 k', .int .i64 n', .string s', .slice A' len' cap'] := ⟨_, rfl⟩
  obtain ⟨cs3, hcs3⟩ : ∃ cs : Array Value, cs = #[.int .i64 k2, .int .i64 n2, .string s2, .slice A2 len2 cap2] := ⟨_, rfl⟩
  obtain ⟨W, hW⟩ : ∃ W, W = ((w.alloc (.cells #[.int .i64 k, .int .i64 n, .string s, .slice A len cap] 24)).alloc (.cells #[.int .i64 k', .int .i64 n', .string s', .slice A' len' cap'] 24)).alloc (.cells #[.int .i64 k2, .int .i64 n2, .string s2, .slice A2 len2 cap2] 24) := ⟨_, rfl⟩
  obtain ⟨g, hg⟩ : ∃ g, g = w.heap.size := ⟨_, rfl⟩
  obtain ⟨g2, hg2⟩ : ∃ g, g = w.heap.size + 1 := ⟨_, rfl⟩
  obtain ⟨g3, hg3⟩ : ∃ g, g = w.heap.size + 1 + 1 := ⟨_, rfl⟩
  have hs1 : (w.alloc (.cells #[.int .i64 k, .int .i64 n, .string s, .slice A len cap] 24)).heap.size = w.heap.size + 1 := by simp
  have hs2 : ((w.alloc (.cells #[.int .i64 k, .int .i64 n, .string s, .slice A len cap] 24)).alloc (.cells #[.int .i64 k', .int .i64 n', .string s', .slice A' len' cap'] 24)).heap.size = w.heap.size + 1 + 1 := by simp
  have hst : VSt3 w g g2 g3 cs cs2 cs3 W := ⟨by rw [hcs, hW, hg]; exact ((Blk.new w _ _).alloc _).alloc _, by rw [hcs2, hW, hg2, ← hs1]; exact (Blk.new _ _ _).alloc _, by rw [hcs3, hW, hg3, ← hs2]; exact Blk.new _ _ _, by rw [hW]; exact (((Chg.refl NoS w).alloc _).alloc _).alloc _⟩
  have hst2 := hst.drew
  have KW := keepf (VSt3.of_ (w := w) (g := g) (g2 := g2) (g3 := g3) (cs := cs) (cs2 := cs2) (cs3 := cs3) (fun W _ => H.works W))
  rw [show decide (0 ≤ fewT t 300) = true from by simpa using hsm1] at K1
  have KS1 := keepf (VSt3.of_ (w := w) (g := g) (g2 := g2) (g3 := g3) (cs := cs) (cs2 := cs2) (cs3 := cs3) K1)
  rw [show decide (0 ≤ fewT t' 300) = true from by simpa using hsm2] at K2
  have KS2 := keepf (VSt3.of_ (w := w) (g := g) (g2 := g2) (g3 := g3) (cs := cs) (cs2 := cs2) (cs3 := cs3) K2)
  rw [show decide (0 ≤ fewT t2 300) = false from by simpa using hsm3] at K3
  have KS3 := keepf (VSt3.of_ (w := w) (g := g) (g2 := g2) (g3 := g3) (cs := cs) (cs2 := cs2) (cs3 := cs3) K3)
  unfold VC.val at KS1 KS2 KS3 ⊢
  simp only [] at KS1 KS2 KS3 ⊢
  clear hv hv' hv2 H K1 K2 K3 hsm1 hsm2 hsm3
  go_enter Try.func5, Try.ntmps5
  go_upto_region 1 with fail
  rw [← hW, ← hg3, ← hg2, ← hg]
  clear hW hg hg2 hg3 hs1 hs2
  subst hcs hcs2 hcs3
  obtain ⟨p0, p1, p2, p3, q0, q1, q2, q3, r0, r1, r2, r3⟩ := hst.cells
  go_wp2_with first
    | (go_at_call 9; with_reducible refine (KS1.out _ (by assumption)).mono ?_; rintro e wq ⟨rfl, hq⟩; obtain ⟨_, _, _, _, _, _, _, _, _, _, _, _⟩ := hq.cells)
    | (go_at_call 9; with_reducible refine (KS2.out _ (by assumption)).mono ?_; rintro e wq ⟨rfl, hq⟩; obtain ⟨_, _, _, _, _, _, _, _, _, _, _, _⟩ := hq.cells)
    | (go_at_call 9; with_reducible refine (KS3.out _ (by assumption)).mono ?_; rintro e wq ⟨rfl, hq⟩; obtain ⟨_, _, _, _, _, _, _, _, _, _, _, _⟩ := hq.cells)
    | (go_at_call 14; with_reducible refine (KW.out _ (by assumption)).mono ?_; rintro e wq ⟨rfl, hq⟩; obtain ⟨_, _, _, _, _, _, _, _, _, _, _, _⟩ := hq.cells)
  go_ret
  exact ⟨rfl, (by assumption : VSt3 w g g2 g3 #[.int .i64 k, .int .i64 n, .string s, .slice A len cap] #[.int .i64 k', .int .i64 n', .string s', .slice A' len' cap'] #[.int .i64 k2, .int .i64 n2, .string s2, .slice A2 len2 cap2] _).chg⟩
set_option maxHeartbeats 8000000 in
set_option maxRecDepth 100000 in
theorem order_yes (H : ValOk) (t t' t2 : VT) (c c' c2 : VC) (w : World) (hv : ValIs w t c) (hv' : ValIs w t' c') (hv2 : ValIs w t2 c2) (hsm1 : 0 ≤ fewT t 300) (hsm2 : 0 ≤ fewT t' 300) (hsm3 : 0 ≤ fewT t2 300) :
    Calls Try.prog 5 #[c.val, c'.val, c2.val] w fun e w' => e = .returned (.bool true) ∧ Chg NoS w w' := by
  have K1 := fun (W : World) (h : Chg NoS w W) => small_any t c W (hv.chg h)
  have K2 := fun (W : World) (h : Chg NoS w W) => small_any t' c' W (hv'.chg h)
  have K3 := fun (W : World) (h : Chg NoS w W) => small_any t2 c2 W (hv2.chg h)
  obtain ⟨k, n, s, A, len, cap⟩ := c
  obtain ⟨k', n', s', A', len', cap'⟩ := c'
  obtain ⟨k2, n2, s2, A2, len2, cap2⟩ := c2
  obtain ⟨cs, hcs⟩ : ∃ cs : Array Value, cs = #[.int .i64 k, .int .i64 n, .string s, .slice A len cap] := ⟨_, rfl⟩
  obtain ⟨cs2, hcs2⟩ : ∃ cs : Array Value, cs = #[.int .i64 k', .int .i64 n', .string s', .slice A' len' cap'] := ⟨_, rfl⟩
  obtain ⟨cs3, hcs3⟩ : ∃ cs : Array Value, cs = #[.int .i64 k2, .int .i64 n2, .string s2, .slice A2 len2 cap2] := ⟨_, rfl⟩
  obtain ⟨W, hW⟩ : ∃ W, W = ((w.alloc (.cells #[.int .i64 k, .int .i64 n, .string s, .slice A len cap] 24)).alloc (.cells #[.int .i64 k', .int .i64 n', .string s', .slice A' len' cap'] 24)).alloc (.cells #[.int .i64 k2, .int .i64 n2, .string s2, .slice A2 len2 cap2] 24) := ⟨_, rfl⟩
  obtain ⟨g, hg⟩ : ∃ g, g = w.heap.size := ⟨_, rfl⟩
  obtain ⟨g2, hg2⟩ : ∃ g, g = w.heap.size + 1 := ⟨_, rfl⟩
  obtain ⟨g3, hg3⟩ : ∃ g, g = w.heap.size + 1 + 1 := ⟨_, rfl⟩
  have hs1 : (w.alloc (.cells #[.int .i64 k, .int .i64 n, .string s, .slice A len cap] 24)).heap.size = w.heap.size + 1 := by simp
  have hs2 : ((w.alloc (.cells #[.int .i64 k, .int .i64 n, .string s, .slice A len cap] 24)).alloc (.cells #[.int .i64 k', .int .i64 n', .string s', .slice A' len' cap'] 24)).heap.size = w.heap.size + 1 + 1 := by simp
  have hst : VSt3 w g g2 g3 cs cs2 cs3 W := ⟨by rw [hcs, hW, hg]; exact ((Blk.new w _ _).alloc _).alloc _, by rw [hcs2, hW, hg2, ← hs1]; exact (Blk.new _ _ _).alloc _, by rw [hcs3, hW, hg3, ← hs2]; exact Blk.new _ _ _, by rw [hW]; exact (((Chg.refl NoS w).alloc _).alloc _).alloc _⟩
  have hst2 := hst.drew
  have KW := keepf (VSt3.of_ (w := w) (g := g) (g2 := g2) (g3 := g3) (cs := cs) (cs2 := cs2) (cs3 := cs3) (fun W _ => H.works W))
  have hsz1 := small_siz hsm1
  have hsz2 := small_siz hsm2
  have hsz3 := small_siz hsm3
  rw [show decide (0 ≤ fewT t 300) = true from by simpa using hsm1] at K1
  have KS1 := keepf (VSt3.of_ (w := w) (g := g) (g2 := g2) (g3 := g3) (cs := cs) (cs2 := cs2) (cs3 := cs3) K1)
  rw [show decide (0 ≤ fewT t' 300) = true from by simpa using hsm2] at K2
  have KS2 := keepf (VSt3.of_ (w := w) (g := g) (g2 := g2) (g3 := g3) (cs := cs) (cs2 := cs2) (cs3 := cs3) K2)
  rw [show decide (0 ≤ fewT t2 300) = true from by simpa using hsm3] at K3
  have KS3 := keepf (VSt3.of_ (w := w) (g := g) (g2 := g2) (g3 := g3) (cs := cs) (cs2 := cs2) (cs3 := cs3) K3)
  have KAB := keepf (VSt3.of_ (w := w) (g := g) (g2 := g2) (g3 := g3) (cs := cs) (cs2 := cs2) (cs3 := cs3) (fun (W : World) (h : Chg NoS w W) => H.compare t t' _ _ W (hv.chg h) (hv'.chg h) (by omega) (by omega)))
  have KBC := keepf (VSt3.of_ (w := w) (g := g) (g2 := g2) (g3 := g3) (cs := cs) (cs2 := cs2) (cs3 := cs3) (fun (W : World) (h : Chg NoS w W) => H.compare t' t2 _ _ W (hv'.chg h) (hv2.chg h) (by omega) (by omega)))
  have KAC := keepf (VSt3.of_ (w := w) (g := g) (g2 := g2) (g3 := g3) (cs := cs) (cs2 := cs2) (cs3 := cs3) (fun (W : World) (h : Chg NoS w W) => H.compare t t2 _ _ W (hv.chg h) (hv2.chg h) (by omega) (by omega)))
  have KBA := keepf (VSt3.of_ (w := w) (g := g) (g2 := g2) (g3 := g3) (cs := cs) (cs2 := cs2) (cs3 := cs3) (fun (W : World) (h : Chg NoS w W) => H.compare t' t _ _ W (hv'.chg h) (hv.chg h) (by omega) (by omega)))
  have KAA := keepf (VSt3.of_ (w := w) (g := g) (g2 := g2) (g3 := g3) (cs := cs) (cs2 := cs2) (cs3 := cs3) (fun (W : World) (h : Chg NoS w W) => H.compare t t _ _ W (hv.chg h) (hv.chg h) (by omega) (by omega)))
  rw [cmpT_swap t t'] at KBA
  rw [cmpT_self t] at KAA
  have htr := cmpT_tr t t' t2
  have hxv := cmpT_val t t'
  obtain ⟨x, hx⟩ : ∃ x, cmpT t t' = x := ⟨_, rfl⟩
  obtain ⟨y, hy⟩ : ∃ x, cmpT t' t2 = x := ⟨_, rfl⟩
  obtain ⟨z, hz⟩ : ∃ x, cmpT t t2 = x := ⟨_, rfl⟩
  rw [hx] at KAB KBA
  rw [hy] at KBC
  rw [hz] at KAC
  rw [hx, hy, hz] at htr
  rw [hx] at hxv
  have kx : IntKind.i64.wrap (0 - x) = 0 - x := by rw [IntKind.wrap_i64]; omega
  have kx2 : IntKind.i64.wrap (-x) = 0 - x := by rw [IntKind.wrap_i64]; omega
  unfold VC.val at KS1 KS2 KS3 KAB KBC KAC KBA KAA ⊢
  simp only [] at KS1 KS2 KS3 KAB KBC KAC KBA KAA ⊢
  have hcases : 0 < x ∨ (x < 0 ∧ 0 < y) ∨ (x = 0 ∧ 0 < y) ∨ (x < 0 ∧ y ≤ 0 ∧ z ≤ 0) ∨ (x = 0 ∧ y < 0 ∧ z ≤ 0) ∨ (x = 0 ∧ y = 0 ∧ z = 0) := by omega
  clear hv hv' hv2 H K1 K2 K3 hsz1 hsz2 hsz3 hsm1 hsm2 hsm3 hx hy hz htr hxv
  go_enter Try.func5, Try.ntmps5
  go_upto_region 1 with fail
  rw [← hW, ← hg3, ← hg2, ← hg]
  clear hW hg hg2 hg3 hs1 hs2
  subst hcs hcs2 hcs3
  obtain ⟨p0, p1, p2, p3, q0, q1, q2, q3, r0, r1, r2, r3⟩ := hst.cells
  go_upto_region 3 with first
    | (go_at_call 9; with_reducible refine (KS1.out _ (by assumption)).mono ?_; rintro e wq ⟨rfl, hq⟩; obtain ⟨_, _, _, _, _, _, _, _, _, _, _, _⟩ := hq.cells)
    | (go_at_call 9; with_reducible refine (KS2.out _ (by assumption)).mono ?_; rintro e wq ⟨rfl, hq⟩; obtain ⟨_, _, _, _, _, _, _, _, _, _, _, _⟩ := hq.cells)
    | (go_at_call 9; with_reducible refine (KS3.out _ (by assumption)).mono ?_; rintro e wq ⟨rfl, hq⟩; obtain ⟨_, _, _, _, _, _, _, _, _, _, _, _⟩ := hq.cells)
  have hdr := (by assumption : VSt3 w g g2 g3 #[.int .i64 k, .int .i64 n, .string s, .slice A len cap] #[.int .i64 k', .int .i64 n', .string s', .slice A' len' cap'] #[.int .i64 k2, .int .i64 n2, .string s2, .slice A2 len2 cap2] _).drew
  first
    | (go_loud (go_region_held3 (fun w' => w'.cell? ⟨g, 0, none⟩ = some (.int .i64 k) ∧ w'.cell? ⟨g, 1, none⟩ = some (.int .i64 n) ∧ w'.cell? ⟨g, 2, none⟩ = some (.string s) ∧ w'.cell? ⟨g, 3, none⟩ = some (.slice A len cap) ∧ w'.cell? ⟨g2, 0, none⟩ = some (.int .i64 k') ∧ w'.cell? ⟨g2, 1, none⟩ = some (.int .i64 n') ∧ w'.cell? ⟨g2, 2, none⟩ = some (.string s') ∧ w'.cell? ⟨g2, 3, none⟩ = some (.slice A' len' cap') ∧ w'.cell? ⟨g3, 0, none⟩ = some (.int .i64 k2) ∧ w'.cell? ⟨g3, 1, none⟩ = some (.int .i64 n2) ∧ w'.cell? ⟨g3, 2, none⟩ = some (.string s2) ∧ w'.cell? ⟨g3, 3, none⟩ = some (.slice A2 len2 cap2))
        (first | (go_keep; done) | (go_split_ands; exact ⟨by assumption, by assumption, by assumption, by assumption, by assumption, by assumption, by assumption, by assumption, by assumption, by assumption, by assumption, by assumption⟩))
        (first
          | (go_at_call 15; with_reducible refine (KAB.out _ (by assumption)).mono ?_; rintro e wq ⟨rfl, hq⟩; obtain ⟨_, _, _, _, _, _, _, _, _, _, _, _⟩ := hq.cells)
          | (go_at_call 15; with_reducible refine (KBC.out _ (by assumption)).mono ?_; rintro e wq ⟨rfl, hq⟩; obtain ⟨_, _, _, _, _, _, _, _, _, _, _, _⟩ := hq.cells)
          | (go_at_call 15; with_reducible refine (KAC.out _ (by assumption)).mono ?_; rintro e wq ⟨rfl, hq⟩; obtain ⟨_, _, _, _, _, _, _, _, _, _, _, _⟩ := hq.cells)
          | fail "no arm")))
    | fail "region"
  rcases hcases with h | ⟨h, h2⟩ | ⟨rfl, h2⟩ | ⟨h, h2, h3⟩ | ⟨rfl, h2, h3⟩ | ⟨rfl, rfl, rfl⟩
  · have a1 : decide (0 < x) = true := by first | (simp; done) | (simp; omega)
    have a2 : (x == 0) = false := by first | (simp; done) | (simp; omega)
    have a3 : (x != 0) = true := by first | (simp; done) | (simp; omega)
    go_wp2_with first
      | (go_at_call 15; with_reducible refine (KBA.out _ (by assumption)).mono ?_; rintro e wq ⟨rfl, hq⟩; obtain ⟨_, _, _, _, _, _, _, _, _, _, _, _⟩ := hq.cells)
      | (go_at_call 15; with_reducible refine (KAA.out _ (by assumption)).mono ?_; rintro e wq ⟨rfl, hq⟩; obtain ⟨_, _, _, _, _, _, _, _, _, _, _, _⟩ := hq.cells)
      | (go_at_call 14; with_reducible refine (KW.out _ (by assumption)).mono ?_; rintro e wq ⟨rfl, hq⟩; obtain ⟨_, _, _, _, _, _, _, _, _, _, _, _⟩ := hq.cells)
    go_ret
    exact ⟨rfl, (by assumption : VSt3 w g g2 g3 #[.int .i64 k, .int .i64 n, .string s, .slice A len cap] #[.int .i64 k', .int .i64 n', .string s', .slice A' len' cap'] #[.int .i64 k2, .int .i64 n2, .string s2, .slice A2 len2 cap2] _).chg⟩
  · have a1 : decide (0 < x) = false := by first | (simp; done) | (simp; omega)
    have b1 : decide (0 < y) = true := by first | (simp; done) | (simp; omega)
    have a2 : (x == 0) = false := by first | (simp; done) | (simp; omega)
    have a3 : (x != 0) = true := by first | (simp; done) | (simp; omega)
    go_wp2_with first
      | (go_at_call 15; with_reducible refine (KBA.out _ (by assumption)).mono ?_; rintro e wq ⟨rfl, hq⟩; obtain ⟨_, _, _, _, _, _, _, _, _, _, _, _⟩ := hq.cells)
      | (go_at_call 15; with_reducible refine (KAA.out _ (by assumption)).mono ?_; rintro e wq ⟨rfl, hq⟩; obtain ⟨_, _, _, _, _, _, _, _, _, _, _, _⟩ := hq.cells)
      | (go_at_call 14; with_reducible refine (KW.out _ (by assumption)).mono ?_; rintro e wq ⟨rfl, hq⟩; obtain ⟨_, _, _, _, _, _, _, _, _, _, _, _⟩ := hq.cells)
    go_ret
    exact ⟨rfl, (by assumption : VSt3 w g g2 g3 #[.int .i64 k, .int .i64 n, .string s, .slice A len cap] #[.int .i64 k', .int .i64 n', .string s', .slice A' len' cap'] #[.int .i64 k2, .int .i64 n2, .string s2, .slice A2 len2 cap2] _).chg⟩
  · have b1 : decide (0 < y) = true := by first | (simp; done) | (simp; omega)
    have b2 : (y == 0) = false := by first | (simp; done) | (simp; omega)
    have b3 : (y != 0) = true := by first | (simp; done) | (simp; omega)
    go_wp2_with first
      | (go_at_call 15; with_reducible refine (KBA.out _ (by assumption)).mono ?_; rintro e wq ⟨rfl, hq⟩; obtain ⟨_, _, _, _, _, _, _, _, _, _, _, _⟩ := hq.cells)
      | (go_at_call 15; with_reducible refine (KAA.out _ (by assumption)).mono ?_; rintro e wq ⟨rfl, hq⟩; obtain ⟨_, _, _, _, _, _, _, _, _, _, _, _⟩ := hq.cells)
      | (go_at_call 14; with_reducible refine (KW.out _ (by assumption)).mono ?_; rintro e wq ⟨rfl, hq⟩; obtain ⟨_, _, _, _, _, _, _, _, _, _, _, _⟩ := hq.cells)
    go_ret
    exact ⟨rfl, (by assumption : VSt3 w g g2 g3 #[.int .i64 k, .int .i64 n, .string s, .slice A len cap] #[.int .i64 k', .int .i64 n', .string s', .slice A' len' cap'] #[.int .i64 k2, .int .i64 n2, .string s2, .slice A2 len2 cap2] _).chg⟩
  · have a1 : decide (0 < x) = false := by first | (simp; done) | (simp; omega)
    have b1 : decide (0 < y) = false := by first | (simp; done) | (simp; omega)
    have c1 : decide (z ≤ 0) = true := by first | (simp; done) | (simp; omega)
    have a2 : (x == 0) = false := by first | (simp; done) | (simp; omega)
    have a3 : (x != 0) = true := by first | (simp; done) | (simp; omega)
    go_wp2_with first
      | (go_at_call 15; with_reducible refine (KBA.out _ (by assumption)).mono ?_; rintro e wq ⟨rfl, hq⟩; obtain ⟨_, _, _, _, _, _, _, _, _, _, _, _⟩ := hq.cells)
      | (go_at_call 15; with_reducible refine (KAA.out _ (by assumption)).mono ?_; rintro e wq ⟨rfl, hq⟩; obtain ⟨_, _, _, _, _, _, _, _, _, _, _, _⟩ := hq.cells)
      | (go_at_call 14; with_reducible refine (KW.out _ (by assumption)).mono ?_; rintro e wq ⟨rfl, hq⟩; obtain ⟨_, _, _, _, _, _, _, _, _, _, _, _⟩ := hq.cells)
    go_ret
    exact ⟨rfl, (by assumption : VSt3 w g g2 g3 #[.int .i64 k, .int .i64 n, .string s, .slice A len cap] #[.int .i64 k', .int .i64 n', .string s', .slice A' len' cap'] #[.int .i64 k2, .int .i64 n2, .string s2, .slice A2 len2 cap2] _).chg⟩
  · have b1 : decide (0 < y) = false := by first | (simp; done) | (simp; omega)
    have c1 : decide (z ≤ 0) = true := by first | (simp; done) | (simp; omega)
    have b2 : (y == 0) = false := by first | (simp; done) | (simp; omega)
    have b3 : (y != 0) = true := by first | (simp; done) | (simp; omega)
    go_wp2_with first
      | (go_at_call 15; with_reducible refine (KBA.out _ (by assumption)).mono ?_; rintro e wq ⟨rfl, hq⟩; obtain ⟨_, _, _, _, _, _, _, _, _, _, _, _⟩ := hq.cells)
      | (go_at_call 15; with_reducible refine (KAA.out _ (by assumption)).mono ?_; rintro e wq ⟨rfl, hq⟩; obtain ⟨_, _, _, _, _, _, _, _, _, _, _, _⟩ := hq.cells)
      | (go_at_call 14; with_reducible refine (KW.out _ (by assumption)).mono ?_; rintro e wq ⟨rfl, hq⟩; obtain ⟨_, _, _, _, _, _, _, _, _, _, _, _⟩ := hq.cells)
    go_ret
    exact ⟨rfl, (by assumption : VSt3 w g g2 g3 #[.int .i64 k, .int .i64 n, .string s, .slice A len cap] #[.int .i64 k', .int .i64 n', .string s', .slice A' len' cap'] #[.int .i64 k2, .int .i64 n2, .string s2, .slice A2 len2 cap2] _).chg⟩
  · go_wp2_with first
      | (go_at_call 15; with_reducible refine (KBA.out _ (by assumption)).mono ?_; rintro e wq ⟨rfl, hq⟩; obtain ⟨_, _, _, _, _, _, _, _, _, _, _, _⟩ := hq.cells)
      | (go_at_call 15; with_reducible refine (KAA.out _ (by assumption)).mono ?_; rintro e wq ⟨rfl, hq⟩; obtain ⟨_, _, _, _, _, _, _, _, _, _, _, _⟩ := hq.cells)
      | (go_at_call 14; with_reducible refine (KW.out _ (by assumption)).mono ?_; rintro e wq ⟨rfl, hq⟩; obtain ⟨_, _, _, _, _, _, _, _, _, _, _, _⟩ := hq.cells)
    go_ret
    exact ⟨rfl, (by assumption : VSt3 w g g2 g3 #[.int .i64 k, .int .i64 n, .string s, .slice A len cap] #[.int .i64 k', .int .i64 n', .string s', .slice A' len' cap'] #[.int .i64 k2, .int .i64 n2, .string s2, .slice A2 len2 cap2] _).chg⟩
theorem orderW (H : ValOk) (t t' t2 : VT) (c c' c2 : VC) (w : World) (hv : ValIs w t c) (hv' : ValIs w t' c') (hv2 : ValIs w t2 c2) :
    Calls Try.prog 5 #[c.val, c'.val, c2.val] w fun e w' => e = .returned (.bool true) ∧ Chg NoS w w' := by
  by_cases h1 : 0 ≤ fewT t 300
  · by_cases h2 : 0 ≤ fewT t' 300
    · by_cases h3 : 0 ≤ fewT t2 300
      · exact order_yes H t t' t2 c c' c2 w hv hv' hv2 h1 h2 h3
      · exact order_no3 H t t' t2 c c' c2 w hv hv' hv2 h1 h2 h3
    · exact order_no2 H t t' t2 c c' c2 w hv hv' hv2 h1 h2
  · exact order_no1 H t t' t2 c c' c2 w hv hv' hv2 h1
end Go.Proofs.Ytjbjfoingpnlmaa
