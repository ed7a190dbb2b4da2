/- The walk of ValueCompares: how any two values stand is as the document says (written by mkvcmp.py). -/
import Derived.Test.YtjbjfoingpnlmaaVOk
import Derived.Deep.RegionHeld3
import Derived.BigRegion
namespace Go.Proofs.Ytjbjfoingpnlmaa
open Go.RowKit
set_option linter.unusedVariables false
set_option linter.unusedSimpArgs false
/-- Two values' boxes. -/
structure VSt2 (w : World) (g g2 : Nat) (cs cs2 : Array Value) (W : World) : Prop where
  b : Blk W g 24 cs
  d : Blk W g2 24 cs2
  chg : Chg NoS w W
theorem VSt2.call {w W W' : World} {g g2 : Nat} {cs cs2 : Array Value} (h : VSt2 w g g2 cs cs2 W) (hc : Chg NoS W W') : VSt2 w g g2 cs cs2 W' := ⟨h.b.chg hc (fun e => e), h.d.chg hc (fun e => e), h.chg.trans hc (fun _ _ e => e)⟩
theorem VSt2.drew {w W : World} {g g2 : Nat} {cs cs2 : Array Value} (h : VSt2 w g g2 cs cs2 W) : VSt2 w g g2 cs cs2 W.drew := ⟨h.b, h.d, h.chg.drew⟩
theorem VSt2.cells {w W : World} {g g2 : Nat} {a b c d a' b' c' d' : Value} (h : VSt2 w g g2 #[a, b, c, d] #[a', b', c', d'] W) : W.cell? ⟨g, 0, none⟩ = some a ∧ W.cell? ⟨g, 1, none⟩ = some b ∧ W.cell? ⟨g, 2, none⟩ = some c ∧ W.cell? ⟨g, 3, none⟩ = some d ∧ W.cell? ⟨g2, 0, none⟩ = some a' ∧ W.cell? ⟨g2, 1, none⟩ = some b' ∧ W.cell? ⟨g2, 2, none⟩ = some c' ∧ W.cell? ⟨g2, 3, none⟩ = some d' := by
  have x0 := h.b.cell 0
  have x1 := h.b.cell 1
  have x2 := h.b.cell 2
  have x3 := h.b.cell 3
  have y0 := h.d.cell 0
  have y1 := h.d.cell 1
  have y2 := h.d.cell 2
  have y3 := h.d.cell 3
  simp at x0 x1 x2 x3 y0 y1 y2 y3
  exact ⟨x0, x1, x2, x3, y0, y1, y2, y3⟩
theorem VSt2.of_ {w : World} {g g2 : Nat} {cs cs2 : Array Value} {f : FuncId} {args : Array Value} {v : Value} (H : ∀ W, Chg NoS w W → Calls Try.prog f args W fun e w' => e = .returned v ∧ Chg NoS W w') (W : World) (h : VSt2 w g g2 cs cs2 W) : Calls Try.prog f args W fun e w' => e = .returned v ∧ VSt2 w g g2 cs cs2 w' :=
  (H W h.chg).mono fun _ _ ⟨he, hc⟩ => ⟨he, h.call hc⟩
set_option maxHeartbeats 4000000 in
set_option maxRecDepth 100000 in
theorem comparesW (H : ValOk) (t t' : VT) (c c' : VC) (w : World) (hv : ValIs w t c) (hv' : ValIs w t' c') :
    Calls Try.prog 4 #[c.val, c'.val] w fun e w' => e = .returned (.bool true) ∧ Chg NoS w w' := by
  have K1 := fun (W : World) (h : Chg NoS w W) => small_any t c W (hv.chg h)
  have K2 := fun (W : World) (h : Chg NoS w W) => small_any t' c' W (hv'.chg h)
  obtain ⟨k, n, s, A, len, cap⟩ := c
  obtain ⟨k', n', s', A', len', cap'⟩ := c'
  obtain ⟨cs, hcs⟩ : ∃ cs : Array Value, cs = #[.int .i64 k, .int .i64 n, .string s, .slice A len cap] := ⟨_, rfl⟩
  obtain ⟨cs2, hcs2⟩ : ∃ cs : Array Value, cs = #[.int .i64 k', .int .i64 n', .string s', .slice A' len' cap'] := ⟨_, rfl⟩
  obtain ⟨W, hW⟩ : ∃ W, W = (w.alloc (.cells #[.int .i64 k, .int .i64 n, .string s, .slice A len cap] 24)).alloc (.cells #[.int .i64 k', .int .i64 n', .string s', .slice A' len' cap'] 24) := ⟨_, rfl⟩
  obtain ⟨g, hg⟩ : ∃ g, g = w.heap.size := ⟨_, rfl⟩
  obtain ⟨g2, hg2⟩ : ∃ g, g = w.heap.size + 1 := ⟨_, rfl⟩
  have hs1 : (w.alloc (.cells #[.int .i64 k, .int .i64 n, .string s, .slice A len cap] 24)).heap.size = w.heap.size + 1 := by simp
  have hst : VSt2 w g g2 cs cs2 W := ⟨by rw [hcs, hW, hg]; exact (Blk.new w _ _).alloc _, by rw [hcs2, hW, hg2, ← hs1]; exact Blk.new _ _ _, by rw [hW]; exact ((Chg.refl NoS w).alloc _).alloc _⟩
  have hst2 := hst.drew
  have KW := keepf (VSt2.of_ (w := w) (g := g) (g2 := g2) (cs := cs) (cs2 := cs2) (fun W _ => H.works W))
  by_cases hsm : 0 ≤ fewT t 300
  · have hsz := small_siz hsm
    rw [show decide (0 ≤ fewT t 300) = true from by simpa using hsm] at K1
    have KS1 := keepf (VSt2.of_ (w := w) (g := g) (g2 := g2) (cs := cs) (cs2 := cs2) K1)
    by_cases hsm2 : 0 ≤ fewT t' 300
    · have hsz2 := small_siz hsm2
      rw [show decide (0 ≤ fewT t' 300) = true from by simpa using hsm2] at K2
      have KS2 := keepf (VSt2.of_ (w := w) (g := g) (g2 := g2) (cs := cs) (cs2 := cs2) K2)
      have KC := keepf (VSt2.of_ (w := w) (g := g) (g2 := g2) (cs := cs) (cs2 := cs2) (fun (W : World) (h : Chg NoS w W) => H.compare t t' _ _ W (hv.chg h) (hv'.chg h) (by omega) (by omega)))
      have KC2 := keepf (VSt2.of_ (w := w) (g := g) (g2 := g2) (cs := cs) (cs2 := cs2) (fun (W : World) (h : Chg NoS w W) => rcmp_any t t' _ _ W (hv.chg h) (hv'.chg h)))
      have KE := keepf (VSt2.of_ (w := w) (g := g) (g2 := g2) (cs := cs) (cs2 := cs2) (fun (W : World) (h : Chg NoS w W) => H.same t t' _ _ W (hv.chg h) (hv'.chg h) (by omega) (by omega)))
      have KE2 := keepf (VSt2.of_ (w := w) (g := g) (g2 := g2) (cs := cs) (cs2 := cs2) (fun (W : World) (h : Chg NoS w W) => rsame11_any t t' _ _ W (hv.chg h) (hv'.chg h)))
      obtain ⟨b, hb⟩ : ∃ b, decide (cmpT t t' = 0) = b := ⟨_, rfl⟩
      rw [hb] at KE KE2
      obtain ⟨x, hx⟩ : ∃ x, cmpT t t' = x := ⟨_, rfl⟩
      rw [hx] at KC KC2
      unfold VC.val at KS1 KS2 KC KC2 KE KE2 ⊢
      simp only [] at KS1 KS2 KC KC2 KE KE2 ⊢
      clear hv hv' H K1 K2 hsz hsz2 hsm hsm2 hx hb
      go_enter Try.func4, Try.ntmps4
      go_upto_region 1 with fail
      rw [← hW, ← hg2, ← hg]
      clear hW hg hg2 hs1
      subst hcs hcs2
      obtain ⟨p0, p1, p2, p3, q0, q1, q2, q3⟩ := hst.cells
      go_upto_region 3 with first
        | (go_at_call 9; refine (KS1.out _ (by assumption)).mono ?_; rintro e wq ⟨rfl, hq⟩; obtain ⟨_, _, _, _, _, _, _, _⟩ := hq.cells)
        | (go_at_call 9; refine (KS2.out _ (by assumption)).mono ?_; rintro e wq ⟨rfl, hq⟩; obtain ⟨_, _, _, _, _, _, _, _⟩ := hq.cells)
      have hdr := (by assumption : VSt2 w g g2 #[.int .i64 k, .int .i64 n, .string s, .slice A len cap] #[.int .i64 k', .int .i64 n', .string s', .slice A' len' cap'] _).drew
      first
        | (go_loud (go_region_held3 (fun w' => w'.cell? ⟨g, 0, none⟩ = some (.int .i64 k) ∧ w'.cell? ⟨g, 1, none⟩ = some (.int .i64 n) ∧ w'.cell? ⟨g, 2, none⟩ = some (.string s) ∧ w'.cell? ⟨g, 3, none⟩ = some (.slice A len cap) ∧ w'.cell? ⟨g2, 0, none⟩ = some (.int .i64 k') ∧ w'.cell? ⟨g2, 1, none⟩ = some (.int .i64 n') ∧ w'.cell? ⟨g2, 2, none⟩ = some (.string s') ∧ w'.cell? ⟨g2, 3, none⟩ = some (.slice A' len' cap'))
            (first | (go_keep; done) | (go_split_ands; exact ⟨by assumption, by assumption, by assumption, by assumption, by assumption, by assumption, by assumption, by assumption⟩))
            (first
              | (go_at_call 15; refine (KC.out _ (by assumption)).mono ?_; rintro e wq ⟨rfl, hq⟩; obtain ⟨_, _, _, _, _, _, _, _⟩ := hq.cells)
              | (go_at_call 16; refine (KC2.out _ (by assumption)).mono ?_; rintro e wq ⟨rfl, hq⟩; obtain ⟨_, _, _, _, _, _, _, _⟩ := hq.cells)
              | (go_at_call 17; refine (KE.out _ (by assumption)).mono ?_; rintro e wq ⟨rfl, hq⟩; obtain ⟨_, _, _, _, _, _, _, _⟩ := hq.cells)
              | (go_at_call 18; refine (KE2.out _ (by assumption)).mono ?_; rintro e wq ⟨rfl, hq⟩; obtain ⟨_, _, _, _, _, _, _, _⟩ := hq.cells)
              | (go_at_call 14; refine (KW.out _ (by assumption)).mono ?_; rintro e wq ⟨rfl, hq⟩; obtain ⟨_, _, _, _, _, _, _, _⟩ := hq.cells)
              | fail "no arm")))
        | fail "region"
      all_goals
        go_wp2_with fail
        go_ret
        exact ⟨rfl, (by assumption : VSt2 w g g2 #[.int .i64 k, .int .i64 n, .string s, .slice A len cap] #[.int .i64 k', .int .i64 n', .string s', .slice A' len' cap'] _).chg⟩
    · rw [show decide (0 ≤ fewT t' 300) = false from by simpa using hsm2] at K2
      have KS2 := keepf (VSt2.of_ (w := w) (g := g) (g2 := g2) (cs := cs) (cs2 := cs2) K2)
      unfold VC.val at KS1 KS2 ⊢
      simp only [] at KS1 KS2 ⊢
      clear hv hv' H K1 K2 hsz hsm hsm2
      go_enter Try.func4, Try.ntmps4
      go_upto_region 1 with fail
      rw [← hW, ← hg2, ← hg]
      clear hW hg hg2 hs1
      subst hcs hcs2
      obtain ⟨p0, p1, p2, p3, q0, q1, q2, q3⟩ := hst.cells
      go_wp2_with first
        | (go_at_call 9; refine (KS1.out _ (by assumption)).mono ?_; rintro e wq ⟨rfl, hq⟩; obtain ⟨_, _, _, _, _, _, _, _⟩ := hq.cells)
        | (go_at_call 9; refine (KS2.out _ (by assumption)).mono ?_; rintro e wq ⟨rfl, hq⟩; obtain ⟨_, _, _, _, _, _, _, _⟩ := hq.cells)
        | (go_at_call 14; refine (KW.out _ (by assumption)).mono ?_; rintro e wq ⟨rfl, hq⟩; obtain ⟨_, _, _, _, _, _, _, _⟩ := hq.cells)
      go_ret
      exact ⟨rfl, (by assumption : VSt2 w g g2 #[.int .i64 k, .int .i64 n, .string s, .slice A len cap] #[.int .i64 k', .int .i64 n', .string s', .slice A' len' cap'] _).chg⟩
  · rw [show decide (0 ≤ fewT t 300) = false from by simpa using hsm] at K1
    have KS1 := keepf (VSt2.of_ (w := w) (g := g) (g2 := g2) (cs := cs) (cs2 := cs2) K1)
    unfold VC.val at KS1 ⊢
    simp only [] at KS1 ⊢
    clear hv hv' H K1 K2 hsm
    go_enter Try.func4, Try.ntmps4
    go_upto_region 1 with fail
    rw [← hW, ← hg2, ← hg]
    clear hW hg hg2 hs1
    subst hcs hcs2
    obtain ⟨p0, p1, p2, p3, q0, q1, q2, q3⟩ := hst.cells
    go_wp2_with first
      | (go_at_call 9; refine (KS1.out _ (by assumption)).mono ?_; rintro e wq ⟨rfl, hq⟩; obtain ⟨_, _, _, _, _, _, _, _⟩ := hq.cells)
      | (go_at_call 14; refine (KW.out _ (by assumption)).mono ?_; rintro e wq ⟨rfl, hq⟩; obtain ⟨_, _, _, _, _, _, _, _⟩ := hq.cells)
    go_ret
    exact ⟨rfl, (by assumption : VSt2 w g g2 #[.int .i64 k, .int .i64 n, .string s, .slice A len cap] #[.int .i64 k', .int .i64 n', .string s', .slice A' len' cap'] _).chg⟩
end Go.Proofs.Ytjbjfoingpnlmaa
