/- The walk of ValueDicts: what any value has of a name, and what it is with another value put in, or without it, is as the document says (written by mkvdic.py). -/
import Derived.Test.YtjbjfoingpnlmaaVCmpW
import Derived.Test.YtjbjfoingpnlmaaValO
import Derived.Test.YtjbjfoingpnlmaaRVt11
import Derived.Test.YtjbjfoingpnlmaaRVt7
import Derived.Test.YtjbjfoingpnlmaaRVt6
import Derived.Deep.RegionHeld3
import Derived.BigRegion
namespace Go.Proofs.Ytjbjfoingpnlmaa
open Go.RowKit
set_option linter.unusedVariables false
set_option linter.unusedSimpArgs false
/-- What Get tells, and two boxes as they were. -/
def Get2 (w W : World) (g g2 : Nat) (cs cs2 : Array Value) (t : VT) (is : Bool) (e : Ending) (w' : World) : Prop := ∃ (k n : Int) (s : ByteArray) (A : Option Addr) (len cap : Nat), e = .returned (.tuple #[.agg #[.int .i64 k, .int .i64 n, .string s, .slice A len cap], .bool is]) ∧ ValIs w' t ⟨k, n, s, A, len, cap⟩ ∧ VSt2 w g g2 cs cs2 w' ∧ Chg NoS W w'
theorem VSt2.got {w : World} {g g2 : Nat} {cs cs2 : Array Value} {f : FuncId} {args : Array Value} {t : VT} {is : Bool} (H : ∀ W, Chg NoS w W → Calls Try.prog f args W (GetTo W (t, is))) (W : World) (h : VSt2 w g g2 cs cs2 W) : Calls Try.prog f args W (Get2 w W g g2 cs cs2 t is) :=
  (H W h.chg).mono fun _ _ ⟨⟨k, n, s, A, len, cap⟩, he, hv, hc⟩ => ⟨k, n, s, A, len, cap, he, hv, h.call hc, hc⟩
theorem VSt2.alloc {w W : World} {g g2 : Nat} {cs cs2 : Array Value} (h : VSt2 w g g2 cs cs2 W) (o : Obj) : VSt2 w g g2 cs cs2 (W.alloc o) := ⟨h.b.alloc o, h.d.alloc o, h.chg.alloc o⟩
/-- Four values' boxes. -/
structure VSt4 (w : World) (g g2 g3 g4 : Nat) (cs cs2 cs3 cs4 : Array Value) (W : World) : Prop where
  st : VSt2 w g g2 cs cs2 W
  f : Blk W g3 24 cs3
  h : Blk W g4 24 cs4
theorem VSt4.call {w W W' : World} {g g2 g3 g4 : Nat} {cs cs2 cs3 cs4 : Array Value} (h : VSt4 w g g2 g3 g4 cs cs2 cs3 cs4 W) (hc : Chg NoS W W') : VSt4 w g g2 g3 g4 cs cs2 cs3 cs4 W' := ⟨h.st.call hc, h.f.chg hc (fun e => e), h.h.chg hc (fun e => e)⟩
theorem VSt4.drew {w W : World} {g g2 g3 g4 : Nat} {cs cs2 cs3 cs4 : Array Value} (h : VSt4 w g g2 g3 g4 cs cs2 cs3 cs4 W) : VSt4 w g g2 g3 g4 cs cs2 cs3 cs4 W.drew := ⟨h.st.drew, h.f, h.h⟩
theorem VSt4.cells {w W : World} {g g2 g3 g4 : Nat} {a b c d a' b' c' d' a2 b2 c2 d2 a3 b3 c3 d3 : Value} (h : VSt4 w g g2 g3 g4 #[a, b, c, d] #[a', b', c', d'] #[a2, b2, c2, d2] #[a3, b3, c3, d3] W) : W.cell? ⟨g, 0, none⟩ = some a ∧ W.cell? ⟨g, 1, none⟩ = some b ∧ W.cell? ⟨g, 2, none⟩ = some c ∧ W.cell? ⟨g, 3, none⟩ = some d ∧ W.cell? ⟨g2, 0, none⟩ = some a' ∧ W.cell? ⟨g2, 1, none⟩ = some b' ∧ W.cell? ⟨g2, 2, none⟩ = some c' ∧ W.cell? ⟨g2, 3, none⟩ = some d' ∧ W.cell? ⟨g3, 0, none⟩ = some a2 ∧ W.cell? ⟨g3, 1, none⟩ = some b2 ∧ W.cell? ⟨g3, 2, none⟩ = some c2 ∧ W.cell? ⟨g3, 3, none⟩ = some d2 ∧ W.cell? ⟨g4, 0, none⟩ = some a3 ∧ W.cell? ⟨g4, 1, none⟩ = some b3 ∧ W.cell? ⟨g4, 2, none⟩ = some c3 ∧ W.cell? ⟨g4, 3, none⟩ = some d3 := by
  obtain ⟨x0, x1, x2, x3, y0, y1, y2, y3⟩ := h.st.cells
  have z0 := h.f.cell 0
  have z1 := h.f.cell 1
  have z2 := h.f.cell 2
  have z3 := h.f.cell 3
  have u0 := h.h.cell 0
  have u1 := h.h.cell 1
  have u2 := h.h.cell 2
  have u3 := h.h.cell 3
  simp at z0 z1 z2 z3 u0 u1 u2 u3
  exact ⟨x0, x1, x2, x3, y0, y1, y2, y3, z0, z1, z2, z3, u0, u1, u2, u3⟩
theorem VSt4.of_ {w : World} {g g2 g3 g4 : Nat} {cs cs2 cs3 cs4 : Array Value} {f : FuncId} {args : Array Value} {v : Value} (H : ∀ W, Chg NoS w W → Calls Try.prog f args W fun e w' => e = .returned v ∧ Chg NoS W w') (W : World) (h : VSt4 w g g2 g3 g4 cs cs2 cs3 cs4 W) : Calls Try.prog f args W fun e w' => e = .returned v ∧ VSt4 w g g2 g3 g4 cs cs2 cs3 cs4 w' :=
  (H W h.st.chg).mono fun _ _ ⟨he, hc⟩ => ⟨he, h.call hc⟩
def Val4 (w W : World) (g g2 g3 g4 : Nat) (cs cs2 cs3 cs4 : Array Value) (t : VT) (e : Ending) (w' : World) : Prop := ∃ (k n : Int) (s : ByteArray) (A : Option Addr) (len cap : Nat), e = .returned (.agg #[.int .i64 k, .int .i64 n, .string s, .slice A len cap]) ∧ ValIs w' t ⟨k, n, s, A, len, cap⟩ ∧ VSt4 w g g2 g3 g4 cs cs2 cs3 cs4 w' ∧ Chg NoS W w'
theorem VSt4.tree {w : World} {g g2 g3 g4 : Nat} {cs cs2 cs3 cs4 : Array Value} {f : FuncId} {args : Array Value} {t : VT} (H : ∀ W, Chg NoS w W → Calls Try.prog f args W (TreeTo W t)) (W : World) (h : VSt4 w g g2 g3 g4 cs cs2 cs3 cs4 W) : Calls Try.prog f args W (Val4 w W g g2 g3 g4 cs cs2 cs3 cs4 t) :=
  (H W h.st.chg).mono fun _ _ ⟨⟨k, n, s, A, len, cap⟩, he, hv, hc⟩ => ⟨k, n, s, A, len, cap, he, hv, h.call hc, hc⟩
theorem VSt4.same {w : World} {g g2 g3 g4 : Nat} {cs cs2 cs3 cs4 : Array Value} (t : VT) (k n : Int) (s : ByteArray) (A : Option Addr) (len cap : Nat) (k' n' : Int) (s' : ByteArray) (A' : Option Addr) (len' cap' : Nat) (W : World) (h : VSt4 w g g2 g3 g4 cs cs2 cs3 cs4 W) (h1 : ValIs W t ⟨k, n, s, A, len, cap⟩) (h2 : ValIs W t ⟨k', n', s', A', len', cap'⟩) :
    Calls Try.prog 18 #[.agg #[.int .i64 k, .int .i64 n, .string s, .slice A len cap], .agg #[.int .i64 k', .int .i64 n', .string s', .slice A' len' cap']] W fun e w' => e = .returned (.bool true) ∧ VSt4 w g g2 g3 g4 cs cs2 cs3 cs4 w' :=
  (rsame11_any t t ⟨k, n, s, A, len, cap⟩ ⟨k', n', s', A', len', cap'⟩ W h1 h2).mono fun _ _ ⟨he, hc⟩ => ⟨by rw [he, cmpT_self]; rfl, h.call hc⟩
set_option maxHeartbeats 8000000 in
set_option maxRecDepth 100000 in
theorem dicts_no1 (H : ValOk) (t t' : VT) (c c' : VC) (key : ByteArray) (w : World) (hv : ValIs w t c) (hv' : ValIs w t' c') (hkm : key.size ≤ maxLen) (hsm1 : ¬ 0 ≤ fewT t 300) :
    Calls Try.prog 6 #[c.val, c'.val, .string key] w fun e w' => e = .returned (.bool true) ∧ Chg NoS w w' := by
  obtain ⟨tk, tn, ts, l⟩ := t
  obtain ⟨h1, h2, h3, _, _, _⟩ := hv.inv
  subst h1 h2 h3
  have K1 := fun (W : World) (h : Chg NoS w W) => small_any _ c W (hv.chg h)
  have K2 := fun (W : World) (h : Chg NoS w W) => small_any t' c' W (hv'.chg h)
  obtain ⟨k, n, s, A, len, cap⟩ := c
  obtain ⟨k', n', s', A', len', cap'⟩ := c'
  simp only [] at hv hsm1
  obtain ⟨cs, hcs⟩ : ∃ cs : Array Value, cs = #[.int .i64 k, .int .i64 n, .string s, .slice A len cap] := ⟨_, rfl⟩
  obtain ⟨cs2, hcs2⟩ : ∃ cs : Array Value, cs = #[.int .i64 k', .int .i64 n', .string s', .slice A' len' cap'] := ⟨_, rfl⟩
  obtain ⟨W, hW⟩ : ∃ W, W = (w.alloc (.cells #[.int .i64 k, .int .i64 n, .string s, .slice A len cap] 24)).alloc (.cells #[.int .i64 k', .int .i64 n', .string s', .slice A' len' cap'] 24) := ⟨_, rfl⟩
  obtain ⟨g, hg⟩ : ∃ g, g = w.heap.size := ⟨_, rfl⟩
  obtain ⟨g2, hg2⟩ : ∃ g, g = w.heap.size + 1 := ⟨_, rfl⟩
  have hs1 : (w.alloc (.cells #[.int .i64 k, .int .i64 n, .string s, .slice A len cap] 24)).heap.size = w.heap.size + 1 := by simp
  have hst : VSt2 w g g2 cs cs2 W := ⟨by rw [hcs, hW, hg]; exact (Blk.new w _ _).alloc _, by rw [hcs2, hW, hg2, ← hs1]; exact Blk.new _ _ _, by rw [hW]; exact ((Chg.refl NoS w).alloc _).alloc _⟩
  have KW := keepf (VSt2.of_ (w := w) (g := g) (g2 := g2) (cs := cs) (cs2 := cs2) (fun W _ => H.works W))
  rw [show decide (0 ≤ fewT (.mk k n s l) 300) = false from by simpa using hsm1] at K1
  have KS1 := keepf (VSt2.of_ (w := w) (g := g) (g2 := g2) (cs := cs) (cs2 := cs2) K1)
  unfold VC.val at KS1 ⊢
  simp only [] at KS1 ⊢
  clear hv hv' H K1 K2 hsm1
  go_enter Try.func6, Try.ntmps6
  go_upto_region 1 with fail
  rw [← hW, ← hg2, ← hg]
  clear hW hg hg2 hs1
  subst hcs hcs2
  obtain ⟨p0, p1, p2, p3, q0, q1, q2, q3⟩ := hst.cells
  go_wp2_with first
    | (go_at_call 9; (with_reducible refine (KS1.out _ (by assumption)).mono ?_); rintro e wq ⟨rfl, hq⟩; obtain ⟨_, _, _, _, _, _, _, _⟩ := hq.cells)
    | (go_at_call 14; (with_reducible refine (KW.out _ (by assumption)).mono ?_); rintro e wq ⟨rfl, hq⟩; obtain ⟨_, _, _, _, _, _, _, _⟩ := hq.cells)
  go_ret
  exact ⟨rfl, (by assumption : VSt2 w g g2 #[.int .i64 k, .int .i64 n, .string s, .slice A len cap] #[.int .i64 k', .int .i64 n', .string s', .slice A' len' cap'] _).chg⟩
set_option maxHeartbeats 8000000 in
set_option maxRecDepth 100000 in
theorem dicts_no2 (H : ValOk) (t t' : VT) (c c' : VC) (key : ByteArray) (w : World) (hv : ValIs w t c) (hv' : ValIs w t' c') (hkm : key.size ≤ maxLen) (hsm1 : 0 ≤ fewT t 300) (hsm2 : ¬ 0 ≤ fewT t' 300) :
    Calls Try.prog 6 #[c.val, c'.val, .string key] w fun e w' => e = .returned (.bool true) ∧ Chg NoS w w' := by
  obtain ⟨tk, tn, ts, l⟩ := t
  obtain ⟨h1, h2, h3, _, _, _⟩ := hv.inv
  subst h1 h2 h3
  have K1 := fun (W : World) (h : Chg NoS w W) => small_any _ c W (hv.chg h)
  have K2 := fun (W : World) (h : Chg NoS w W) => small_any t' c' W (hv'.chg h)
  obtain ⟨k, n, s, A, len, cap⟩ := c
  obtain ⟨k', n', s', A', len', cap'⟩ := c'
  simp only [] at hv hsm1 hsm2
  obtain ⟨cs, hcs⟩ : ∃ cs : Array Value, cs = #[.int .i64 k, .int .i64 n, .string s, .slice A len cap] := ⟨_, rfl⟩
  obtain ⟨cs2, hcs2⟩ : ∃ cs : Array Value, cs = #[.int .i64 k', .int .i64 n', .string s', .slice A' len' cap'] := ⟨_, rfl⟩
  obtain ⟨W, hW⟩ : ∃ W, W = (w.alloc (.cells #[.int .i64 k, .int .i64 n, .string s, .slice A len cap] 24)).alloc (.cells #[.int .i64 k', .int .i64 n', .string s', .slice A' len' cap'] 24) := ⟨_, rfl⟩
  obtain ⟨g, hg⟩ : ∃ g, g = w.heap.size := ⟨_, rfl⟩
  obtain ⟨g2, hg2⟩ : ∃ g, g = w.heap.size + 1 := ⟨_, rfl⟩
  have hs1 : (w.alloc (.cells #[.int .i64 k, .int .i64 n, .string s, .slice A len cap] 24)).heap.size = w.heap.size + 1 := by simp
  have hst : VSt2 w g g2 cs cs2 W := ⟨by rw [hcs, hW, hg]; exact (Blk.new w _ _).alloc _, by rw [hcs2, hW, hg2, ← hs1]; exact Blk.new _ _ _, by rw [hW]; exact ((Chg.refl NoS w).alloc _).alloc _⟩
  have KW := keepf (VSt2.of_ (w := w) (g := g) (g2 := g2) (cs := cs) (cs2 := cs2) (fun W _ => H.works W))
  rw [show decide (0 ≤ fewT (.mk k n s l) 300) = true from by simpa using hsm1] at K1
  have KS1 := keepf (VSt2.of_ (w := w) (g := g) (g2 := g2) (cs := cs) (cs2 := cs2) K1)
  rw [show decide (0 ≤ fewT t' 300) = false from by simpa using hsm2] at K2
  have KS2 := keepf (VSt2.of_ (w := w) (g := g) (g2 := g2) (cs := cs) (cs2 := cs2) K2)
  unfold VC.val at KS1 KS2 ⊢
  simp only [] at KS1 KS2 ⊢
  clear hv hv' H K1 K2 hsm1 hsm2
  go_enter Try.func6, Try.ntmps6
  go_upto_region 1 with fail
  rw [← hW, ← hg2, ← hg]
  clear hW hg hg2 hs1
  subst hcs hcs2
  obtain ⟨p0, p1, p2, p3, q0, q1, q2, q3⟩ := hst.cells
  go_wp2_with first
    | (go_at_call 9; (with_reducible refine (KS1.out _ (by assumption)).mono ?_); rintro e wq ⟨rfl, hq⟩; obtain ⟨_, _, _, _, _, _, _, _⟩ := hq.cells)
    | (go_at_call 9; (with_reducible refine (KS2.out _ (by assumption)).mono ?_); rintro e wq ⟨rfl, hq⟩; obtain ⟨_, _, _, _, _, _, _, _⟩ := hq.cells)
    | (go_at_call 14; (with_reducible refine (KW.out _ (by assumption)).mono ?_); rintro e wq ⟨rfl, hq⟩; obtain ⟨_, _, _, _, _, _, _, _⟩ := hq.cells)
  go_ret
  exact ⟨rfl, (by assumption : VSt2 w g g2 #[.int .i64 k, .int .i64 n, .string s, .slice A len cap] #[.int .i64 k', .int .i64 n', .string s', .slice A' len' cap'] _).chg⟩
set_option maxHeartbeats 8000000 in
set_option maxRecDepth 100000 in
theorem dicts_no3 (H : ValOk) (t t' : VT) (c c' : VC) (key : ByteArray) (w : World) (hv : ValIs w t c) (hv' : ValIs w t' c') (hkm : key.size ≤ maxLen) (hsm1 : 0 ≤ fewT t 300) (hsm2 : 0 ≤ fewT t' 300) (h3 : ¬ key.size ≤ 300) :
    Calls Try.prog 6 #[c.val, c'.val, .string key] w fun e w' => e = .returned (.bool true) ∧ Chg NoS w w' := by
  obtain ⟨tk, tn, ts, l⟩ := t
  obtain ⟨h1, h2, h3, _, _, _⟩ := hv.inv
  subst h1 h2 h3
  have K1 := fun (W : World) (h : Chg NoS w W) => small_any _ c W (hv.chg h)
  have K2 := fun (W : World) (h : Chg NoS w W) => small_any t' c' W (hv'.chg h)
  obtain ⟨k, n, s, A, len, cap⟩ := c
  obtain ⟨k', n', s', A', len', cap'⟩ := c'
  simp only [] at hv hsm1 hsm2
  obtain ⟨cs, hcs⟩ : ∃ cs : Array Value, cs = #[.int .i64 k, .int .i64 n, .string s, .slice A len cap] := ⟨_, rfl⟩
  obtain ⟨cs2, hcs2⟩ : ∃ cs : Array Value, cs = #[.int .i64 k', .int .i64 n', .string s', .slice A' len' cap'] := ⟨_, rfl⟩
  obtain ⟨W, hW⟩ : ∃ W, W = (w.alloc (.cells #[.int .i64 k, .int .i64 n, .string s, .slice A len cap] 24)).alloc (.cells #[.int .i64 k', .int .i64 n', .string s', .slice A' len' cap'] 24) := ⟨_, rfl⟩
  obtain ⟨g, hg⟩ : ∃ g, g = w.heap.size := ⟨_, rfl⟩
  obtain ⟨g2, hg2⟩ : ∃ g, g = w.heap.size + 1 := ⟨_, rfl⟩
  have hs1 : (w.alloc (.cells #[.int .i64 k, .int .i64 n, .string s, .slice A len cap] 24)).heap.size = w.heap.size + 1 := by simp
  have hst : VSt2 w g g2 cs cs2 W := ⟨by rw [hcs, hW, hg]; exact (Blk.new w _ _).alloc _, by rw [hcs2, hW, hg2, ← hs1]; exact Blk.new _ _ _, by rw [hW]; exact ((Chg.refl NoS w).alloc _).alloc _⟩
  have KW := keepf (VSt2.of_ (w := w) (g := g) (g2 := g2) (cs := cs) (cs2 := cs2) (fun W _ => H.works W))
  rw [show decide (0 ≤ fewT (.mk k n s l) 300) = true from by simpa using hsm1] at K1
  have KS1 := keepf (VSt2.of_ (w := w) (g := g) (g2 := g2) (cs := cs) (cs2 := cs2) K1)
  rw [show decide (0 ≤ fewT t' 300) = true from by simpa using hsm2] at K2
  have KS2 := keepf (VSt2.of_ (w := w) (g := g) (g2 := g2) (cs := cs) (cs2 := cs2) K2)
  have d1 : decide ((300 : Int) < key.size) = true := by simp; omega
  unfold VC.val at KS1 KS2 ⊢
  simp only [] at KS1 KS2 ⊢
  clear hv hv' H K1 K2 hsm1 hsm2
  go_enter Try.func6, Try.ntmps6
  go_upto_region 1 with fail
  rw [← hW, ← hg2, ← hg]
  clear hW hg hg2 hs1
  subst hcs hcs2
  obtain ⟨p0, p1, p2, p3, q0, q1, q2, q3⟩ := hst.cells
  go_wp2_with first
    | (go_at_call 9; (with_reducible refine (KS1.out _ (by assumption)).mono ?_); rintro e wq ⟨rfl, hq⟩; obtain ⟨_, _, _, _, _, _, _, _⟩ := hq.cells)
    | (go_at_call 9; (with_reducible refine (KS2.out _ (by assumption)).mono ?_); rintro e wq ⟨rfl, hq⟩; obtain ⟨_, _, _, _, _, _, _, _⟩ := hq.cells)
    | (go_at_call 14; (with_reducible refine (KW.out _ (by assumption)).mono ?_); rintro e wq ⟨rfl, hq⟩; obtain ⟨_, _, _, _, _, _, _, _⟩ := hq.cells)
  go_ret
  exact ⟨rfl, (by assumption : VSt2 w g g2 #[.int .i64 k, .int .i64 n, .string s, .slice A len cap] #[.int .i64 k', .int .i64 n', .string s', .slice A' len' cap'] _).chg⟩
set_option maxHeartbeats 8000000 in
set_option maxRecDepth 100000 in
theorem dicts_yes (H : ValOk) (t t' : VT) (c c' : VC) (key : ByteArray) (w : World) (hv : ValIs w t c) (hv' : ValIs w t' c') (hkm : key.size ≤ maxLen) (hsm1 : 0 ≤ fewT t 300) (hsm2 : 0 ≤ fewT t' 300) (h3 : key.size ≤ 300) :
    Calls Try.prog 6 #[c.val, c'.val, .string key] w fun e w' => e = .returned (.bool true) ∧ Chg NoS w w' := by
  obtain ⟨tk, tn, ts, l⟩ := t
  obtain ⟨h1, h2, h3, _, _, _⟩ := hv.inv
  subst h1 h2 h3
  have K1 := fun (W : World) (h : Chg NoS w W) => small_any _ c W (hv.chg h)
  have K2 := fun (W : World) (h : Chg NoS w W) => small_any t' c' W (hv'.chg h)
  obtain ⟨k, n, s, A, len, cap⟩ := c
  obtain ⟨k', n', s', A', len', cap'⟩ := c'
  simp only [] at hv hsm1 hsm2
  obtain ⟨cs, hcs⟩ : ∃ cs : Array Value, cs = #[.int .i64 k, .int .i64 n, .string s, .slice A len cap] := ⟨_, rfl⟩
  obtain ⟨cs2, hcs2⟩ : ∃ cs : Array Value, cs = #[.int .i64 k', .int .i64 n', .string s', .slice A' len' cap'] := ⟨_, rfl⟩
  obtain ⟨W, hW⟩ : ∃ W, W = (w.alloc (.cells #[.int .i64 k, .int .i64 n, .string s, .slice A len cap] 24)).alloc (.cells #[.int .i64 k', .int .i64 n', .string s', .slice A' len' cap'] 24) := ⟨_, rfl⟩
  obtain ⟨g, hg⟩ : ∃ g, g = w.heap.size := ⟨_, rfl⟩
  obtain ⟨g2, hg2⟩ : ∃ g, g = w.heap.size + 1 := ⟨_, rfl⟩
  have hs1 : (w.alloc (.cells #[.int .i64 k, .int .i64 n, .string s, .slice A len cap] 24)).heap.size = w.heap.size + 1 := by simp
  have hst : VSt2 w g g2 cs cs2 W := ⟨by rw [hcs, hW, hg]; exact (Blk.new w _ _).alloc _, by rw [hcs2, hW, hg2, ← hs1]; exact Blk.new _ _ _, by rw [hW]; exact ((Chg.refl NoS w).alloc _).alloc _⟩
  have KW := keepf (VSt2.of_ (w := w) (g := g) (g2 := g2) (cs := cs) (cs2 := cs2) (fun W _ => H.works W))
  have hsz1 := small_siz hsm1
  have hsz2 := small_siz hsm2
  rw [sizT_mk] at hsz1
  rw [show decide (0 ≤ fewT (.mk k n s l) 300) = true from by simpa using hsm1] at K1
  have KS1 := keepf (VSt2.of_ (w := w) (g := g) (g2 := g2) (cs := cs) (cs2 := cs2) K1)
  rw [show decide (0 ≤ fewT t' 300) = true from by simpa using hsm2] at K2
  have KS2 := keepf (VSt2.of_ (w := w) (g := g) (g2 := g2) (cs := cs) (cs2 := cs2) K2)
  have d1 : decide ((300 : Int) < key.size) = false := by simp; omega
  obtain ⟨⟨u, is⟩, hu⟩ : ∃ x, getT k l key = x := ⟨_, rfl⟩
  have G1 := fun (W : World) (h : Chg NoS w W) => H.get ⟨k, n, s, A, len, cap⟩ l key W (hv.chg h) (by omega) hkm
  have G2 := fun (W : World) (h : Chg NoS w W) => rget_any ⟨k, n, s, A, len, cap⟩ l key W (hv.chg h) (by omega)
  simp only [] at G1 G2
  rw [hu] at G1 G2
  have KG := keepf (VSt2.got (w := w) (g := g) (g2 := g2) (cs := cs) (cs2 := cs2) G1)
  have KG2 := keepf (VSt2.got (w := w) (g := g) (g2 := g2) (cs := cs) (cs2 := cs2) G2)
  obtain ⟨pt, hpt⟩ : ∃ x, putT (.mk k n s l) key t' = x := ⟨_, rfl⟩
  obtain ⟨dt, hdt⟩ : ∃ x, dropT (.mk k n s l) key = x := ⟨_, rfl⟩
  have P1 := fun (W : World) (h : Chg NoS w W) => H.put ⟨k, n, s, A, len, cap⟩ ⟨k', n', s', A', len', cap'⟩ l t' key W (hv.chg h) (hv'.chg h) (by omega) (by omega) hkm
  have P2 := fun (W : World) (h : Chg NoS w W) => rput_any ⟨k, n, s, A, len, cap⟩ ⟨k', n', s', A', len', cap'⟩ l t' key W (hv.chg h) (hv'.chg h) (by omega) hkm
  have D1 := fun (W : World) (h : Chg NoS w W) => H.drop ⟨k, n, s, A, len, cap⟩ l key W (hv.chg h) (by omega) hkm
  have D2 := fun (W : World) (h : Chg NoS w W) => rdrop_any ⟨k, n, s, A, len, cap⟩ l key W (hv.chg h) (by omega)
  simp only [] at P1 P2 D1 D2
  rw [hpt] at P1 P2
  rw [hdt] at D1 D2
  have KP := fun g3 g4 k3 n3 s3 A3 len3 cap3 k4 n4 s4 A4 len4 cap4 => keepf (VSt4.tree (w := w) (g := g) (g2 := g2) (g3 := g3) (g4 := g4) (cs := #[.int .i64 k, .int .i64 n, .string s, .slice A len cap]) (cs2 := #[.int .i64 k', .int .i64 n', .string s', .slice A' len' cap']) (cs3 := #[.int .i64 k3, .int .i64 n3, .string s3, .slice A3 len3 cap3]) (cs4 := #[.int .i64 k4, .int .i64 n4, .string s4, .slice A4 len4 cap4]) P1)
  have KP2 := fun g3 g4 k3 n3 s3 A3 len3 cap3 k4 n4 s4 A4 len4 cap4 => keepf (VSt4.tree (w := w) (g := g) (g2 := g2) (g3 := g3) (g4 := g4) (cs := #[.int .i64 k, .int .i64 n, .string s, .slice A len cap]) (cs2 := #[.int .i64 k', .int .i64 n', .string s', .slice A' len' cap']) (cs3 := #[.int .i64 k3, .int .i64 n3, .string s3, .slice A3 len3 cap3]) (cs4 := #[.int .i64 k4, .int .i64 n4, .string s4, .slice A4 len4 cap4]) P2)
  have KD := fun g3 g4 k3 n3 s3 A3 len3 cap3 k4 n4 s4 A4 len4 cap4 => keepf (VSt4.tree (w := w) (g := g) (g2 := g2) (g3 := g3) (g4 := g4) (cs := #[.int .i64 k, .int .i64 n, .string s, .slice A len cap]) (cs2 := #[.int .i64 k', .int .i64 n', .string s', .slice A' len' cap']) (cs3 := #[.int .i64 k3, .int .i64 n3, .string s3, .slice A3 len3 cap3]) (cs4 := #[.int .i64 k4, .int .i64 n4, .string s4, .slice A4 len4 cap4]) D1)
  have KD2 := fun g3 g4 k3 n3 s3 A3 len3 cap3 k4 n4 s4 A4 len4 cap4 => keepf (VSt4.tree (w := w) (g := g) (g2 := g2) (g3 := g3) (g4 := g4) (cs := #[.int .i64 k, .int .i64 n, .string s, .slice A len cap]) (cs2 := #[.int .i64 k', .int .i64 n', .string s', .slice A' len' cap']) (cs3 := #[.int .i64 k3, .int .i64 n3, .string s3, .slice A3 len3 cap3]) (cs4 := #[.int .i64 k4, .int .i64 n4, .string s4, .slice A4 len4 cap4]) D2)
  have KW4 := fun g3 g4 k3 n3 s3 A3 len3 cap3 k4 n4 s4 A4 len4 cap4 => keepf (VSt4.of_ (w := w) (g := g) (g2 := g2) (g3 := g3) (g4 := g4) (cs := #[.int .i64 k, .int .i64 n, .string s, .slice A len cap]) (cs2 := #[.int .i64 k', .int .i64 n', .string s', .slice A' len' cap']) (cs3 := #[.int .i64 k3, .int .i64 n3, .string s3, .slice A3 len3 cap3]) (cs4 := #[.int .i64 k4, .int .i64 n4, .string s4, .slice A4 len4 cap4]) (fun W _ => H.works W))
  unfold VC.val at KS1 KS2 KG KG2 KP KP2 KD KD2 ⊢
  simp only [] at KS1 KS2 KG KG2 KP KP2 KD KD2 ⊢
  clear hv hv' H K1 K2 G1 G2 P1 P2 D1 D2 hsz1 hsz2 hsm1 hsm2 hu hpt hdt
  go_enter Try.func6, Try.ntmps6
  go_upto_region 1 with fail
  rw [← hW, ← hg2, ← hg]
  clear hW hg hg2 hs1
  subst hcs hcs2
  obtain ⟨p0, p1, p2, p3, q0, q1, q2, q3⟩ := hst.cells
  go_upto_region 3 with first
    | (go_at_call 9; (with_reducible refine (KS1.out _ (by assumption)).mono ?_); rintro e wq ⟨rfl, hq⟩; obtain ⟨_, _, _, _, _, _, _, _⟩ := hq.cells)
    | (go_at_call 9; (with_reducible refine (KS2.out _ (by assumption)).mono ?_); rintro e wq ⟨rfl, hq⟩; obtain ⟨_, _, _, _, _, _, _, _⟩ := hq.cells)
  go_upto_region 4 with (go_at_call 19; (with_reducible refine (KG.out _ (by assumption)).mono ?_); rintro e wa ⟨k3, n3, s3, A3, len3, cap3, rfl, hv3, hsa, hca⟩)
  have ha2 := hsa.alloc (.cells #[.int .i64 k3, .int .i64 n3, .string s3, .slice A3 len3 cap3] 24)
  have hba := Blk.new wa 24 #[.int .i64 k3, .int .i64 n3, .string s3, .slice A3 len3 cap3]
  have hva := hv3.chg ((Chg.refl NoS wa).alloc (.cells #[.int .i64 k3, .int .i64 n3, .string s3, .slice A3 len3 cap3] 24))
  obtain ⟨Wa, hWa⟩ : ∃ W, W = wa.alloc (.cells #[.int .i64 k3, .int .i64 n3, .string s3, .slice A3 len3 cap3] 24) := ⟨_, rfl⟩
  obtain ⟨g3, hg3⟩ : ∃ g, g = wa.heap.size := ⟨_, rfl⟩
  rw [← hWa] at ha2 hba hva
  rw [← hg3] at hba
  rw [← hWa, ← hg3]
  clear hWa hg3 hv3 hsa
  obtain ⟨_, _, _, _, _, _, _, _⟩ := ha2.cells
  go_upto_region 5 with (go_at_call 20; (with_reducible refine (KG2.out _ (by assumption)).mono ?_); rintro e wb ⟨k4, n4, s4, A4, len4, cap4, rfl, hv4, hsb, hcb⟩)
  obtain ⟨Wb, hWb⟩ : ∃ W, W = wb.alloc (.cells #[.int .i64 k4, .int .i64 n4, .string s4, .slice A4 len4 cap4] 24) := ⟨_, rfl⟩
  obtain ⟨g4, hg4⟩ : ∃ g, g = wb.heap.size := ⟨_, rfl⟩
  have st4 : VSt4 w g g2 g3 g4 #[.int .i64 k, .int .i64 n, .string s, .slice A len cap] #[.int .i64 k', .int .i64 n', .string s', .slice A' len' cap'] #[.int .i64 k3, .int .i64 n3, .string s3, .slice A3 len3 cap3] #[.int .i64 k4, .int .i64 n4, .string s4, .slice A4 len4 cap4] Wb := ⟨by rw [hWb]; exact hsb.alloc _, by rw [hWb]; exact (hba.chg hcb (fun e => e)).alloc _, by rw [hWb, hg4]; exact Blk.new wb _ _⟩
  have hA2 : ValIs Wb.drew u ⟨k3, n3, s3, A3, len3, cap3⟩ := by rw [hWb]; exact ((hva.chg hcb).chg ((Chg.refl NoS wb).alloc _)).chg (Chg.refl NoS _).drew
  have hB2 : ValIs Wb.drew u ⟨k4, n4, s4, A4, len4, cap4⟩ := by rw [hWb]; exact (hv4.chg ((Chg.refl NoS wb).alloc _)).chg (Chg.refl NoS _).drew
  have hdr := st4.drew
  rw [← hWb, ← hg4]
  clear hWb hg4 hsb hcb hba hva hv4
  have XP := KP g3 g4 k3 n3 s3 A3 len3 cap3 k4 n4 s4 A4 len4 cap4
  have XP2 := KP2 g3 g4 k3 n3 s3 A3 len3 cap3 k4 n4 s4 A4 len4 cap4
  have XD := KD g3 g4 k3 n3 s3 A3 len3 cap3 k4 n4 s4 A4 len4 cap4
  have XD2 := KD2 g3 g4 k3 n3 s3 A3 len3 cap3 k4 n4 s4 A4 len4 cap4
  have XW := KW4 g3 g4 k3 n3 s3 A3 len3 cap3 k4 n4 s4 A4 len4 cap4
  have XE := keepf (VSt4.same (w := w) (g := g) (g2 := g2) (g3 := g3) (g4 := g4) (cs := #[.int .i64 k, .int .i64 n, .string s, .slice A len cap]) (cs2 := #[.int .i64 k', .int .i64 n', .string s', .slice A' len' cap']) (cs3 := #[.int .i64 k3, .int .i64 n3, .string s3, .slice A3 len3 cap3]) (cs4 := #[.int .i64 k4, .int .i64 n4, .string s4, .slice A4 len4 cap4]))
  clear KP KP2 KD KD2 KW4
  obtain ⟨_, _, _, _, _, _, _, _, _, _, _, _, _, _, _, _⟩ := st4.cells
  first
    | (go_loud (go_region_held3 (fun w' => w'.cell? ⟨g, 0, none⟩ = some (.int .i64 k) ∧ w'.cell? ⟨g, 1, none⟩ = some (.int .i64 n) ∧ w'.cell? ⟨g, 2, none⟩ = some (.string s) ∧ w'.cell? ⟨g, 3, none⟩ = some (.slice A len cap) ∧ w'.cell? ⟨g2, 0, none⟩ = some (.int .i64 k') ∧ w'.cell? ⟨g2, 1, none⟩ = some (.int .i64 n') ∧ w'.cell? ⟨g2, 2, none⟩ = some (.string s') ∧ w'.cell? ⟨g2, 3, none⟩ = some (.slice A' len' cap') ∧ w'.cell? ⟨g3, 0, none⟩ = some (.int .i64 k3) ∧ w'.cell? ⟨g3, 1, none⟩ = some (.int .i64 n3) ∧ w'.cell? ⟨g3, 2, none⟩ = some (.string s3) ∧ w'.cell? ⟨g3, 3, none⟩ = some (.slice A3 len3 cap3) ∧ w'.cell? ⟨g4, 0, none⟩ = some (.int .i64 k4) ∧ w'.cell? ⟨g4, 1, none⟩ = some (.int .i64 n4) ∧ w'.cell? ⟨g4, 2, none⟩ = some (.string s4) ∧ w'.cell? ⟨g4, 3, none⟩ = some (.slice A4 len4 cap4))
        (first | (go_keep; done) | (go_split_ands; exact ⟨by assumption, by assumption, by assumption, by assumption, by assumption, by assumption, by assumption, by assumption, by assumption, by assumption, by assumption, by assumption, by assumption, by assumption, by assumption, by assumption⟩))
        (first
          | (go_at_call 18; (with_reducible refine (XE.out u k3 n3 s3 A3 len3 cap3 k4 n4 s4 A4 len4 cap4 _ (by assumption) (by first | exact hA2) (by first | exact hB2)).mono ?_); rintro e wq ⟨rfl, hq⟩; obtain ⟨_, _, _, _, _, _, _, _, _, _, _, _, _, _, _, _⟩ := hq.cells)
          | (go_at_call 21; (with_reducible refine (XP.out _ (by assumption)).mono ?_); rintro e wq ⟨k5, n5, s5, A5, len5, cap5, rfl, hv5, hq, hc5⟩; obtain ⟨_, _, _, _, _, _, _, _, _, _, _, _, _, _, _, _⟩ := hq.cells)
          | (go_at_call 22; (with_reducible refine (XP2.out _ (by assumption)).mono ?_); rintro e wq ⟨k6, n6, s6, A6, len6, cap6, rfl, hv6, hq, hc6⟩; obtain ⟨_, _, _, _, _, _, _, _, _, _, _, _, _, _, _, _⟩ := hq.cells)
          | (go_at_call 18; (with_reducible refine (XE.out pt k5 n5 s5 A5 len5 cap5 k6 n6 s6 A6 len6 cap6 _ (by assumption) (by first | exact hv5 | exact hv5.chg hc6) (by first | exact hv6 | exact hv6.chg hc5)).mono ?_); rintro e wq ⟨rfl, hq⟩; obtain ⟨_, _, _, _, _, _, _, _, _, _, _, _, _, _, _, _⟩ := hq.cells)
          | (go_at_call 23; (with_reducible refine (XD.out _ (by assumption)).mono ?_); rintro e wq ⟨k7, n7, s7, A7, len7, cap7, rfl, hv7, hq, hc7⟩; obtain ⟨_, _, _, _, _, _, _, _, _, _, _, _, _, _, _, _⟩ := hq.cells)
          | (go_at_call 24; (with_reducible refine (XD2.out _ (by assumption)).mono ?_); rintro e wq ⟨k8, n8, s8, A8, len8, cap8, rfl, hv8, hq, hc8⟩; obtain ⟨_, _, _, _, _, _, _, _, _, _, _, _, _, _, _, _⟩ := hq.cells)
          | (go_at_call 18; (with_reducible refine (XE.out dt k7 n7 s7 A7 len7 cap7 k8 n8 s8 A8 len8 cap8 _ (by assumption) (by first | exact hv7 | exact hv7.chg hc8) (by first | exact hv8 | exact hv8.chg hc7)).mono ?_); rintro e wq ⟨rfl, hq⟩; obtain ⟨_, _, _, _, _, _, _, _, _, _, _, _, _, _, _, _⟩ := hq.cells)
          | (go_at_call 14; (with_reducible refine (XW.out _ (by assumption)).mono ?_); rintro e wq ⟨rfl, hq⟩; obtain ⟨_, _, _, _, _, _, _, _, _, _, _, _, _, _, _, _⟩ := hq.cells)
          | fail "no arm")))
    | fail "region"
  all_goals
    go_wp2_with fail
    go_ret
    exact ⟨rfl, (by assumption : VSt4 w g g2 g3 g4 #[.int .i64 k, .int .i64 n, .string s, .slice A len cap] #[.int .i64 k', .int .i64 n', .string s', .slice A' len' cap'] #[.int .i64 k3, .int .i64 n3, .string s3, .slice A3 len3 cap3] #[.int .i64 k4, .int .i64 n4, .string s4, .slice A4 len4 cap4] _).st.chg⟩
theorem dictsW (H : ValOk) (t t' : VT) (c c' : VC) (key : ByteArray) (w : World) (hv : ValIs w t c) (hv' : ValIs w t' c') (hkm : key.size ≤ maxLen) :
    Calls Try.prog 6 #[c.val, c'.val, .string key] w fun e w' => e = .returned (.bool true) ∧ Chg NoS w w' := by
  by_cases h1 : 0 ≤ fewT t 300
  · by_cases h2 : 0 ≤ fewT t' 300
    · by_cases h3 : key.size ≤ 300
      · exact dicts_yes H t t' c c' key w hv hv' hkm h1 h2 h3
      · exact dicts_no3 H t t' c c' key w hv hv' hkm h1 h2 h3
    · exact dicts_no2 H t t' c c' key w hv hv' hkm h1 h2
  · exact dicts_no1 H t t' c c' key w hv hv' hkm h1
end Go.Proofs.Ytjbjfoingpnlmaa
