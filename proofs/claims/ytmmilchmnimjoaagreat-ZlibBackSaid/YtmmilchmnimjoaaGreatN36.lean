/- Merged by program: ZHd. -/
import Derived.Test.YtmmilchmnimjoaaGreatN32
import Derived.Test.YtmmilchmnimjoaaGreatN35
import Derived.Defers
import Derived.BigRegion
import Derived.BigQuiet
import Derived.Deep.QuietTactic
/- The small functions of zlib: isHead, Check, Head, checkSum, and the deferred calls; what the two functions with results that lie in cells keep there. -/
namespace Go.Proofs.YtmmilchmnimjoaaGreat
open Go.RowKit
set_option linter.unusedVariables false
set_option linter.unusedSimpArgs false
theorem and32 : ∀ k : Fin 29, bits BinOp.and IntKind.i64 ((128 + k.val : Nat) : Int) 32 = 0 := by decide
set_option maxRecDepth 100000 in
theorem zishead (y : Nat) (h1 : 128 ≤ y) (h2 : y ≤ 156) (w : World) :
    Calls Tryz.prog 22 #[.int .i64 120, .int .i64 (y : Nat)] w fun e w' => e = .returned (.bool (if y = 156 then true else false)) ∧ w = w' := by
  have a2 : bits BinOp.and IntKind.i64 (y : Int) 32 = 0 := by
    have h := and32 ⟨y - 128, by omega⟩
    rwa [show 128 + (y - 128) = y from by omega] at h
  have a1 : bits BinOp.and IntKind.i64 120 15 = 8 := by decide
  by_cases h : y = 156
  · subst h
    rw [if_pos rfl]
    go_enter Tryz.func22, Tryz.ntmps22
    go_wp2_with fail
    go_ret
    exact ⟨rfl, rfl⟩
  · rw [if_neg h]
    have u3 : ((30720 + (y : Int)) % 31 == 0) = false := by simp; omega
    have u4 : ((30720 + (y : Int)) % 31 != 0) = true := by simp; omega
    clear h
    go_enter Tryz.func22, Tryz.ntmps22
    go_wp2_with fail
    go_ret
    exact ⟨rfl, rfl⟩
theorem zcheck_short (A : Option Addr) (n c : Nat) (w : World) (hn : n < 2) :
    Calls Tryz.prog 10 #[.slice A n c] w fun e w' => e = .returned (.int .i64 10) ∧ Chg NoS w w' := by
  have d1 : decide ((n : Int) < 2) = true := by simp; omega
  have d1' : decide (n < 2) = true := by simp; omega
  go_enter Tryz.func10, Tryz.ntmps10
  go_wp2_with fail
  go_ret
  exact ⟨rfl, Chg.refl _ _⟩
theorem zcheck_nil (w : World) : Calls Tryz.prog 10 #[.slice none 0 0] w fun e w' => e = .returned (.int .i64 10) ∧ Chg NoS w w' := zcheck_short none 0 0 w (by decide)
set_option maxRecDepth 100000 in
theorem zcheck_h (n c b off : Nat) (w : World) (hn : 2 ≤ n) (hm : n ≤ 1000000) (h0 : w.cell? ⟨b, off, none⟩ = some (.int .u8 120)) (h1 : w.cell? ⟨b, off + 1, none⟩ = some (.int .u8 156)) :
    Calls Tryz.prog 10 #[.slice (some ⟨b, off, none⟩) n c] w fun e w' => e = .returned (.int .i64 0) ∧ Chg NoS w w' := by
  have d1 : decide ((n : Int) < 2) = false := by simp; omega
  have i0 : (0 : Int) < n := by omega
  have i1 : (1 : Int) < n := by omega
  have HH := keepf (fun W => zishead 156 (by omega) (by omega) W)
  go_enter Tryz.func10, Tryz.ntmps10
  go_upto_region 3 with fail
  go_quiet ((go_at_call 22; exact quiet_left (HH.out _)))
  go_wp2_with fail
  go_ret
  exact ⟨rfl, (Chg.refl NoS w).drewN nq⟩
set_option maxRecDepth 100000 in
theorem zhead2 (w : World) : Calls Tryz.prog 12 #[.int .i64 2] w fun e w' => e = .returned (.slice (some ⟨w.heap.size, 0, none⟩) 2 2) ∧ w' = w.alloc (.cells #[.int .u8 120, .int .u8 156] 5) := by
  go_enter Tryz.func12, Tryz.ntmps12
  go_upto_region 4 with fail
  go_loopw [4] (fun vk wr => ∃ k : Nat, k ≤ 28 ∧ vk = .int .i64 (128 + k : Nat) ∧ wr = w) (fun vk _ => 156 - (intOf vk).toNat)
  case atStart => exact ⟨0, by omega, by go_num, rfl⟩
  case round =>
    obtain ⟨k, hk, rfl, rfl⟩ := hrel
    obtain ⟨y, hy⟩ : ∃ y, y = 128 + k := ⟨_, rfl⟩
    rw [← hy]
    have HH := keepf (fun W => zishead y (by omega) (by omega) W)
    have HYK := keepf hy
    have hy9 : y ≤ 156 := by omega
    clear hy
    by_cases h28 : y = 156
    · rw [if_pos h28] at HH
      have HY := keepf h28
      clear h28
      go_wp2_with (go_at_call 22; refine (HH.out _).mono ?_; rintro e w' ⟨rfl, rfl⟩)
      go_ret
      obtain rfl := HY.out
      exact ⟨rfl, rfl⟩
    · rw [if_neg h28] at HH
      go_wp2_with (go_at_call 22; refine (HH.out _).mono ?_; rintro e w' ⟨rfl, rfl⟩)
      go_roundw
      case rel => exact ⟨k + 1, by have := HYK.out; omega, congrArg (Value.int .i64) (by have := HYK.out; omega), by simp⟩
      case measure => simp [intOf]; omega
theorem zhead_own (w : World) : Calls Tryz.prog 12 #[.int .i64 2] w fun e w' => ∃ A, e = .returned (.slice A 2 2) ∧ w'.ownsRow 0 5 1 (.slice A 2 2) 2 (ucells [120, 156]) ∧ Chg NoS w w' := by
  refine (zhead2 w).mono ?_
  rintro e w' ⟨rfl, rfl⟩
  exact ⟨_, rfl, own_of w 5 #[.int .u8 120, .int .u8 156] 2 rfl (by omega), (Chg.refl NoS w).alloc _⟩
theorem own_set {base : Nat} {e t : TypeId} {size n g : Nat} {v : Value} {xs : List Value} {cs : Array Value} {w : World} (h : w.ownsRow base e size v n xs) (hg : Blk w g t cs) (hne : e ≠ t) (u : Value) : (w.setCell ⟨g, 0, none⟩ u).ownsRow base e size v n xs :=
  own_chg (S := fun i => i = g) h ((Chg.refl (fun i => i = g) w).setCell (p := ⟨g, 0, none⟩) (fun _ => rfl) u) (fun g' hg' h' => own_ne_blk h hg hne (by rw [← h']; exact hg'))
structure UF (w wx : World) (v4 v5 v6 : Value) : Prop where
  b4 : Blk wx w.heap.size 22 #[v4]
  b5 : Blk wx (w.heap.size + 1) 3 #[v5]
  b6 : Blk wx (w.heap.size + 1 + 1) 24 #[v6]
  chg : Chg NoS w wx
section
variable {w wx wy : World} {v4 v5 v6 : Value}
theorem UF.new (w : World) : UF w (((w.alloc (.cells #[.slice none 0 0] 22)).alloc (.cells #[.int .i64 0] 3)).alloc (.cells #[.int .i64 0] 24)) (.slice none 0 0) (.int .i64 0) (.int .i64 0) := by
  have h5 := Blk.new (w.alloc (.cells #[.slice none 0 0] 22)) 3 #[.int .i64 0]
  have h6 := Blk.new ((w.alloc (.cells #[.slice none 0 0] 22)).alloc (.cells #[.int .i64 0] 3)) 24 #[.int .i64 0]
  rw [World.size_alloc] at h5
  rw [World.size_alloc, World.size_alloc] at h6
  exact ⟨((Blk.new w _ _).alloc _).alloc _, h5.alloc _, h6, (((Chg.refl NoS w).alloc _).alloc _).alloc _⟩
theorem UF.call (h : UF w wx v4 v5 v6) (hc : Chg NoS wx wy) : UF w wy v4 v5 v6 :=
  ⟨h.b4.chg hc (fun e => e), h.b5.chg hc (fun e => e), h.b6.chg hc (fun e => e), h.chg.trans hc (fun _ _ e => e)⟩
theorem UF.set4 (h : UF w wx v4 v5 v6) (u : Value) : UF w (wx.setCell ⟨w.heap.size, 0, none⟩ u) u v5 v6 :=
  ⟨by simpa using h.b4.set_ 0 u, h.b5.far (p := ⟨w.heap.size, 0, none⟩) (show w.heap.size + 1 ≠ w.heap.size by omega) u, h.b6.far (p := ⟨w.heap.size, 0, none⟩) (show w.heap.size + 1 + 1 ≠ w.heap.size by omega) u, h.chg.setCell (p := ⟨w.heap.size, 0, none⟩) (fun e => absurd e (Nat.lt_irrefl _)) u⟩
theorem UF.set5 (h : UF w wx v4 v5 v6) (u : Value) : UF w (wx.setCell ⟨w.heap.size + 1, 0, none⟩ u) v4 u v6 :=
  ⟨h.b4.far (p := ⟨w.heap.size + 1, 0, none⟩) (show w.heap.size ≠ w.heap.size + 1 by omega) u, by simpa using h.b5.set_ 0 u, h.b6.far (p := ⟨w.heap.size + 1, 0, none⟩) (show w.heap.size + 1 + 1 ≠ w.heap.size + 1 by omega) u, h.chg.setCell (p := ⟨w.heap.size + 1, 0, none⟩) (fun e => absurd e (show ¬ w.heap.size + 1 < w.heap.size by omega)) u⟩
theorem UF.set6 (h : UF w wx v4 v5 v6) (u : Value) : UF w (wx.setCell ⟨w.heap.size + 1 + 1, 0, none⟩ u) v4 v5 u :=
  ⟨h.b4.far (p := ⟨w.heap.size + 1 + 1, 0, none⟩) (show w.heap.size ≠ w.heap.size + 1 + 1 by omega) u, h.b5.far (p := ⟨w.heap.size + 1 + 1, 0, none⟩) (show w.heap.size + 1 ≠ w.heap.size + 1 + 1 by omega) u, by simpa using h.b6.set_ 0 u, h.chg.setCell (p := ⟨w.heap.size + 1 + 1, 0, none⟩) (fun e => absurd e (show ¬ w.heap.size + 1 + 1 < w.heap.size by omega)) u⟩
theorem UF.drew (h : UF w wx v4 v5 v6) : UF w wx.drew v4 v5 v6 := ⟨h.b4, h.b5, h.b6, h.chg.drew⟩
theorem UF.c4 (h : UF w wx v4 v5 v6) : wx.cell? ⟨w.heap.size, 0, none⟩ = some v4 := by simpa using h.b4.cell 0
theorem UF.c5 (h : UF w wx v4 v5 v6) : wx.cell? ⟨w.heap.size + 1, 0, none⟩ = some v5 := by simpa using h.b5.cell 0
theorem UF.c6 (h : UF w wx v4 v5 v6) : wx.cell? ⟨w.heap.size + 1 + 1, 0, none⟩ = some v6 := by simpa using h.b6.cell 0
end
theorem zudefer_ok (p6 p4 p5 : Addr) (u : FrameMode) (w : World) (hc : w.cell? p6 = some (.int .i64 0)) :
    CallsD Tryz.prog 16 #[.pointer (some p6), .pointer (some p4), .pointer (some p5)] u w fun e u' w' => u' = u ∧ (e = .returned (.tuple #[]) ∧ w' = w) := by
  go_enter_d Tryz.func16, Tryz.ntmps16
  go_wp2
  go_end0
  exact ⟨rfl, rfl⟩
theorem zudefer_no (p6 p4 p5 : Addr) (k : Int) (v x : Value) (hk : k ≠ 0) (u : FrameMode) (w : World) (hc : w.cell? p6 = some (.int .i64 k)) (ho : w.cell? p4 = some v) (hz : w.frozen? p4 = false) (hn : (w.setCell p4 (.slice none 0 0)).cell? p5 = some x) (hy : (w.setCell p4 (.slice none 0 0)).frozen? p5 = false) :
    CallsD Tryz.prog 16 #[.pointer (some p6), .pointer (some p4), .pointer (some p5)] u w fun e u' w' => u' = u ∧ (e = .returned (.tuple #[]) ∧ w' = (w.setCell p4 (.slice none 0 0)).setCell p5 (.int .i64 0)) := by
  have v2 : (k != 0) = true := by simpa using hk
  have v3 : (k == 0) = false := by simpa using hk
  clear hk
  go_enter_d Tryz.func16, Tryz.ntmps16
  go_wp2
  go_end0
  exact ⟨rfl, rfl⟩
set_option maxRecDepth 100000 in
theorem zuleave_ok {F : Ending → World → Prop} {w W : World} {v4 v5 : Value} {x0 x1 x2 x3 x7 x8 x9 x10 x11 x12 x13 x14 x15 x16 x17 x18 x19 x20 x21 x22 x23 x24 x25 x26 x27 x28 x29 x30 x31 x32 x33 x34 x35 x36 : Value} (h : UF w W v4 v5 (.int .i64 0)) (hF : F (.returned (.tuple #[v4, v5, .int .i64 0])) W) :
    bodyPostD Tryz.prog Tryz.f8 F Exit.ret { tmps := #[x0, x1, x2, x3, .pointer (some ⟨w.heap.size, 0, none⟩), .pointer (some ⟨w.heap.size + 1, 0, none⟩), .pointer (some ⟨w.heap.size + 1 + 1, 0, none⟩), x7, x8, x9, x10, x11, x12, x13, x14, x15, x16, x17, x18, x19, x20, x21, x22, x23, x24, x25, x26, x27, x28, x29, x30, x31, x32, x33, x34, x35, x36], defers := [{ target := .fn (.func 16) #[.pointer (some ⟨w.heap.size + 1 + 1, 0, none⟩), .pointer (some ⟨w.heap.size, 0, none⟩), .pointer (some ⟨w.heap.size + 1, 0, none⟩)], args := #[] }] } W := by
  have c4 := h.c4
  have c5 := h.c5
  have c6 := h.c6
  refine leaves_cons (f := 16) (args := #[.pointer (some ⟨w.heap.size + 1 + 1, 0, none⟩), .pointer (some ⟨w.heap.size, 0, none⟩), .pointer (some ⟨w.heap.size + 1, 0, none⟩)]) (by simp) (by simp [go_sem]) ?_
  refine (zudefer_ok ⟨w.heap.size + 1 + 1, 0, none⟩ ⟨w.heap.size, 0, none⟩ ⟨w.heap.size + 1, 0, none⟩ .returning W c6).mono ?_
  rintro e u' w'' ⟨rfl, rfl, rfl⟩
  simp [Leaves, settle, results, Tryz.results8, go_sem, c4, c5, c6]
  exact hF
set_option maxRecDepth 100000 in
theorem zuleave_no {F : Ending → World → Prop} {w W : World} {v4 v5 : Value} {k : Int} {x0 x1 x2 x3 x7 x8 x9 x10 x11 x12 x13 x14 x15 x16 x17 x18 x19 x20 x21 x22 x23 x24 x25 x26 x27 x28 x29 x30 x31 x32 x33 x34 x35 x36 : Value} (hk : k ≠ 0) (h : UF w W v4 v5 (.int .i64 k)) (hF : ∀ W', UF w W' (.slice none 0 0) (.int .i64 0) (.int .i64 k) → F (.returned (.tuple #[.slice none 0 0, .int .i64 0, .int .i64 k])) W') :
    bodyPostD Tryz.prog Tryz.f8 F Exit.ret { tmps := #[x0, x1, x2, x3, .pointer (some ⟨w.heap.size, 0, none⟩), .pointer (some ⟨w.heap.size + 1, 0, none⟩), .pointer (some ⟨w.heap.size + 1 + 1, 0, none⟩), x7, x8, x9, x10, x11, x12, x13, x14, x15, x16, x17, x18, x19, x20, x21, x22, x23, x24, x25, x26, x27, x28, x29, x30, x31, x32, x33, x34, x35, x36], defers := [{ target := .fn (.func 16) #[.pointer (some ⟨w.heap.size + 1 + 1, 0, none⟩), .pointer (some ⟨w.heap.size, 0, none⟩), .pointer (some ⟨w.heap.size + 1, 0, none⟩)], args := #[] }] } W := by
  have h4 := h.set4 (.slice none 0 0)
  have h5 := h4.set5 (.int .i64 0)
  refine leaves_cons (f := 16) (args := #[.pointer (some ⟨w.heap.size + 1 + 1, 0, none⟩), .pointer (some ⟨w.heap.size, 0, none⟩), .pointer (some ⟨w.heap.size + 1, 0, none⟩)]) (by simp) (by simp [go_sem]) ?_
  refine (zudefer_no ⟨w.heap.size + 1 + 1, 0, none⟩ ⟨w.heap.size, 0, none⟩ ⟨w.heap.size + 1, 0, none⟩ k _ _ hk .returning W h.c6 h.c4 (h.b4.frozen 0) h4.c5 (h4.b5.frozen 0)).mono ?_
  obtain ⟨W2, hW2⟩ : ∃ W2, W2 = (W.setCell ⟨w.heap.size, 0, none⟩ (.slice none 0 0)).setCell ⟨w.heap.size + 1, 0, none⟩ (.int .i64 0) := ⟨_, rfl⟩
  rw [← hW2] at h5 ⊢
  have c4 := h5.c4
  have c5 := h5.c5
  have c6 := h5.c6
  clear hW2
  rintro e u' w'' ⟨rfl, rfl, rfl⟩
  simp [Leaves, settle, results, Tryz.results8, go_sem, c4, c5, c6]
  exact hF _ h5
theorem zdefer_ok (pe po : Addr) (u : FrameMode) (w : World) (hc : w.cell? pe = some (.int .i64 0)) :
    CallsD Tryz.prog 23 #[.pointer (some pe), .pointer (some po)] u w fun e u' w' => u' = u ∧ (e = .returned (.tuple #[]) ∧ w' = w) := by
  go_enter_d Tryz.func23, Tryz.ntmps23
  go_wp2
  go_end0
  exact ⟨rfl, rfl⟩
theorem zdefer_no (pe po : Addr) (k : Int) (v : Value) (hk : k ≠ 0) (u : FrameMode) (w : World) (hc : w.cell? pe = some (.int .i64 k)) (ho : w.cell? po = some v) (hz : w.frozen? po = false) :
    CallsD Tryz.prog 23 #[.pointer (some pe), .pointer (some po)] u w fun e u' w' => u' = u ∧ (e = .returned (.tuple #[]) ∧ w' = w.setCell po (.slice none 0 0)) := by
  have v2 : (k != 0) = true := by simpa using hk
  have v3 : (k == 0) = false := by simpa using hk
  clear hk
  go_enter_d Tryz.func23, Tryz.ntmps23
  go_wp2
  go_end0
  exact ⟨rfl, rfl⟩
structure PF (w wx : World) (v4 v5 : Value) : Prop where
  b4 : Blk wx w.heap.size 22 #[v4]
  b5 : Blk wx (w.heap.size + 1) 24 #[v5]
  chg : Chg NoS w wx
section
variable {w wx wy : World} {v4 v5 : Value}
theorem PF.new (w : World) : PF w ((w.alloc (.cells #[.slice none 0 0] 22)).alloc (.cells #[.int .i64 0] 24)) (.slice none 0 0) (.int .i64 0) := by
  have h5 := Blk.new (w.alloc (.cells #[.slice none 0 0] 22)) 24 #[.int .i64 0]
  rw [World.size_alloc] at h5
  exact ⟨(Blk.new w _ _).alloc _, h5, ((Chg.refl NoS w).alloc _).alloc _⟩
theorem PF.call (h : PF w wx v4 v5) (hc : Chg NoS wx wy) : PF w wy v4 v5 :=
  ⟨h.b4.chg hc (fun e => e), h.b5.chg hc (fun e => e), h.chg.trans hc (fun _ _ e => e)⟩
theorem PF.set4 (h : PF w wx v4 v5) (u : Value) : PF w (wx.setCell ⟨w.heap.size, 0, none⟩ u) u v5 :=
  ⟨by simpa using h.b4.set_ 0 u, h.b5.far (p := ⟨w.heap.size, 0, none⟩) (show w.heap.size + 1 ≠ w.heap.size by omega) u, h.chg.setCell (p := ⟨w.heap.size, 0, none⟩) (fun e => absurd e (Nat.lt_irrefl _)) u⟩
theorem PF.set5 (h : PF w wx v4 v5) (u : Value) : PF w (wx.setCell ⟨w.heap.size + 1, 0, none⟩ u) v4 u :=
  ⟨h.b4.far (p := ⟨w.heap.size + 1, 0, none⟩) (show w.heap.size ≠ w.heap.size + 1 by omega) u, by simpa using h.b5.set_ 0 u, h.chg.setCell (p := ⟨w.heap.size + 1, 0, none⟩) (fun e => absurd e (show ¬ w.heap.size + 1 < w.heap.size by omega)) u⟩
theorem PF.drew (h : PF w wx v4 v5) : PF w wx.drew v4 v5 := ⟨h.b4, h.b5, h.chg.drew⟩
theorem PF.c4 (h : PF w wx v4 v5) : wx.cell? ⟨w.heap.size, 0, none⟩ = some v4 := by simpa using h.b4.cell 0
theorem PF.c5 (h : PF w wx v4 v5) : wx.cell? ⟨w.heap.size + 1, 0, none⟩ = some v5 := by simpa using h.b5.cell 0
end
set_option maxRecDepth 100000 in
theorem zpleave_ok {F : Ending → World → Prop} {w W : World} {v4 : Value} {x0 x1 x2 x3 x6 x7 x8 x9 x10 x11 x12 x13 x14 x15 x16 x17 x18 x19 x20 x21 x22 x23 : Value} (h : PF w W v4 (.int .i64 0)) (hF : F (.returned (.tuple #[v4, .int .i64 0])) W) :
    bodyPostD Tryz.prog Tryz.f14 F Exit.ret { tmps := #[x0, x1, x2, x3, .pointer (some ⟨w.heap.size, 0, none⟩), .pointer (some ⟨w.heap.size + 1, 0, none⟩), x6, x7, x8, x9, x10, x11, x12, x13, x14, x15, x16, x17, x18, x19, x20, x21, x22, x23], defers := [{ target := .fn (.func 23) #[.pointer (some ⟨w.heap.size + 1, 0, none⟩), .pointer (some ⟨w.heap.size, 0, none⟩)], args := #[] }] } W := by
  have c4 := h.c4
  have c5 := h.c5
  refine leaves_cons (f := 23) (args := #[.pointer (some ⟨w.heap.size + 1, 0, none⟩), .pointer (some ⟨w.heap.size, 0, none⟩)]) (by simp) (by simp [go_sem]) ?_
  refine (zdefer_ok ⟨w.heap.size + 1, 0, none⟩ ⟨w.heap.size, 0, none⟩ .returning W c5).mono ?_
  rintro e u' w'' ⟨rfl, rfl, rfl⟩
  simp [Leaves, settle, results, Tryz.results14, go_sem, c4, c5]
  exact hF
set_option maxRecDepth 100000 in
theorem zpleave_no {F : Ending → World → Prop} {w W : World} {v4 : Value} {k : Int} {x0 x1 x2 x3 x6 x7 x8 x9 x10 x11 x12 x13 x14 x15 x16 x17 x18 x19 x20 x21 x22 x23 : Value} (hk : k ≠ 0) (h : PF w W v4 (.int .i64 k)) (hF : ∀ W', PF w W' (.slice none 0 0) (.int .i64 k) → F (.returned (.tuple #[.slice none 0 0, .int .i64 k])) W') :
    bodyPostD Tryz.prog Tryz.f14 F Exit.ret { tmps := #[x0, x1, x2, x3, .pointer (some ⟨w.heap.size, 0, none⟩), .pointer (some ⟨w.heap.size + 1, 0, none⟩), x6, x7, x8, x9, x10, x11, x12, x13, x14, x15, x16, x17, x18, x19, x20, x21, x22, x23], defers := [{ target := .fn (.func 23) #[.pointer (some ⟨w.heap.size + 1, 0, none⟩), .pointer (some ⟨w.heap.size, 0, none⟩)], args := #[] }] } W := by
  have h4 := h.set4 (.slice none 0 0)
  refine leaves_cons (f := 23) (args := #[.pointer (some ⟨w.heap.size + 1, 0, none⟩), .pointer (some ⟨w.heap.size, 0, none⟩)]) (by simp) (by simp [go_sem]) ?_
  refine (zdefer_no ⟨w.heap.size + 1, 0, none⟩ ⟨w.heap.size, 0, none⟩ k _ hk .returning W h.c5 h.c4 (h.b4.frozen 0)).mono ?_
  obtain ⟨W2, hW2⟩ : ∃ W2, W2 = W.setCell ⟨w.heap.size, 0, none⟩ (.slice none 0 0) := ⟨_, rfl⟩
  rw [← hW2] at h4 ⊢
  have c4 := h4.c4
  have c5 := h4.c5
  clear hW2
  rintro e u' w'' ⟨rfl, rfl, rfl⟩
  simp [Leaves, settle, results, Tryz.results14, go_sem, c4, c5]
  exact hF _ h4
theorem zsum_short (A A2 : Option Addr) (r c m c2 : Nat) (w : World) (hr : r < 4) :
    Calls Tryz.prog 18 #[.slice A r c, .slice A2 m c2] w fun e w' => e = .returned (.int .i64 10) ∧ Chg NoS w w' := by
  have d4 : decide ((r : Int) < 4) = true := by simp; omega
  have d4' : decide (r < 4) = true := by simp; omega
  go_enter Tryz.func18, Tryz.ntmps18
  go_wp2_with fail
  go_ret
  exact ⟨rfl, Chg.refl _ _⟩
end Go.Proofs.YtmmilchmnimjoaaGreat
