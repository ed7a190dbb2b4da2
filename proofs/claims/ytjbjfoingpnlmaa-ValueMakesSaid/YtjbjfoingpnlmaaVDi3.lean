/- The program's DictOf of less than two values; and of any at most 40. -/
import Derived.Test.YtjbjfoingpnlmaaVDi2
namespace Go.Proofs.Ytjbjfoingpnlmaa
open Go.RowKit
set_option linter.unusedVariables false
set_option linter.unusedSimpArgs false

set_option maxHeartbeats 4000000 in
set_option maxRecDepth 100000 in
theorem dictOf_none (A : Option Addr) (len cap : Nat) (w : World) (hA : A = none → len = 0 ∧ cap = 0) (h1 : len ≤ 1) :
    Calls Try.prog 29 #[.slice A len cap] w (TreeTo w (.mk 7 0 ⟨#[]⟩ [])) := by
  have t1 : (len : Int).tdiv 2 = 0 := by rw [Int.tdiv_eq_ediv_of_nonneg (by omega)]; omega
  have t2 : (len : Int) / 2 = 0 := by omega
  have j1 : (0 : Int) ≤ cap := by omega
  have HCK := keepf (fun W => chunkV_any W A 0 cap)
  have HSN := keepf (fun (A1 : Option Addr) (c1 : Nat) (W : World) => sortP_none A1 c1 (.func (.func 50) #[] #[]) W)
  have HC1 := keepf ((Chg.refl NoS w).alloc (.cells #[.int .i64 0, .int .i64 0, .string ⟨#[]⟩, .slice none 0 0] 24))
  have HO := keepf (⟨Blk.new w 24 #[.int .i64 0, .int .i64 0, .string ⟨#[]⟩, .slice none 0 0], Nat.le_refl _⟩ : PB w _ _ _)
  have hbs := (Blk.new (w.alloc (.cells #[.int .i64 0, .int .i64 0, .string ⟨#[]⟩, .slice none 0 0] 24)) 22 #[.slice A 0 cap]).alloc (.cells #[.int .i64 2] 3)
  have hbn := Blk.new ((w.alloc (.cells #[.int .i64 0, .int .i64 0, .string ⟨#[]⟩, .slice none 0 0] 24)).alloc (.cells #[.slice A 0 cap] 22)) 3 #[.int .i64 2]
  simp only [World.size_alloc] at hbs hbn
  have HCC := keepf (collect_any 0 _ _ 0 0 cap A _ (by omega) (fun h => absurd h (by omega)) (by omega) (hbs.cell 0) (hbn.cell 0))
  clear hbs hbn
  cases A with
  | none =>
    obtain ⟨rfl, rfl⟩ := hA rfl
    go_enter Try.func29, Try.ntmps29
    go_upto_region 5 with (first
      | (go_at_call 48; refine (HCK.out _).mono ?_; rintro e w3 ⟨rfl, rfl⟩)
      | (go_at_call 47; refine HCC.out.mono ?_; rintro e w4 ⟨v, rfl, hrow, hb4⟩; obtain ⟨A1, c1, rfl, _⟩ := own_slice hrow; have HC4 := keepf (((HC1.out.alloc _).alloc _).trans (Chg.of_below (S := NoS) hb4) (fun _ _ e => e)); have HO4 := keepf (((HO.out.alloc _).alloc _).call (Chg.of_below (S := NoS) hb4)); clear hrow hb4)
      | (go_at_call 49; refine (HSN.out _ _ _).mono ?_; rintro e w5 ⟨rfl, h5⟩; subst h5))
    have HX : Hid (Bx w (w5.alloc (.cells #[.int .i64 7, .int .i64 0, .string ⟨#[]⟩, .slice none 0 0] 24)) w5.heap.size w.heap.size #[.int .i64 7, .int .i64 0, .string ⟨#[]⟩, .slice none 0 0] #[.int .i64 0, .int .i64 0, .string ⟨#[]⟩, .slice none 0 0] [] [] 0 none 0) :=
      ⟨⟨Blk.new _ _ _, HC4.out.size⟩, ⟨HO4.out.blk.alloc _, HO4.out.new⟩, GV.start (HC4.out.alloc _), fun e => (by cases e), fun e => (by cases e), fun e => by have := HO4.out.blk.lt; omega⟩
    go_loopw [20] (fun v wr => v = .int .i64 0 ∧ wr = w5.alloc (.cells #[.int .i64 7, .int .i64 0, .string ⟨#[]⟩, .slice none 0 0] 24)) (fun _ _ => 0)
    case atStart => exact ⟨rfl, rfl⟩
    case round =>
      obtain ⟨rfl, hwr⟩ := hrel
      rw [← hwr] at HX
      obtain ⟨g4, hg4⟩ : ∃ g, g = w5.heap.size := ⟨_, rfl⟩
      rw [← hg4] at HX ⊢
      clear hwr hg4
      have q0 := HX.out.b.blk.cell 0
      have q1 := HX.out.b.blk.cell 1
      have q2 := HX.out.b.blk.cell 2
      have q3 := HX.out.b.blk.cell 3
      have z0 := HX.out.o.blk.frozen 0
      have z1 := HX.out.o.blk.frozen 1
      have z2 := HX.out.o.blk.frozen 2
      have z3 := HX.out.o.blk.frozen 3
      have y0 := HX.out.o.blk.cell 0
      have y1 := HX.out.o.blk.cell 1
      have y2 := HX.out.o.blk.cell 2
      have y3 := HX.out.o.blk.cell 3
      simp at q0 q1 q2 q3 y0 y1 y2 y3
      go_wp2_with fail
      try simp only [Exit.noGoto_ret]
      clear y0 y1 y2 y3
      obtain ⟨hb, hvv, hcc⟩ := HX.out.fin (k := 7) (n := 0) (s := ⟨#[]⟩) rfl (by unfold maxLen; omega) (by decide) (by decide) (by decide) _ rfl
      have r0 := hb.blk.cell 0
      have r1 := hb.blk.cell 1
      have r2 := hb.blk.cell 2
      have r3 := hb.blk.cell 3
      simp at r0 r1 r2 r3
      refine bodyPost_ret (v := .agg #[.int .i64 7, .int .i64 0, .string ⟨#[]⟩, .slice none 0 0]) (by simp [results, Try.results29, go_sem, r0, r1, r2, r3]) rfl ?_
      exact ⟨⟨7, 0, ⟨#[]⟩, none, 0, 0⟩, rfl, hvv, hcc⟩
  | some ad =>
    go_enter Try.func29, Try.ntmps29
    go_upto_region 5 with (first
      | (go_at_call 48; refine (HCK.out _).mono ?_; rintro e w3 ⟨rfl, rfl⟩)
      | (go_at_call 47; refine HCC.out.mono ?_; rintro e w4 ⟨v, rfl, hrow, hb4⟩; obtain ⟨A1, c1, rfl, _⟩ := own_slice hrow; have HC4 := keepf (((HC1.out.alloc _).alloc _).trans (Chg.of_below (S := NoS) hb4) (fun _ _ e => e)); have HO4 := keepf (((HO.out.alloc _).alloc _).call (Chg.of_below (S := NoS) hb4)); clear hrow hb4)
      | (go_at_call 49; refine (HSN.out _ _ _).mono ?_; rintro e w5 ⟨rfl, h5⟩; subst h5))
    have HX : Hid (Bx w (w5.alloc (.cells #[.int .i64 7, .int .i64 0, .string ⟨#[]⟩, .slice none 0 0] 24)) w5.heap.size w.heap.size #[.int .i64 7, .int .i64 0, .string ⟨#[]⟩, .slice none 0 0] #[.int .i64 0, .int .i64 0, .string ⟨#[]⟩, .slice none 0 0] [] [] 0 none 0) :=
      ⟨⟨Blk.new _ _ _, HC4.out.size⟩, ⟨HO4.out.blk.alloc _, HO4.out.new⟩, GV.start (HC4.out.alloc _), fun e => (by cases e), fun e => (by cases e), fun e => by have := HO4.out.blk.lt; omega⟩
    go_loopw [20] (fun v wr => v = .int .i64 0 ∧ wr = w5.alloc (.cells #[.int .i64 7, .int .i64 0, .string ⟨#[]⟩, .slice none 0 0] 24)) (fun _ _ => 0)
    case atStart => exact ⟨rfl, rfl⟩
    case round =>
      obtain ⟨rfl, hwr⟩ := hrel
      rw [← hwr] at HX
      obtain ⟨g4, hg4⟩ : ∃ g, g = w5.heap.size := ⟨_, rfl⟩
      rw [← hg4] at HX ⊢
      clear hwr hg4
      have q0 := HX.out.b.blk.cell 0
      have q1 := HX.out.b.blk.cell 1
      have q2 := HX.out.b.blk.cell 2
      have q3 := HX.out.b.blk.cell 3
      have z0 := HX.out.o.blk.frozen 0
      have z1 := HX.out.o.blk.frozen 1
      have z2 := HX.out.o.blk.frozen 2
      have z3 := HX.out.o.blk.frozen 3
      have y0 := HX.out.o.blk.cell 0
      have y1 := HX.out.o.blk.cell 1
      have y2 := HX.out.o.blk.cell 2
      have y3 := HX.out.o.blk.cell 3
      simp at q0 q1 q2 q3 y0 y1 y2 y3
      go_wp2_with fail
      try simp only [Exit.noGoto_ret]
      clear y0 y1 y2 y3
      obtain ⟨hb, hvv, hcc⟩ := HX.out.fin (k := 7) (n := 0) (s := ⟨#[]⟩) rfl (by unfold maxLen; omega) (by decide) (by decide) (by decide) _ rfl
      have r0 := hb.blk.cell 0
      have r1 := hb.blk.cell 1
      have r2 := hb.blk.cell 2
      have r3 := hb.blk.cell 3
      simp at r0 r1 r2 r3
      refine bodyPost_ret (v := .agg #[.int .i64 7, .int .i64 0, .string ⟨#[]⟩, .slice none 0 0]) (by simp [results, Try.results29, go_sem, r0, r1, r2, r3]) rfl ?_
      exact ⟨⟨7, 0, ⟨#[]⟩, none, 0, 0⟩, rfl, hvv, hcc⟩
theorem dictT_short {l : List VT} (h : l.length ≤ 1) : dictT l = [] := by
  unfold dictT
  rw [show l.length / 2 = 0 by omega]
  rfl
theorem dictOf_any (l : List VT) (A : Option Addr) (len cap : Nat) (w : World) (hl : l.length = len) (hr : RowIs w A 0 l) (hA : A = none → len = 0 ∧ cap = 0) (hcap : len ≤ cap) (h40 : len ≤ 40) (hks : ∀ t ∈ l, t.str.size ≤ maxLen) :
    Calls Try.prog 29 #[.slice A len cap] w (TreeTo w (.mk 7 0 ⟨#[]⟩ (dictT l))) := by
  by_cases h : len ≤ 1
  · rw [dictT_short (by omega)]
    exact dictOf_none A len cap w hA h
  · obtain ⟨b, off, rfl⟩ : ∃ b off, A = some ⟨b, off, none⟩ := by
      cases hll : l with
      | nil => rw [hll] at hl; simp at hl; omega
      | cons t0 l0 => rw [hll] at hr; exact hr.start
    exact dictOf_some l b off len cap w hl hr hcap h40 (by omega) hks
end Go.Proofs.Ytjbjfoingpnlmaa
