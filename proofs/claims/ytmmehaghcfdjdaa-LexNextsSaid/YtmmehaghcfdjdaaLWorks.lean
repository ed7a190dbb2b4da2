/- The small question that every statement of stage 10 asks. -/
import Derived.Test.YtmmehaghcfdjdaaLCon
namespace Go.Proofs.Ytmmehaghcfdjdaa
open Go.RowKit
set_option linter.unusedVariables false
set_option linter.unusedSimpArgs false

theorem src_markL {w : World} (cs : Array Value) (t : TypeId) (fr : Nat × Nat) {n m size : Nat} (h : n = w.heap.size) (hs : cs.size = m * size) : Src (w.alloc (.cells cs t fr)) size (some ⟨n, 0, none⟩) m m cs.toList := by
  subst h
  refine ⟨by simpa using hs, fun h => (by cases h), fun ad hA j u hu => ?_⟩
  cases hA
  have hb := heap_alloc_new w (.cells cs t fr)
  have hc := cell_of_row (w.alloc (.cells cs t fr)) w.heap.size j cs t fr hb
  rw [← Array.getElem?_toList, hu] at hc
  by_cases hj : j = 0
  · subst hj; simpa [Addr.add] using hc
  · simpa [Addr.add, hj] using hc
theorem lw_n1 : nextA [47, 65, 35, 52, 50, 99, 32, 93] 0 false = (0, ⟨1, 0, 6, 5, 0, [65, 66, 99], []⟩) := by
  rfl
theorem lw_n2 : nextA [40, 97] 0 false = (6, noT 0) := by
  show tokO false 0 40 [97] = _
  rw [tok_40, txtO_cons, if_neg (show ¬ 97 = 92 by decide), if_neg (show ¬ 97 = 13 by decide), if_neg (show ¬ 97 = 40 by decide), if_neg (show ¬ 97 = 41 by decide), txtO_nil]
  rfl
theorem lw1 (H : LexOk) (w : World) : Calls Try.prog 9 #[.slice (some ⟨w.heap.size, 0, none⟩) 8 8, .int .i64 0, .bool false] (w.alloc (.cells #[.int .u8 47, .int .u8 65, .int .u8 35, .int .u8 52, .int .u8 50, .int .u8 99, .int .u8 32, .int .u8 93] 5 (8, 9))) fun e w' => e = .returned (.tuple #[.agg #[.int .i64 1, .int .i64 0, .int .i64 6, .int .i64 5, .int .i64 0, .string ⟨#[65, 66, 99]⟩, .slice none 0 0, .string ⟨#[]⟩], .int .i64 0]) ∧ Chg NoS (w.alloc (.cells #[.int .u8 47, .int .u8 65, .int .u8 35, .int .u8 52, .int .u8 50, .int .u8 99, .int .u8 32, .int .u8 93] 5 (8, 9))) w' := by
  have h := H.next [47, 65, 35, 52, 50, 99, 32, 93] (some ⟨w.heap.size, 0, none⟩) 8 0 false _ (src_markL #[.int .u8 47, .int .u8 65, .int .u8 35, .int .u8 52, .int .u8 50, .int .u8 99, .int .u8 32, .int .u8 93] 5 (8, 9) rfl rfl) (by decide) (by decide) (by decide)
  rw [lw_n1] at h
  exact h
theorem lw2 (H : LexOk) (w : World) : Calls Try.prog 9 #[.slice (some ⟨w.heap.size, 0, none⟩) 2 2, .int .i64 0, .bool false] (w.alloc (.cells #[.int .u8 40, .int .u8 97] 5 (2, 3))) fun e w' => e = .returned (.tuple #[.agg #[.int .i64 0, .int .i64 0, .int .i64 0, .int .i64 0, .int .i64 0, .string ⟨#[]⟩, .slice none 0 0, .string ⟨#[]⟩], .int .i64 6]) ∧ Chg NoS (w.alloc (.cells #[.int .u8 40, .int .u8 97] 5 (2, 3))) w' := by
  have h := H.next [40, 97] (some ⟨w.heap.size, 0, none⟩) 2 0 false _ (src_markL #[.int .u8 40, .int .u8 97] 5 (2, 3) rfl rfl) (by decide) (by decide) (by decide)
  rw [lw_n2] at h
  exact h
set_option maxHeartbeats 1000000 in
set_option maxRecDepth 100000 in
theorem works_any10 (H : LexOk) (w : World) : Calls Try.prog 8 #[] w fun e w' => e = .returned (.bool true) ∧ Chg NoS w w' := by
  have hcc1 : ∀ W : World, (convert 22 22 (.slice (some ⟨W.heap.size, 0, none⟩) 8 8)).run Try.prog (W.alloc (.cells #[.int .u8 47, .int .u8 65, .int .u8 35, .int .u8 52, .int .u8 50, .int .u8 99, .int .u8 32, .int .u8 93] 5)) = .ok (.slice (some ⟨W.heap.size, 0, none⟩) 8 8) (W.alloc (.cells #[.int .u8 47, .int .u8 65, .int .u8 35, .int .u8 52, .int .u8 50, .int .u8 99, .int .u8 32, .int .u8 93] 5 (8, 9))) := fun W => Lib.run_convert_bytes_const W 22 5 _ 8 8 Try.underlying22 Try.underlying5
  have hcc2 : ∀ W : World, (convert 22 22 (.slice (some ⟨W.heap.size, 0, none⟩) 2 2)).run Try.prog (W.alloc (.cells #[.int .u8 40, .int .u8 97] 5)) = .ok (.slice (some ⟨W.heap.size, 0, none⟩) 2 2) (W.alloc (.cells #[.int .u8 40, .int .u8 97] 5 (2, 3))) := fun W => Lib.run_convert_bytes_const W 22 5 _ 2 2 Try.underlying22 Try.underlying5
  have H1 := keepf (fun W => lw1 H W)
  have H2 := keepf (fun W => lw2 H W)
  clear H
  go_enter Try.func8, Try.ntmps8
  go_upto_region 2 with (go_at_call 9; refine (H1.out _).mono ?_; rintro e w2 ⟨rfl, hc2⟩; have HC2 := keepf (((Chg.refl NoS w).alloc _).trans hc2 (fun _ _ e => e)); clear hc2)
  have HB2 := keepf (Blk.new w2 28 #[.int .i64 1, .int .i64 0, .int .i64 6, .int .i64 5, .int .i64 0, .string ⟨#[65, 66, 99]⟩, .slice none 0 0, .string ⟨#[]⟩])
  have HC3 := keepf (HC2.out.alloc (.cells #[.int .i64 1, .int .i64 0, .int .i64 6, .int .i64 5, .int .i64 0, .string ⟨#[65, 66, 99]⟩, .slice none 0 0, .string ⟨#[]⟩] 28))
  obtain ⟨W, hW⟩ : ∃ W, W = w2.alloc (.cells #[.int .i64 1, .int .i64 0, .int .i64 6, .int .i64 5, .int .i64 0, .string ⟨#[65, 66, 99]⟩, .slice none 0 0, .string ⟨#[]⟩] 28) := ⟨_, rfl⟩
  obtain ⟨g, hg⟩ : ∃ g, g = w2.heap.size := ⟨_, rfl⟩
  rw [← hW] at HB2 HC3
  rw [← hg] at HB2
  rw [← hW, ← hg]
  clear hW hg hcc1
  go_upto_region 3 with (go_at_call 9; refine (H2.out _).mono ?_; rintro e w3 ⟨rfl, hc3⟩; have HB3 := keepf (HB2.out.chg (((Chg.refl NoS W).alloc _).trans hc3 (fun _ _ e => e)) (fun e => e)); have HC4 := keepf ((HC3.out.alloc _).trans hc3 (fun _ _ e => e)); clear hc3)
  have HB4 := keepf (HB3.out.alloc (.cells #[.int .i64 0, .int .i64 0, .int .i64 0, .int .i64 0, .int .i64 0, .string ⟨#[]⟩, .slice none 0 0, .string ⟨#[]⟩] 28))
  have HN4 := keepf (Blk.new w3 28 #[.int .i64 0, .int .i64 0, .int .i64 0, .int .i64 0, .int .i64 0, .string ⟨#[]⟩, .slice none 0 0, .string ⟨#[]⟩])
  have HC5 := keepf (HC4.out.alloc (.cells #[.int .i64 0, .int .i64 0, .int .i64 0, .int .i64 0, .int .i64 0, .string ⟨#[]⟩, .slice none 0 0, .string ⟨#[]⟩] 28))
  obtain ⟨W4, hW⟩ : ∃ W4, W4 = w3.alloc (.cells #[.int .i64 0, .int .i64 0, .int .i64 0, .int .i64 0, .int .i64 0, .string ⟨#[]⟩, .slice none 0 0, .string ⟨#[]⟩] 28) := ⟨_, rfl⟩
  obtain ⟨g4, hg⟩ : ∃ g4, g4 = w3.heap.size := ⟨_, rfl⟩
  rw [← hW] at HB4 HN4 HC5
  rw [← hg] at HN4
  rw [← hW, ← hg]
  clear hW hg hcc2
  have q0 := HB4.out.cell 0
  have q2 := HB4.out.cell 2
  have q3 := HB4.out.cell 3
  have q5 := HB4.out.cell 5
  have p2 := HN4.out.cell 2
  simp at q0 q2 q3 q5 p2
  go_wp2_with fail
  go_ret
  exact ⟨rfl, HC5.out⟩
end Go.Proofs.Ytmmehaghcfdjdaa
