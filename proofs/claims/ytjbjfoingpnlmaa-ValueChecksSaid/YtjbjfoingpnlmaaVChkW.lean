/- The walk of ValueChecks: whether any value may be, and how deep it is, is as the document says. -/
import Derived.Test.YtjbjfoingpnlmaaVOk
import Derived.Deep.RegionHeld3
import Derived.BigRegion
namespace Go.Proofs.Ytjbjfoingpnlmaa
open Go.RowKit
set_option linter.unusedVariables false
set_option linter.unusedSimpArgs false
set_option maxHeartbeats 4000000 in
set_option maxRecDepth 100000 in
theorem checksW (H : ValOk) (t : VT) (c : VC) (w : World) (hv : ValIs w t c) :
    Calls Try.prog 3 #[c.val] w fun e w' => e = .returned (.bool true) ∧ Chg NoS w w' := by
  have K0 := fun (W : World) (h : Chg NoS w W) => small_any t c W (hv.chg h)
  obtain ⟨k, n, s, A, len, cap⟩ := c
  obtain ⟨cs, hcs⟩ : ∃ cs : Array Value, cs = #[.int .i64 k, .int .i64 n, .string s, .slice A len cap] := ⟨_, rfl⟩
  have KW := keepf (VSt.of_ (w := w) (g := w.heap.size) (cs := cs) (fun W _ => H.works W))
  have hst : VSt w w.heap.size cs (w.alloc (.cells #[.int .i64 k, .int .i64 n, .string s, .slice A len cap] 24)) := ⟨by rw [hcs]; exact Blk.new w _ _, (Chg.refl NoS w).alloc _⟩
  have hst2 := hst.drew
  by_cases hsm : 0 ≤ fewT t 300
  · have hsz := small_siz hsm
    rw [show decide (0 ≤ fewT t 300) = true from by simpa using hsm] at K0
    have KS := keepf (VSt.of_ (w := w) (g := w.heap.size) (cs := cs) K0)
    have KC := keepf (VSt.of_ (w := w) (g := w.heap.size) (cs := cs) (fun (W : World) (h : Chg NoS w W) => H.check t _ W (hv.chg h) (by omega)))
    have KD := keepf (VSt.of_ (w := w) (g := w.heap.size) (cs := cs) (fun (W : World) (h : Chg NoS w W) => H.depth t _ W (hv.chg h) (by omega)))
    have KC2 := keepf (VSt.of_ (w := w) (g := w.heap.size) (cs := cs) (fun (W : World) (h : Chg NoS w W) => rcheck11_any t _ W (hv.chg h) (by omega)))
    have KD2 := keepf (VSt.of_ (w := w) (g := w.heap.size) (cs := cs) (fun (W : World) (h : Chg NoS w W) => rdepth_any t _ W (hv.chg h) (by omega)))
    obtain ⟨x, hx⟩ : ∃ x, checkT t = x := ⟨_, rfl⟩
    obtain ⟨d, hd⟩ : ∃ d, depthT t = d := ⟨_, rfl⟩
    rw [hx] at KC KC2
    rw [hd] at KD KD2
    unfold VC.val at KS KC KD KC2 KD2 ⊢
    simp only [] at KS KC KD KC2 KD2 ⊢
    clear hv H K0 hsz hsm hx hd
    go_enter Try.func3, Try.ntmps3
    go_upto_region 1 with fail
    obtain ⟨W, hW⟩ : ∃ W, W = w.alloc (.cells #[.int .i64 k, .int .i64 n, .string s, .slice A len cap] 24) := ⟨_, rfl⟩
    obtain ⟨g, hg⟩ : ∃ g, g = w.heap.size := ⟨_, rfl⟩
    rw [← hg] at KW KS KC KD KC2 KD2
    rw [← hW, ← hg] at hst hst2 ⊢
    clear hW hg
    subst hcs
    obtain ⟨p0, p1, p2, p3⟩ := hst.cells
    first
      | (go_loud (go_region_held3 (fun w' => w'.cell? ⟨g, 0, none⟩ = some (.int .i64 k) ∧ w'.cell? ⟨g, 1, none⟩ = some (.int .i64 n) ∧ w'.cell? ⟨g, 2, none⟩ = some (.string s) ∧ w'.cell? ⟨g, 3, none⟩ = some (.slice A len cap))
          (first | (go_keep; done) | (go_split_ands; exact ⟨by assumption, by assumption, by assumption, by assumption⟩))
          (first
            | (go_at_call 9; refine (KS.out _ (by assumption)).mono ?_; rintro e wq ⟨rfl, hq⟩; obtain ⟨_, _, _, _⟩ := hq.cells)
            | (go_at_call 10; refine (KC.out _ (by assumption)).mono ?_; rintro e wq ⟨rfl, hq⟩; obtain ⟨_, _, _, _⟩ := hq.cells)
            | (go_at_call 11; refine (KC2.out _ (by assumption)).mono ?_; rintro e wq ⟨rfl, hq⟩; obtain ⟨_, _, _, _⟩ := hq.cells)
            | (go_at_call 12; refine (KD.out _ (by assumption)).mono ?_; rintro e wq ⟨rfl, hq⟩; obtain ⟨_, _, _, _⟩ := hq.cells)
            | (go_at_call 13; refine (KD2.out _ (by assumption)).mono ?_; rintro e wq ⟨rfl, hq⟩; obtain ⟨_, _, _, _⟩ := hq.cells)
            | (go_at_call 14; refine (KW.out _ (by assumption)).mono ?_; rintro e wq ⟨rfl, hq⟩; obtain ⟨_, _, _, _⟩ := hq.cells)
            | fail "no arm")))
      | fail "region"
    all_goals
      go_wp2_with fail
      go_ret
      exact ⟨rfl, (by assumption : VSt w g #[.int .i64 k, .int .i64 n, .string s, .slice A len cap] _).chg⟩
  · rw [show decide (0 ≤ fewT t 300) = false from by simpa using hsm] at K0
    have KS := keepf (VSt.of_ (w := w) (g := w.heap.size) (cs := cs) K0)
    unfold VC.val at KS ⊢
    simp only [] at KS ⊢
    clear hv H K0 hsm
    go_enter Try.func3, Try.ntmps3
    go_upto_region 1 with fail
    obtain ⟨W, hW⟩ : ∃ W, W = w.alloc (.cells #[.int .i64 k, .int .i64 n, .string s, .slice A len cap] 24) := ⟨_, rfl⟩
    obtain ⟨g, hg⟩ : ∃ g, g = w.heap.size := ⟨_, rfl⟩
    rw [← hg] at KW KS
    rw [← hW, ← hg] at hst hst2 ⊢
    clear hW hg
    subst hcs
    obtain ⟨p0, p1, p2, p3⟩ := hst.cells
    refine wp_region_held_drew (S := (fun w' => w'.cell? ⟨g, 0, none⟩ = some (.int .i64 k) ∧ w'.cell? ⟨g, 1, none⟩ = some (.int .i64 n) ∧ w'.cell? ⟨g, 2, none⟩ = some (.string s) ∧ w'.cell? ⟨g, 3, none⟩ = some (.slice A len cap))) (by kernel_rfl) ⟨p0, p1, p2, p3⟩ (fun hHeld => ?_)
    clear p0 p1 p2 p3
    refine wpAnyH_take (i := 0) (oi := { dst := some 3, op := Go.Op.load 24 (Go.Operand.tmp 1), type := 24, pos := _, after := _, guard := none }) (v := ?_) rfl (by kernel_rfl) (by kernel_rfl) (by kernel_rfl) (fun _ _ _ h => h) (Or.inl ⟨by rfl, ?_⟩) (by assumption) ?_
    rotate_left
    · intro w hSw; (try dsimp only at hSw); (first | (go_simp; done) | (go_simp; with_reducible rfl))
    try simp only [Act.put, List.setIfInBounds_toArray, List.set_cons_zero, List.set_cons_succ]
    refine wpAnyH_ready (rs := [1]) (by kernel_rfl) (by simp) ?_
    refine AllReadyH.cons (o := { dst := some 4, op := Go.Op.call { callee := Go.Callee.value (Go.Operand.func 9), args := #[Go.Operand.tmp 3], argTypes := #[24] }, type := 4, pos := _, after := _, guard := none }) rfl (fun K hK => ?_) AllReadyH.nil
    go_simp
    (go_at_call 9; refine (KS.out _ (by assumption)).mono ?_; rintro e wq ⟨rfl, hq⟩; have fq := hq.cells)
    refine hK.out _ _ fq (fun hHeld => ?_)
    clear hK K
    try simp only [Act.put, List.setIfInBounds_toArray, List.set_cons_zero, List.set_cons_succ]
    refine wpAnyH_take (i := 2) (oi := { dst := some 5, op := Go.Op.unOp Go.UnOp.not 4 (Go.Operand.tmp 4), type := 4, pos := _, after := _, guard := none }) (v := ?_) rfl (by kernel_rfl) (by kernel_rfl) (by kernel_rfl) (fun _ _ _ h => h) (Or.inl ⟨by rfl, ?_⟩) (by assumption) ?_
    rotate_left
    · intro w hSw; (try dsimp only at hSw); (first | (go_simp; done) | (go_simp; with_reducible rfl))
    try simp only [Act.put, List.setIfInBounds_toArray, List.set_cons_zero, List.set_cons_succ]
    refine wpAnyH_take (i := 3) (oi := { dst := some 6, op := Go.Op.move (Go.Operand.tmp 5), type := 4, pos := _, after := _, guard := none }) (v := ?_) rfl (by kernel_rfl) (by kernel_rfl) (by kernel_rfl) (fun _ _ _ h => h) (Or.inl ⟨by rfl, ?_⟩) (by assumption) ?_
    rotate_left
    · intro w hSw; (try dsimp only at hSw); (first | (go_simp; done) | (go_simp; with_reducible rfl))
    try simp only [Act.put, List.setIfInBounds_toArray, List.set_cons_zero, List.set_cons_succ]
    refine wpAnyH_take (i := 4) (oi := { dst := some 7, op := Go.Op.load 24 (Go.Operand.tmp 1), type := 24, pos := _, after := _, guard := some (3, false) }) (v := undef) rfl (by kernel_rfl) (by kernel_rfl) (by kernel_rfl) (fun _ _ _ h => h) (Or.inr ⟨by rfl, rfl⟩) (by assumption) ?_
    try simp only [Act.put, List.setIfInBounds_toArray, List.set_cons_zero, List.set_cons_succ]
    refine wpAnyH_take (i := 5) (oi := { dst := some 8, op := Go.Op.call { callee := Go.Callee.value (Go.Operand.func 10), args := #[Go.Operand.tmp 7], argTypes := #[24] }, type := 26, pos := _, after := _, guard := some (3, false) }) (v := undef) rfl (by kernel_rfl) (by kernel_rfl) (by kernel_rfl) (fun _ _ _ h => h) (Or.inr ⟨by rfl, rfl⟩) (by assumption) ?_
    try simp only [Act.put, List.setIfInBounds_toArray, List.set_cons_zero, List.set_cons_succ]
    refine wpAnyH_take (i := 6) (oi := { dst := some 9, op := Go.Op.load 24 (Go.Operand.tmp 1), type := 24, pos := _, after := _, guard := some (3, false) }) (v := undef) rfl (by kernel_rfl) (by kernel_rfl) (by kernel_rfl) (fun _ _ _ h => h) (Or.inr ⟨by rfl, rfl⟩) (by assumption) ?_
    try simp only [Act.put, List.setIfInBounds_toArray, List.set_cons_zero, List.set_cons_succ]
    refine wpAnyH_take (i := 7) (oi := { dst := some 10, op := Go.Op.call { callee := Go.Callee.value (Go.Operand.func 11), args := #[Go.Operand.tmp 9], argTypes := #[24] }, type := 3, pos := _, after := _, guard := some (3, false) }) (v := undef) rfl (by kernel_rfl) (by kernel_rfl) (by kernel_rfl) (fun _ _ _ h => h) (Or.inr ⟨by rfl, rfl⟩) (by assumption) ?_
    try simp only [Act.put, List.setIfInBounds_toArray, List.set_cons_zero, List.set_cons_succ]
    refine wpAnyH_take (i := 8) (oi := { dst := some 11, op := Go.Op.binOp Go.BinOp.eql 3 (Go.Operand.tmp 8) (Go.Operand.tmp 10) 3, type := 4, pos := _, after := _, guard := some (3, false) }) (v := undef) rfl (by kernel_rfl) (by kernel_rfl) (by kernel_rfl) (fun _ _ _ h => h) (Or.inr ⟨by rfl, rfl⟩) (by assumption) ?_
    try simp only [Act.put, List.setIfInBounds_toArray, List.set_cons_zero, List.set_cons_succ]
    refine wpAnyH_take (i := 9) (oi := { dst := some 12, op := Go.Op.move (Go.Operand.tmp 11), type := 4, pos := _, after := _, guard := some (3, false) }) (v := undef) rfl (by kernel_rfl) (by kernel_rfl) (by kernel_rfl) (fun _ _ _ h => h) (Or.inr ⟨by rfl, rfl⟩) (by assumption) ?_
    try simp only [Act.put, List.setIfInBounds_toArray, List.set_cons_zero, List.set_cons_succ]
    refine wpAnyH_take (i := 10) (oi := { dst := some 13, op := Go.Op.load 24 (Go.Operand.tmp 1), type := 24, pos := _, after := _, guard := some (9, true) }) (v := undef) rfl (by kernel_rfl) (by kernel_rfl) (by kernel_rfl) (fun _ _ _ h => h) (Or.inr ⟨by rfl, rfl⟩) (by assumption) ?_
    try simp only [Act.put, List.setIfInBounds_toArray, List.set_cons_zero, List.set_cons_succ]
    refine wpAnyH_take (i := 11) (oi := { dst := some 14, op := Go.Op.call { callee := Go.Callee.value (Go.Operand.func 12), args := #[Go.Operand.tmp 13], argTypes := #[24] }, type := 3, pos := _, after := _, guard := some (9, true) }) (v := undef) rfl (by kernel_rfl) (by kernel_rfl) (by kernel_rfl) (fun _ _ _ h => h) (Or.inr ⟨by rfl, rfl⟩) (by assumption) ?_
    try simp only [Act.put, List.setIfInBounds_toArray, List.set_cons_zero, List.set_cons_succ]
    refine wpAnyH_take (i := 12) (oi := { dst := some 15, op := Go.Op.load 24 (Go.Operand.tmp 1), type := 24, pos := _, after := _, guard := some (9, true) }) (v := undef) rfl (by kernel_rfl) (by kernel_rfl) (by kernel_rfl) (fun _ _ _ h => h) (Or.inr ⟨by rfl, rfl⟩) (by assumption) ?_
    try simp only [Act.put, List.setIfInBounds_toArray, List.set_cons_zero, List.set_cons_succ]
    refine wpAnyH_take (i := 13) (oi := { dst := some 16, op := Go.Op.call { callee := Go.Callee.value (Go.Operand.func 13), args := #[Go.Operand.tmp 15], argTypes := #[24] }, type := 3, pos := _, after := _, guard := some (9, true) }) (v := undef) rfl (by kernel_rfl) (by kernel_rfl) (by kernel_rfl) (fun _ _ _ h => h) (Or.inr ⟨by rfl, rfl⟩) (by assumption) ?_
    try simp only [Act.put, List.setIfInBounds_toArray, List.set_cons_zero, List.set_cons_succ]
    refine wpAnyH_take (i := 14) (oi := { dst := some 17, op := Go.Op.binOp Go.BinOp.eql 3 (Go.Operand.tmp 14) (Go.Operand.tmp 16) 3, type := 4, pos := _, after := _, guard := some (9, true) }) (v := undef) rfl (by kernel_rfl) (by kernel_rfl) (by kernel_rfl) (fun _ _ _ h => h) (Or.inr ⟨by rfl, rfl⟩) (by assumption) ?_
    try simp only [Act.put, List.setIfInBounds_toArray, List.set_cons_zero, List.set_cons_succ]
    refine wpAnyH_take (i := 15) (oi := { dst := some 18, op := Go.Op.pick (Go.Operand.tmp 12) (Go.Operand.tmp 17) (Go.Operand.const (Go.Value.bool false)), type := 4, pos := _, after := _, guard := some (3, false) }) (v := undef) rfl (by kernel_rfl) (by kernel_rfl) (by kernel_rfl) (fun _ _ _ h => h) (Or.inr ⟨by rfl, rfl⟩) (by assumption) ?_
    try simp only [Act.put, List.setIfInBounds_toArray, List.set_cons_zero, List.set_cons_succ]
    refine wpAnyH_take (i := 16) (oi := { dst := some 19, op := Go.Op.pick (Go.Operand.tmp 6) (Go.Operand.const (Go.Value.bool true)) (Go.Operand.tmp 18), type := 4, pos := _, after := _, guard := none }) (v := ?_) rfl (by kernel_rfl) (by kernel_rfl) (by kernel_rfl) (fun _ _ _ h => h) (Or.inl ⟨by rfl, ?_⟩) (by assumption) ?_
    rotate_left
    · intro w hSw; (try dsimp only at hSw); (first | (go_simp; done) | (go_simp; with_reducible rfl))
    try simp only [Act.put, List.setIfInBounds_toArray, List.set_cons_zero, List.set_cons_succ]
    refine wpAnyH_take (i := 17) (oi := { dst := some 20, op := Go.Op.move (Go.Operand.tmp 19), type := 4, pos := _, after := _, guard := none }) (v := ?_) rfl (by kernel_rfl) (by kernel_rfl) (by kernel_rfl) (fun _ _ _ h => h) (Or.inl ⟨by rfl, ?_⟩) (by assumption) ?_
    rotate_left
    · intro w hSw; (try dsimp only at hSw); (first | (go_simp; done) | (go_simp; with_reducible rfl))
    try simp only [Act.put, List.setIfInBounds_toArray, List.set_cons_zero, List.set_cons_succ]
    refine wpAnyH_ready (rs := [18]) (by kernel_rfl) (by simp) ?_
    refine AllReadyH.cons (o := { dst := some 21, op := Go.Op.call { callee := Go.Callee.value (Go.Operand.func 14), args := #[], argTypes := #[] }, type := 4, pos := _, after := _, guard := some (17, true) }) rfl (fun K hK => ?_) AllReadyH.nil
    go_simp
    (go_at_call 14; refine (KW.out _ (by assumption)).mono ?_; rintro e wr ⟨rfl, hr⟩; have fr := hr.cells)
    refine hK.out _ _ fr (fun hHeld => ?_)
    clear hK K
    try simp only [Act.put, List.setIfInBounds_toArray, List.set_cons_zero, List.set_cons_succ]
    refine wpAnyH_take (i := 19) (oi := { dst := some 22, op := Go.Op.pick (Go.Operand.tmp 20) (Go.Operand.tmp 21) (Go.Operand.const (Go.Value.bool false)), type := 4, pos := _, after := _, guard := none }) (v := ?_) rfl (by kernel_rfl) (by kernel_rfl) (by kernel_rfl) (fun _ _ _ h => h) (Or.inl ⟨by rfl, ?_⟩) (by assumption) ?_
    rotate_left
    · intro w hSw; (try dsimp only at hSw); (first | (go_simp; done) | (go_simp; with_reducible rfl))
    try simp only [Act.put, List.setIfInBounds_toArray, List.set_cons_zero, List.set_cons_succ]
    refine wpAnyH_take (i := 20) (oi := { dst := some 2, op := Go.Op.assign (Go.Operand.tmp 22), type := 4, pos := _, after := _, guard := none }) (v := ?_) rfl (by kernel_rfl) (by kernel_rfl) (by kernel_rfl) (fun _ _ _ h => h) (Or.inl ⟨by rfl, ?_⟩) (by assumption) ?_
    rotate_left
    · intro w hSw; (try dsimp only at hSw); (first | (go_simp; done) | (go_simp; with_reducible rfl))
    try simp only [Act.put, List.setIfInBounds_toArray, List.set_cons_zero, List.set_cons_succ]
    refine wpAnyH_done (by kernel_rfl) ?_ _
    go_wp2_with fail
    go_ret
    exact ⟨rfl, hr.chg⟩
end Go.Proofs.Ytjbjfoingpnlmaa
