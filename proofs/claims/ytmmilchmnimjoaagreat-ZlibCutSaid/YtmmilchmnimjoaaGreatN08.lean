/- Merged by program: LenD Hop PlainP SymP CodesP LensP OwnP OwnC. -/
import Derived.Test.YtmmilchmnimjoaaGreatN07
import Derived.WalkMore
import Derived.ScopeJumps
/- A symbol's length, and distance. -/
namespace Go.Proofs.YtmmilchmnimjoaaGreat
open Go.RowKit
set_option linter.unusedVariables false
set_option linter.unusedSimpArgs false
theorem length_no (z : Int) (w : World) (h0 : -9223372036854775808 ≤ z) (h1 : z ≤ 9223372036854775807) (h : z < 257 ∨ 285 < z) :
    Calls Tryz.prog 79 #[.int .i64 z] w fun e w' => e = .returned (.tuple #[.int .i64 0, .int .i64 0, .bool false]) ∧ w = w' := by
  rcases h with h | h
  · have d1 : decide (z < 257) = true := by simpa using h
    go_enter Tryz.func79, Tryz.ntmps79
    go_wp2_with fail
    go_ret3
    exact ⟨rfl, rfl⟩
  · have d1 : decide (z < 257) = false := by simp; omega
    have d2 : decide (285 < z) = true := by simpa using h
    go_enter Tryz.func79, Tryz.ntmps79
    go_wp2_with fail
    go_ret3
    exact ⟨rfl, rfl⟩
theorem len_fin : ∀ k : Nat, k < 20 → wrap64 (3 + wrap64 ((4 + (265 + (k : Int) - 261) % 4) * 2 ^ ((265 + k - 261) / 4))) = ((3 + (4 + (265 + k - 261) % 4) * 2 ^ ((265 + k - 261) / 4) : Nat) : Int) := by decide +kernel
theorem dist_fin : ∀ k : Nat, k < 26 → wrap64 (1 + wrap64 ((2 + (4 + (k : Int)) % 2) * 2 ^ ((4 + k - 2) / 2))) = ((1 + (2 + (4 + k - 2) % 2) * 2 ^ ((4 + k - 2) / 2) : Nat) : Int) := by decide +kernel
set_option maxRecDepth 100000 in
theorem length_ok (s x n : Nat) (w : World) (h : lenOf s = some (x, n)) :
    Calls Tryz.prog 79 #[.int .i64 s] w fun e w' => e = .returned (.tuple #[.int .i64 x, .int .i64 n, .bool true]) ∧ w = w' := by
  unfold lenOf at h
  have h1 : ¬ (s < 257 ∨ 285 < s) := by intro e; rw [if_pos e] at h; cases h
  rw [if_neg h1] at h
  have d1 : decide ((s : Int) < 257) = false := by simp; omega
  have d1' : decide (s < 257) = false := by simp; omega
  have d2 : decide ((285 : Int) < s) = false := by simp; omega
  have d2' : decide (285 < s) = false := by simp; omega
  by_cases h2 : s < 265
  · rw [if_pos h2] at h
    have d3 : decide ((s : Int) < 265) = true := by simp; omega
    have d3' : decide (s < 265) = true := by simp; omega
    simp only [Option.some.injEq, Prod.mk.injEq] at h
    obtain ⟨rfl, rfl⟩ := h
    go_enter Tryz.func79, Tryz.ntmps79
    go_wp2_with fail
    go_ret3
    exact ⟨by rw [show ((s - 254 : Nat) : Int) = (s : Int) - 254 from by omega]; rfl, rfl⟩
  · rw [if_neg h2] at h
    have d3 : decide ((s : Int) < 265) = false := by simp; omega
    have d3' : decide (s < 265) = false := by simp; omega
    by_cases h3 : s = 285
    · rw [if_pos h3] at h
      simp only [Option.some.injEq, Prod.mk.injEq] at h
      obtain ⟨rfl, rfl⟩ := h
      subst h3
      go_enter Tryz.func79, Tryz.ntmps79
      go_wp2_with fail
      go_ret3
      exact ⟨rfl, rfl⟩
    · rw [if_neg h3] at h
      simp only [Option.some.injEq, Prod.mk.injEq] at h
      obtain ⟨hx, hn⟩ := h
      have d4 : ((s : Int) == 285) = false := by simp; omega
      obtain ⟨k, hk⟩ : ∃ k, s = 265 + k := ⟨s - 265, by omega⟩
      subst hk
      have HX := keepf hx
      have HN := keepf hn
      clear hx hn
      have hk20 : k < 20 := by omega
      go_enter Tryz.func79, Tryz.ntmps79
      go_wp2_with fail
      go_ret3
      refine ⟨?_, rfl⟩
      rw [← HX.out, ← HN.out, ← len_fin k hk20]
      have e : ((265 : Int) + k - 261) / 4 = (((265 + k - 261) / 4 : Nat) : Int) := by omega
      rw [e]
      rfl
theorem distance_no (z : Int) (w : World) (h0 : -9223372036854775808 ≤ z) (h1 : z ≤ 9223372036854775807) (h : z < 0 ∨ 29 < z) :
    Calls Tryz.prog 80 #[.int .i64 z] w fun e w' => e = .returned (.tuple #[.int .i64 0, .int .i64 0, .bool false]) ∧ w = w' := by
  rcases h with h | h
  · have d1 : decide (z < 0) = true := by simpa using h
    go_enter Tryz.func80, Tryz.ntmps80
    go_wp2_with fail
    go_ret3
    exact ⟨rfl, rfl⟩
  · have d1 : decide (z < 0) = false := by simp; omega
    have d2 : decide (29 < z) = true := by simpa using h
    go_enter Tryz.func80, Tryz.ntmps80
    go_wp2_with fail
    go_ret3
    exact ⟨rfl, rfl⟩
set_option maxRecDepth 100000 in
theorem distance_ok (s x n : Nat) (w : World) (h : distOf s = some (x, n)) :
    Calls Tryz.prog 80 #[.int .i64 s] w fun e w' => e = .returned (.tuple #[.int .i64 x, .int .i64 n, .bool true]) ∧ w = w' := by
  unfold distOf at h
  have h1 : ¬ 29 < s := by intro e; rw [if_pos e] at h; cases h
  rw [if_neg h1] at h
  have d1 : decide ((s : Int) < 0) = false := by simp
  have d2 : decide ((29 : Int) < s) = false := by simp; omega
  have d2' : decide (29 < s) = false := by simp; omega
  by_cases h2 : s < 4
  · rw [if_pos h2] at h
    have d3 : decide ((s : Int) < 4) = true := by simp; omega
    have d3' : decide (s < 4) = true := by simp; omega
    simp only [Option.some.injEq, Prod.mk.injEq] at h
    obtain ⟨rfl, rfl⟩ := h
    go_enter Tryz.func80, Tryz.ntmps80
    go_wp2_with fail
    go_ret3
    exact ⟨by rw [show ((s + 1 : Nat) : Int) = (s : Int) + 1 from by omega]; rfl, rfl⟩
  · rw [if_neg h2] at h
    have d3 : decide ((s : Int) < 4) = false := by simp; omega
    have d3' : decide (s < 4) = false := by simp; omega
    simp only [Option.some.injEq, Prod.mk.injEq] at h
    obtain ⟨hx, hn⟩ := h
    obtain ⟨k, hk⟩ : ∃ k, s = 4 + k := ⟨s - 4, by omega⟩
    subst hk
    have hk26 : k < 26 := by omega
    have HX := keepf hx
    have HN := keepf hn
    clear hx hn
    go_enter Tryz.func80, Tryz.ntmps80
    go_wp2_with fail
    go_ret3
    refine ⟨?_, rfl⟩
    rw [← HX.out, ← HN.out, ← dist_fin k hk26]
    have e : ((4 : Int) + k - 2) / 2 = (((4 + k - 2) / 2 : Nat) : Int) := by omega
    rw [e]
    rfl
theorem lenOf_le {s x n : Nat} (h : lenOf s = some (x, n)) : x ≤ 258 ∧ n ≤ 6 ∧ 257 ≤ s ∧ s ≤ 285 := by
  unfold lenOf at h
  have h1 : ¬ (s < 257 ∨ 285 < s) := by intro e; rw [if_pos e] at h; cases h
  have : ∀ k : Nat, k < 29 → ∀ y, (if 257 + k < 257 ∨ 285 < 257 + k then none else if 257 + k < 265 then some (257 + k - 254, 0) else if 257 + k = 285 then some (258, 0) else some (3 + (4 + (257 + k - 261) % 4) * 2 ^ ((257 + k - 261) / 4), (257 + k - 261) / 4)) = some y → y.1 ≤ 258 ∧ y.2 ≤ 6 := by
    have hb : (List.range 29).all (fun k => match (if 257 + k < 257 ∨ 285 < 257 + k then none else if 257 + k < 265 then some (257 + k - 254, 0) else if 257 + k = 285 then some (258, 0) else some (3 + (4 + (257 + k - 261) % 4) * 2 ^ ((257 + k - 261) / 4), (257 + k - 261) / 4)) with | none => true | some y => decide (y.1 ≤ 258 ∧ y.2 ≤ 6)) = true := by decide
    intro k hk y hy
    have := List.all_eq_true.1 hb k (List.mem_range.2 hk)
    rw [hy] at this
    simpa using this
  have h2 := this (s - 257) (by omega) (x, n) (by rw [show 257 + (s - 257) = s from by omega]; exact h)
  exact ⟨h2.1, h2.2, by omega, by omega⟩
theorem distOf_le {s x n : Nat} (h : distOf s = some (x, n)) : 1 ≤ x ∧ x ≤ 32768 ∧ n ≤ 14 := by
  have h1 : ¬ 29 < s := by intro e; unfold distOf at h; rw [if_pos e] at h; cases h
  have hb : (List.range 30).all (fun k => match distOf k with | none => true | some y => decide (1 ≤ y.1 ∧ y.1 ≤ 32768 ∧ y.2 ≤ 14)) = true := by decide
  have := List.all_eq_true.1 hb s (List.mem_range.2 (by omega))
  rw [h] at this
  simpa using this
end Go.Proofs.YtmmilchmnimjoaaGreat
/- A scope with two labels: the run comes back to the first one by jumps, and from there it may jump ahead to the second one. Plain laws, no program. -/
namespace Go.Proofs.YtmmilchmnimjoaaGreat
open Go
def hop (P : Program) (l0 l1 : Nat) (x1 : Code) (J : Act → World → Prop) (Q : Exit → Act → World → Prop) : Exit → Act → World → Prop
  | .goto l, a, w => (l = l0 ∧ J a w) ∨ (l = l1 ∧ x1.wp P (Exit.jump l0 J Q) a w)
  | e, a, w => Q e a w
theorem jump_mono {l : Nat} {J J' : Act → World → Prop} {Q : Exit → Act → World → Prop} (h : ∀ a w, J a w → J' a w) : ∀ e a w, Exit.jump l J Q e a w → Exit.jump l J' Q e a w := by
  intro e a w hq
  cases e with
  | goto l' => exact ⟨hq.1, h _ _ hq.2⟩
  | normal => exact hq
  | exit id => exact hq
  | ret => exact hq
  | panic ch => exact hq
  | outgrown => exact hq
theorem hop_mono {P : Program} {l0 l1 : Nat} {x1 : Code} {J J' : Act → World → Prop} {Q : Exit → Act → World → Prop} (h : ∀ a w, J a w → J' a w) : ∀ e a w, hop P l0 l1 x1 J Q e a w → hop P l0 l1 x1 J' Q e a w := by
  intro e a w hq
  cases e with
  | goto l' => exact hq.imp (fun h1 => ⟨h1.1, h _ _ h1.2⟩) (fun h1 => ⟨h1.1, Code.wp_mono (jump_mono h) h1.2⟩)
  | normal => exact hq
  | exit id => exact hq
  | ret => exact hq
  | panic ch => exact hq
  | outgrown => exact hq
theorem wp_skip_seq {P : Program} {x : Code} {Q : Exit → Act → World → Prop} {a : Act} {w : World} (h : x.wp P Q a w) : (Code.seq .skip x).wp P Q a w :=
  wp_seq (wp_skip h)
theorem wp_scope_hops {P : Program} {a : Act} {w : World} {Q : Exit → Act → World → Prop} {c x0 x1 : Code} (l0 l1 : Nat) (J : Nat → Act → World → Prop)
    (h0 : findLabel c l0 = some (.seq .skip x0)) (h1 : findLabel c l1 = some (.seq .skip x1))
    (pass : ∀ n a w, J n a w → x0.wp P (hop P l0 l1 x1 (fun a' w' => ∃ m, m < n ∧ J m a' w') Q) a w)
    (first : (∀ n a w, J n a w → x0.wp P (hop P l0 l1 x1 (fun a' w' => ∃ m, J m a' w') Q) a w) → c.wp P (hop P l0 l1 x1 (fun a' w' => ∃ m, J m a' w') Q) a w) :
    (Code.scope c).wp P Q a w := by
  have first := first (fun n a w h => Code.wp_mono (hop_mono (fun _ _ ⟨m, _, hm⟩ => ⟨m, hm⟩)) (pass n a w h))
  intro b k cs
  have hg0 : gotoIn l0 (.inScope c :: k) = some (.code (.seq .skip x0) :: .inScope c :: k) := by simp [gotoIn, h0]
  have hg1 : gotoIn l1 (.inScope c :: k) = some (.code (.seq .skip x1) :: .inScope c :: k) := by simp [gotoIn, h1]
  have one : ∀ (r : Code) a w (K : Act → World → Prop), r.wp P (Exit.jump l0 K Q) a w →
      (∀ a1 w1, K a1 w1 → ∃ e a' w', Q e a' w' ∧ Arrives P (lone (b.at a1 (.code (.seq .skip x0) :: .inScope c :: k)) cs w1) b k cs e a' w') →
      ∃ e a' w', Q e a' w' ∧ Arrives P (lone (b.at a (.code r :: .inScope c :: k)) cs w) b k cs e a' w' := by
    intro r a w K hr hK
    obtain ⟨e, a₁, w₁, hq, harr⟩ := hr b (.inScope c :: k) cs
    cases e with
    | normal => exact ⟨.normal, a₁, w₁, hq, Steps.trans harr (.one step_inScope)⟩
    | exit id => exact ⟨.exit id, a₁, w₁, hq, fun k' hk => harr k' (by simp [exitTo, hk])⟩
    | goto l' =>
      obtain ⟨rfl, hJ'⟩ := hq
      obtain ⟨e₂, a₂, w₂, hq₂, harr₂⟩ := hK a₁ w₁ hJ'
      exact ⟨e₂, a₂, w₂, hq₂, .of_steps (harr _ hg0) harr₂⟩
    | ret => exact ⟨_, a₁, w₁, hq, harr⟩
    | panic ch => exact ⟨_, a₁, w₁, hq, harr⟩
    | outgrown => exact ⟨_, a₁, w₁, hq, harr⟩
  have two : ∀ (r : Code) a w (K : Act → World → Prop), r.wp P (hop P l0 l1 x1 K Q) a w →
      (∀ a1 w1, K a1 w1 → ∃ e a' w', Q e a' w' ∧ Arrives P (lone (b.at a1 (.code (.seq .skip x0) :: .inScope c :: k)) cs w1) b k cs e a' w') →
      ∃ e a' w', Q e a' w' ∧ Arrives P (lone (b.at a (.code r :: .inScope c :: k)) cs w) b k cs e a' w' := by
    intro r a w K hr hK
    obtain ⟨e, a₁, w₁, hq, harr⟩ := hr b (.inScope c :: k) cs
    cases e with
    | normal => exact ⟨.normal, a₁, w₁, hq, Steps.trans harr (.one step_inScope)⟩
    | exit id => exact ⟨.exit id, a₁, w₁, hq, fun k' hk => harr k' (by simp [exitTo, hk])⟩
    | goto l' =>
      rcases hq with ⟨rfl, hJ'⟩ | ⟨rfl, hx⟩
      · obtain ⟨e₂, a₂, w₂, hq₂, harr₂⟩ := hK a₁ w₁ hJ'
        exact ⟨e₂, a₂, w₂, hq₂, .of_steps (harr _ hg0) harr₂⟩
      · obtain ⟨e₂, a₂, w₂, hq₂, harr₂⟩ := one _ a₁ w₁ K (wp_skip_seq hx) hK
        exact ⟨e₂, a₂, w₂, hq₂, .of_steps (harr _ hg1) harr₂⟩
    | ret => exact ⟨_, a₁, w₁, hq, harr⟩
    | panic ch => exact ⟨_, a₁, w₁, hq, harr⟩
    | outgrown => exact ⟨_, a₁, w₁, hq, harr⟩
  have key : ∀ n a w, J n a w → ∃ e a' w', Q e a' w' ∧ Arrives P (lone (b.at a (.code (.seq .skip x0) :: .inScope c :: k)) cs w) b k cs e a' w' := by
    intro n
    induction n using Nat.strongRecOn with
    | _ n ih =>
      intro a w hJ
      exact two _ a w _ (wp_skip_seq (pass n a w hJ)) (fun a1 w1 ⟨m, hm, hJ'⟩ => ih m hm a1 w1 hJ')
  obtain ⟨e, a₁, w₁, hq, harr⟩ := two c a w _ first (fun a1 w1 ⟨m, hJ'⟩ => key m a1 w1 hJ')
  cases e with
  | normal => exact ⟨.normal, a₁, w₁, hq, .head step_scope harr⟩
  | exit id => exact ⟨.exit id, a₁, w₁, hq, fun k' hk => .head step_scope (harr k' hk)⟩
  | goto l => exact ⟨.goto l, a₁, w₁, hq, fun k' hk => .head step_scope (harr k' hk)⟩
  | ret => exact ⟨_, a₁, w₁, hq, .of_steps (.one step_scope) harr⟩
  | panic ch => exact ⟨_, a₁, w₁, hq, .of_steps (.one step_scope) harr⟩
  | outgrown => exact ⟨_, a₁, w₁, hq, .of_steps (.one step_scope) harr⟩
theorem arr_any (t : Array Value) (n : Nat) (h : t.size = n) : t = ((List.range n).map (fun i => t.getD i undef)).toArray := by
  apply Array.ext
  · simp [h]
  · intro i h1 h2
    simp [Array.getD, h1]
end Go.Proofs.YtmmilchmnimjoaaGreat
/- A block of bytes that are not packed. -/
namespace Go.Proofs.YtmmilchmnimjoaaGreat
open Go.RowKit
set_option linter.unusedVariables false
set_option linter.unusedSimpArgs false
def GotB (w : World) (g gr : Nat) (bs : List Nat) (a : Nat) (S : Value) (most : Nat) (out : List Nat) (So fx : Value) (m : Nat → Mode) (e : Ending) (w' : World) : Prop :=
  ∃ (k : Int) (b : Nat) (out' : List Nat) (So' : Value), e = .returned (.int .i64 k) ∧ Pk w' g gr bs b S most out' So' fx ∧ Mv g gr w So w' So' ∧
    ((k = 0 ∧ a ≤ b ∧ ∀ last, Leads bs most ⟨a, out, m last⟩ ⟨b, out', .plain 0 last⟩) ∨ (k ≠ 0 ∧ ∀ last, Runs bs most ⟨a, out, m last⟩ (.err k)))
set_option maxRecDepth 100000 in
theorem palign (w : World) (g gr a most : Nat) (bs out : List Nat) (S So fx : Value) (hP : Pk w g gr bs a S most out So fx) :
    Calls Tryz.prog 71 #[.pointer (some ⟨gr, 0, none⟩)] w fun e w' => e = .returned (.tuple #[]) ∧ Pk w' g gr bs ((a + 7) / 8 * 8) S most out So fx ∧ Mv g gr w So w' So := by
  have h0 := hP.rd.1.cell 0
  have h2 := hP.rd.1.cell 2
  have f2 := hP.rd.1.frozen 2
  have hne := own_ne_blk hP.rd.2 hP.rd.1 (by decide)
  simp at h0 h2
  have ha : a ≤ 1073741824 := by have := hP.le; have := hP.len; omega
  have HP := keepf hP
  have HN := keepf hne
  clear hP hne
  go_enter Tryz.func71, Tryz.ntmps71
  go_wp2_with (go_at_call 51; refine (rready_any gr _ h0).mono ?_; rintro e w' ⟨rfl, rfl⟩)
  obtain ⟨d, hd⟩ : ∃ d, d = (8 - a % 8) % 8 := ⟨_, rfl⟩
  have HG := keepf (fun W h => gap_any gr a W (by omega) h)
  rw [← hd] at HG
  have hs : IntKind.i64.wrap ((a : Int) + d) = (a : Int) + d := by rw [IntKind.wrap_i64]; omega
  have he : a + d = (a + 7) / 8 * 8 := by omega
  have HE := keepf he
  clear hd he
  refine wp_region_still_tail 13 (by kernel_rfl) (by kernel_rfl) ?_
  simp only [List.take_succ_cons, List.take_zero, List.drop_succ_cons, List.drop_zero]
  change wpStill _ _ w.drew _ _ _
  repeat still_step
  still_call (same_right (HG.out _ h2))
  repeat still_step
  refine wpStill_nil ?_
  change wpList _ _ _ _ _ w.drew
  go_wp2
  go_end0
  have hc : Chg (fun i => i = gr) w (w.drew.setCell ⟨gr, 2, none⟩ (.int .i64 ((a : Int) + d))) := ((Chg.refl (fun i => i = gr) w).drew).setCell (p := ⟨gr, 2, none⟩) (fun _ => rfl) _
  refine ⟨rfl, HP.out.go (by have := HP.out.le; omega) ⟨?_, ?_⟩ hc, Mv.of (mv_gr hc)⟩
  · have h1 := (HP.out.rd.1.set_ 2 (.int .i64 ((a : Int) + d))).drew
    rw [← HE.out]
    simpa using h1
  · exact own_chg HP.out.rd.2 hc (fun i hi e => HN.out (by rw [hi, e]))
theorem xor_u32 (x : Nat) (hx : x < 65536) : bits BinOp.xor IntKind.u32 (x : Int) 65535 = ((x ^^^ 65535 : Nat) : Int) := by
  simpa using u32_xor_nat x 65535 (by omega) (by omega)
set_option maxHeartbeats 1000000 in
set_option maxRecDepth 100000 in
theorem pplain (w : World) (g gr a most : Nat) (bs out : List Nat) (S So fx : Value) (hP : Pk w g gr bs a S most out So fx) :
    Calls Tryz.prog 47 #[.pointer (some ⟨g, 0, none⟩)] w (GotB w g gr bs a S most out So fx .stored) := by
  have c0 := hP.c0
  have HP := keepf hP
  have HA := keepf (palign w g gr a most bs out S So fx hP)
  clear hP
  go_enter Tryz.func47, Tryz.ntmps47
  go_upto_region 3 with (first
    | (go_at_call 71; refine HA.out.mono ?_; rintro e w1 ⟨rfl, hP1, hm1⟩; have c01 := hP1.c0; have HG1 := keepf (pget w1 g gr _ 16 most bs out S So fx hP1 (by omega)); have HM1 := keepf hm1; clear hP1 hm1)
    | (go_at_call 46; refine HG1.out.mono ?_; rintro e w2 ⟨x, b, k, rfl, hP2, hm2, hx, hk⟩; have c02 := hP2.c0; have HP2 := keepf hP2; have HM2 := keepf (HM1.out.trans hm2); have HK := keepf hk; clear hP2 hm2 hk))
  obtain ⟨a1, ha1⟩ : ∃ a1, a1 = (a + 7) / 8 * 8 := ⟨_, rfl⟩
  have HA1 := keepf ha1
  have HK2 : Hid ((k = 0 ∧ b = a1 + 16 ∧ a1 + 16 ≤ 8 * bs.length ∧ x = numAt false bs a1 16) ∨ (k = 10 ∧ b = a1 ∧ x = 0 ∧ 8 * bs.length < a1 + 16)) := by rw [ha1]; exact HK.out
  clear ha1 HK c0 c01 HA HG1 HM1
  rcases HK2.out with ⟨rfl, rfl, hle, hxe⟩ | ⟨rfl, rfl, rfl, hlt⟩
  · have HXE := keepf hxe
    have HL1 := keepf hle
    have hx16 : x < 65536 := by simpa using hx
    have HG2 := keepf (pget w2 g gr _ 16 most bs out S So fx HP2.out (by omega))
    clear hxe hle hx
    go_upto_region 6 with (go_at_call 46; refine HG2.out.mono ?_; rintro e w3 ⟨y, b, k, rfl, hP3, hm3, hy, hk⟩; have c03 := hP3.c0; have HP3 := keepf hP3; have HM3 := keepf (HM2.out.trans hm3); have HK3 := keepf hk; clear hP3 hm3 hk)
    rcases HK3.out with ⟨rfl, rfl, hle, hye⟩ | ⟨rfl, rfl, rfl, hlt⟩
    · have HYE := keepf hye
      have HL2 := keepf hle
      have hy16 : y < 65536 := by simpa using hy
      clear hye hle hy HG2 HP2 HM2 HK2 c02
      have hxor := xor_u32 x hx16
      obtain ⟨z, hz⟩ : ∃ z, z = x ^^^ 65535 := ⟨_, rfl⟩
      rw [← hz] at hxor
      have hz32 : z < 65536 := by rw [hz]; exact Nat.xor_lt_two_pow (n := 16) hx16 (by omega)
      have HZ := keepf hz
      clear hz
      by_cases hyz : y = z
      · have d1 : ((y : Int) == (z : Int)) = true := by rw [hyz]; simp
        have d2 : (y == z) = true := by simpa using hyz
        have HYZ := keepf hyz
        clear hyz
        go_wp2_with fail
        clear d1 d2 hxor
        have hstart : ∀ last, Leads bs most ⟨a, out, .stored last⟩ ⟨a1 + 16 + 16, out, .plain x last⟩ := fun last => .step (.stored (by
          unfold stStored
          rw [← HA1.out, if_neg (by have := HL2.out; omega), ← HYE.out, ← HXE.out, if_neg (by rw [HYZ.out, HZ.out]; simp)]))
        have HS := keepf hstart
        clear hstart
        go_loopw [40] (fun vb wr => ∃ (j b : Nat) (out' : List Nat) (So' : Value), j ≤ x ∧ vb = .int .u32 j ∧ Hid (a ≤ b) ∧ Hid (Pk wr g gr bs b S most out' So' fx) ∧ Hid (Mv g gr w So wr So') ∧ Hid (∀ last, Leads bs most ⟨a, out, .stored last⟩ ⟨b, out', .plain (x - j) last⟩)) (fun vb _ => x - (intOf vb).toNat)
        case atStart => exact ⟨0, _, out, So, Nat.zero_le _, rfl, (by show a ≤ _; have := HA1.out; omega), HP3.out, HM3.out, HS.out⟩
        case round =>
          obtain ⟨j, b, out', So', hj, rfl, HAB, HPj, HMj, HLj⟩ := hrel
          have c0j := HPj.out.c0
          by_cases hlt : j < x
          · have HGj := keepf (pget wr g gr b 8 most bs out' S So' fx HPj.out (by omega))
            go_upto_region 13 with (go_at_call 46; refine HGj.out.mono ?_; rintro e w4 ⟨v, b4, k, rfl, hP4, hm4, hv, hk⟩; have c04 := hP4.c0; have HP4 := keepf hP4; have HM4 := keepf (HMj.out.trans hm4); have HK4 := keepf hk; clear hP4 hm4 hk)
            have hv8 : v < 256 := by simpa using hv
            clear hv
            rcases HK4.out with ⟨rfl, rfl, hle, hve⟩ | ⟨rfl, rfl, rfl, hlt2⟩
            · have HVE := keepf hve
              have HL4 := keepf hle
              clear hve hle
              by_cases hm : out'.length < most
              · have HPT := keepf (pput w4 g gr _ most v bs out' S So' fx HP4.out hm)
                have HMM := keepf hm
                clear hm
                go_wp2_with (go_at_call 72; refine HPT.out.mono ?_; rintro e w5 ⟨So5, rfl, hP5, hm5⟩; have HP5 := keepf hP5; have HM5 := keepf (HM4.out.trans hm5); clear hP5 hm5)
                go_roundw
                case rel =>
                  refine ⟨j + 1, b + 8, out' ++ [v], So5, by omega, by go_num, (by show a ≤ _; have := HAB.out; omega), HP5.out, HM5.out, fun last => (HLj.out last).then (.plain ?_)⟩
                  unfold stPlain
                  rw [if_neg (by omega), if_neg (by have := HL4.out; omega), if_neg (by have := HMM.out; omega), ← HVE.out, show x - j - 1 = x - (j + 1) from by omega]
                case measure => simp [intOf]; omega
              · have HPT := keepf (pput_no w4 g gr _ most v bs out' S So' fx HP4.out (by omega))
                have HMM := keepf hm
                clear hm
                go_wp2_with (go_at_call 72; refine HPT.out.mono ?_; rintro e w5 ⟨rfl, m5, rfl⟩)
                go_ret
                refine ⟨3, _, _, _, rfl, HP4.out.drewN m5, HM4.out.drewN m5, .inr ⟨by omega, fun last => (HLj.out last).stop (.plain ?_)⟩⟩
                unfold stPlain
                rw [if_neg (by omega), if_neg (by have := HL4.out; omega), if_pos (by have := HMM.out; omega)]
            · have HL4 := keepf hlt2
              go_wp2_with fail
              go_ret
              refine ⟨10, _, _, _, rfl, HP4.out, HM4.out, .inr ⟨by omega, fun last => (HLj.out last).stop (.plain ?_)⟩⟩
              unfold stPlain
              rw [if_neg (by omega), if_pos (by have := HL4.out; omega)]
          · obtain rfl : x = j := by omega
            go_wp2_with fail
            go_ret
            refine ⟨0, b, out', So', rfl, HPj.out, HMj.out, .inl ⟨rfl, HAB.out, fun last => ?_⟩⟩
            have := HLj.out last
            rw [Nat.sub_self] at this
            exact this
      · have d1 : ((y : Int) == (z : Int)) = false := by simp; omega
        have d2 : (y == z) = false := by simpa using hyz
        have HYZ := keepf hyz
        clear hyz
        go_wp2_with fail
        go_ret
        refine ⟨11, _, _, _, rfl, HP3.out, HM3.out, .inr ⟨by omega, fun last => .stop (.stored ?_)⟩⟩
        unfold stStored
        rw [← HA1.out, if_neg (by have := HL2.out; omega), ← HYE.out, ← HXE.out, if_pos (by rw [← HZ.out]; exact HYZ.out)]
    · have HL2 := keepf hlt
      go_wp2_with fail
      go_ret
      refine ⟨10, _, _, _, rfl, HP3.out, HM3.out, .inr ⟨by omega, fun last => .stop (.stored ?_)⟩⟩
      unfold stStored
      rw [if_pos (by have := HA1.out; have := HL2.out; omega)]
  · go_wp2_with fail
    go_ret
    refine ⟨10, _, _, _, rfl, HP2.out, HM2.out, .inr ⟨by omega, fun last => .stop (.stored ?_)⟩⟩
    unfold stStored
    rw [if_pos (by have := HA1.out; omega)]
end Go.Proofs.YtmmilchmnimjoaaGreat
/- A block's symbols. -/
namespace Go.Proofs.YtmmilchmnimjoaaGreat
open Go.RowKit
set_option linter.unusedVariables false
set_option linter.unusedSimpArgs false
def SymR (w : World) (g gr : Nat) (bs : List Nat) (a : Nat) (S : Value) (most : Nat) (out : List Nat) (So fx : Value) (ls ds : List Int) (n : Nat) (w' : World) : Prop :=
  ∃ (b : Nat) (out' : List Nat) (So' : Value), n = 8 * bs.length - b ∧ Pk w' g gr bs b S most out' So' fx ∧ Mv g gr w So w' So' ∧ a ≤ b ∧ ∀ last, Leads bs most ⟨a, out, .coded ls ds last⟩ ⟨b, out', .coded ls ds last⟩
def SymJ (w : World) (g gr : Nat) (bs : List Nat) (a : Nat) (S : Value) (most : Nat) (out : List Nat) (So fx : Value) (c : Nat) (ls ds : List Int) (n : Nat) (x : Act) (w' : World) : Prop :=
  x.defers = [] ∧ x.tmps.size = 87 ∧ x.tmps.getD 0 undef = .pointer (some ⟨g, 0, none⟩) ∧ x.tmps.getD 1 undef = .pointer (some ⟨c, 0, none⟩) ∧ SymR w g gr bs a S most out So fx ls ds n w'
theorem SymJ.elim {w : World} {g gr : Nat} {bs : List Nat} {a : Nat} {S : Value} {most : Nat} {out : List Nat} {So fx : Value} {c : Nat} {ls ds : List Int} {n : Nat} {x : Act} {w' : World} {C : Act → Prop} (h : SymJ w g gr bs a S most out So fx c ls ds n x w')
    (k : SymR w g gr bs a S most out So fx ls ds n w' → ∀ f : Nat → Value, C { tmps := #[.pointer (some ⟨g, 0, none⟩), .pointer (some ⟨c, 0, none⟩), f 2, f 3, f 4, f 5, f 6, f 7, f 8, f 9, f 10, f 11, f 12, f 13, f 14, f 15, f 16, f 17, f 18, f 19, f 20, f 21, f 22, f 23, f 24, f 25, f 26, f 27, f 28, f 29, f 30, f 31, f 32, f 33, f 34, f 35, f 36, f 37, f 38, f 39, f 40, f 41, f 42, f 43, f 44, f 45, f 46, f 47, f 48, f 49, f 50, f 51, f 52, f 53, f 54, f 55, f 56, f 57, f 58, f 59, f 60, f 61, f 62, f 63, f 64, f 65, f 66, f 67, f 68, f 69, f 70, f 71, f 72, f 73, f 74, f 75, f 76, f 77, f 78, f 79, f 80, f 81, f 82, f 83, f 84, f 85, f 86], defers := [] }) : C x := by
  obtain ⟨t, d⟩ := x
  obtain ⟨h1, h2, h3, h4, hR⟩ := h
  simp only at h1 h2 h3 h4
  subst h1
  have h5 := k hR (fun i => t.getD i undef)
  rw [← h3, ← h4] at h5
  rw [arr_any t 87 h2]
  exact h5
set_option maxHeartbeats 4000000 in
set_option maxRecDepth 100000 in
theorem psymbols (w : World) (g gr a most c : Nat) (bs out : List Nat) (ls ds : List Int) (S So fx : Value) (hP : Pk w g gr bs a S most out So fx) (hC : Cd w c ls ds) :
    Calls Tryz.prog 50 #[.pointer (some ⟨g, 0, none⟩), .pointer (some ⟨c, 0, none⟩)] w (GotB w g gr bs a S most out So fx (.coded ls ds)) := by
  have HP := keepf hP
  have HC := keepf hC
  clear hP hC
  go_enter Tryz.func50, Tryz.ntmps50
  go_wp2
  refine wp_scope_hops 0 1 (SymJ w g gr bs a S most out So fx c ls ds) rfl rfl ?pass ?first
  case first =>
    intro hpass
    have HPass := keepf hpass
    clear hpass
    go_wp2
    go_step3
    rename_i hK
    refine hK _ _ (HPass.out _ _ _ ⟨rfl, rfl, rfl, rfl, a, out, So, rfl, HP.out, Mv.refl _ _ _ _, Nat.le_refl _, fun last => Leads.refl _⟩)
  case pass =>
    intro n x w1 hx
    refine SymJ.elim hx (C := fun y => Code.wp _ _ _ y w1) ?_
    rintro ⟨b, out1, So1, rfl, hP1, hm1, hab, hl1⟩
    clear hx
    intro f
    have hC1 := HP.out.cd HC.out hm1.1
    obtain ⟨gs, gd, hB1, hT1, hD1, hMs, hMd⟩ := hC1
    have c0 := hP1.c0
    have s0 := hB1.cell 0
    simp at s0
    have lg : g < w1.heap.size := hP1.blk.lt
    have HP1 := keepf hP1
    have HM1 := keepf hm1
    have HAB := keepf hab
    have HL1 := keepf hl1
    have HB1 := keepf hB1
    have HT1 := keepf hT1
    have HD1 := keepf hD1
    have HMs := keepf hMs
    have HMd := keepf hMd
    have HSY := keepf (psym w1.drew g gr b most gs bs out1 ls S So1 fx (hP1.news ((Chg.refl NoS _).drew)) hMs (hT1.chg ((Chg.refl NoS _).drew) (fun h => h)))
    have hcell : ∀ W, Chg (KP g gr So1) w1.drew W → W.cell? ⟨c, 0, none⟩ = some (.pointer (some ⟨gs, 0, none⟩)) := fun W hW => by
      have h1 := (hB1.chg ((Chg.refl NoS _).drew) (fun h => h)).chg hW ((hP1.news ((Chg.refl NoS _).drew)).no_blk (hB1.chg ((Chg.refl NoS _).drew) (fun h => h)) (by decide) (by decide) (by decide))
      rw [h1.cell]
      rfl
    have HCell := keepf hcell
    clear hP1 hm1 hab hl1 hB1 hT1 hD1 hMs hMd hcell
    go_upto_region 3 with fail
    first
      | (go_loud (go_region_held3 (fun w2 => w2.cell? ⟨g, 0, none⟩ = some (.pointer (some ⟨gr, 0, none⟩)) ∧ w2.cell? ⟨c, 0, none⟩ = some (.pointer (some ⟨gs, 0, none⟩)))
          (first | (go_keep; done) | exact ⟨by assumption, by assumption⟩)
          (first
            | (go_at_call 78; refine HSY.out.mono ?_; rintro e w3 ⟨s, m, k, rfl, ho, hP3, hm3, hs3, hs4⟩; have e1 := hP3.c0; have e2 := HCell.out _ hm3.1; have HO3 := keepf ho; have HP3 := keepf hP3; have HM3 := keepf hm3; have HS3 := keepf hs3; have HS4 := keepf hs4; clear ho hP3 hm3 hs3 hs4))))
      | fail "region"
    have HMa := keepf (HM1.out.trans ⟨HM3.out.1.undrewN (n := 1), HM3.out.2⟩)
    have hble : b ≤ 8 * bs.length := HP1.out.le
    have hbml : b + m ≤ 8 * bs.length := HP3.out.le
    clear c0 s0 HSY HM3 HCell lg e1 e2
    by_cases hk : k = 0
    · subst hk
      have hm0 := (HS4.out rfl).1
      have HM0 := keepf hm0
      clear hm0
      by_cases h256 : s = 256
      · subst h256
        go_wp2_with fail
        simp only [hop]
        go_ret
        refine ⟨0, b + m, out1, So1, rfl, HP3.out, HMa.out, .inl ⟨rfl, by have := HAB.out; omega, fun last => (HL1.out last).then (.coded HO3.out ?_)⟩⟩
        simp [stCoded]
      · have d1 : ((s : Int) == 256) = false := by simp; omega
        have d1' : (s == 256) = false := by simp; omega
        by_cases hlt : s < 256
        · have d2 : decide ((256 : Int) < s) = false := by simp; omega
          have d2' : decide (256 < s) = false := by simp; omega
          by_cases hfull : most ≤ out1.length
          · have HPT := keepf (pput_no w3 g gr _ most s bs out1 S So1 fx HP3.out hfull)
            have HF := keepf hfull
            clear hfull
            go_wp2_with (go_at_call 72; refine HPT.out.mono ?_; rintro e w5 ⟨rfl, m5, rfl⟩)
            simp only [hop]
            go_ret
            refine ⟨3, b + m, out1, So1, rfl, HP3.out.drewN m5, HMa.out.drewN m5, .inr ⟨by omega, fun last => (HL1.out last).stop (.coded HO3.out ?_)⟩⟩
            unfold stCoded
            rw [if_neg (by omega), if_neg h256, if_pos hlt, if_pos HF.out]
          · have HPT := keepf (pput w3 g gr _ most s bs out1 S So1 fx HP3.out (by omega))
            have HF := keepf hfull
            clear hfull
            go_wp2_with (go_at_call 72; refine HPT.out.mono ?_; rintro e w5 ⟨So5, rfl, hP5, hm5⟩; have HP5 := keepf hP5; have HM5 := keepf (HMa.out.trans hm5); clear hP5 hm5)
            go_step3
            refine Or.inl ⟨rfl, 8 * bs.length - (b + m), by have := HM0.out; omega, ?_⟩
            refine ⟨rfl, rfl, rfl, rfl, b + m, out1 ++ [s], So5, rfl, HP5.out, HM5.out, by have := HAB.out; omega, fun last => (HL1.out last).then (.coded HO3.out ?_)⟩
            unfold stCoded
            rw [if_neg (by omega), if_neg h256, if_pos hlt, if_neg HF.out]
        · have d2 : decide ((256 : Int) < s) = true := by simp; omega
          have d2' : decide (256 < s) = true := by simp; omega
          have hs320 : s < 320 := HS3.out
          have HO4 := keepf HO3.out
          cases hlen : lenOf s with
          | none =>
            have hno : s < 257 ∨ 285 < s := by
              unfold lenOf at hlen
              by_cases e : s < 257 ∨ 285 < s
              · exact e
              · rw [if_neg e] at hlen
                repeat' split at hlen
                all_goals cases hlen
            have HLN := keepf (length_no s w3 (by omega) (by omega) (by omega))
            have HMN := keepf (pmore_no g 0 0 w3)
            have hrun : ∀ last, Runs bs most ⟨a, out, .coded ls ds last⟩ (.err 11) := fun last => (HL1.out last).stop (.coded HO3.out (by unfold stCoded; rw [if_neg (by omega), if_neg h256, if_neg hlt, hlen]))
            have HR := keepf hrun
            clear hrun hlen hno
            go_wp2_with fail
            go_step3
            refine Or.inr ⟨rfl, ?_⟩
            go_wp2_with (first
              | (go_at_call 79; refine HLN.out.mono ?_; rintro e w5 ⟨rfl, rfl⟩)
              | (go_at_call 75; refine HMN.out.mono ?_; rintro e w5 ⟨rfl, rfl⟩))
            simp only [Exit.jump]
            go_ret
            exact ⟨11, b + m, out1, So1, rfl, HP3.out, HMa.out, .inr ⟨by omega, HR.out⟩⟩
          | some xn =>
            obtain ⟨y, nn⟩ := xn
            obtain ⟨hy1, hy2, _, _⟩ := lenOf_le hlen
            have HLN := keepf (length_ok s y nn w3 hlen)
            have HMO := keepf (pmore w3 g gr _ nn y most bs out1 S So1 fx HP3.out (by omega) (by omega))
            have hp6 : 2 ^ nn ≤ 2 ^ 6 := Nat.pow_le_pow_right (by decide) hy2
            have HP6 := keepf hp6
            have hstep : ∀ last, Step bs most ⟨b, out1, .coded ls ds last⟩ (if 8 * bs.length < b + m + nn then .inr (.err 10) else .inl ⟨b + m + nn, out1, .dist (y + numAt false bs (b + m) nn) ls ds last⟩) := fun last => .coded HO3.out (by unfold stCoded; rw [if_neg (by omega), if_neg h256, if_neg hlt, hlen])
            have HST := keepf hstep
            clear hstep hlen hp6 hy2 HO4
            go_wp2_with fail
            go_step3
            refine Or.inr ⟨rfl, ?_⟩
            go_upto_region 11 with (first
              | (go_at_call 79; refine HLN.out.mono ?_; rintro e w5 ⟨rfl, rfl⟩)
              | (go_at_call 75; refine HMO.out.mono ?_; rintro e w5 ⟨z, b5, k, rfl, hP5, hm5, hz, hk⟩; have HP5 := keepf hP5; have HM5 := keepf (HMa.out.trans hm5); have HZ := keepf hz; have HK := keepf hk; clear hP5 hm5 hz hk))
            rcases HK.out with ⟨rfl, rfl, hle, hze⟩ | ⟨rfl, rfl, hlt5⟩
            · have hstep : ∀ last, Leads bs most ⟨a, out, .coded ls ds last⟩ ⟨b + m + nn, out1, .dist z ls ds last⟩ := fun last => (HL1.out last).then (by have := HST.out last; rw [if_neg (by omega), ← hze] at this; exact this)
              have HL5 := keepf hstep
              have hz100 : z ≤ 1000 := by have := HZ.out; have := HP6.out; omega
              have HLE5 := keepf hle
              have hab5 : a ≤ b + m + nn := by have := HAB.out; omega
              have hn5 : 8 * bs.length - (b + m + nn) < 8 * bs.length - b := by have := HM0.out; omega
              clear hstep hle hze d1 d1' d2 d2' HST HMO HLN HK HMa HS4 HB1 HT1 HD1 HMs HMd HO3 HP3 HS3 HL1 HM0 hble hbml h256 hlt hs320 HZ HP6
              obtain ⟨b5, hb5⟩ : ∃ b5, b5 = b + m + nn := ⟨_, rfl⟩
              rw [← hb5] at HP5 HL5 HLE5 hab5 hn5
              have HAB5 := keepf hab5
              have HN5 := keepf hn5
              clear hb5 hab5 hn5 HAB hy1
              have hC5 := HP.out.cd HC.out HM5.out.1
              obtain ⟨gs5, gd5, hB5, hT5, hD5, hMs5, hMd5⟩ := hC5
              have c05 := HP5.out.c0
              have s05 := hB5.cell 1
              simp at s05
              have HMd5 := keepf hMd5
              have HSY5 := keepf (psym w5.drew g gr b5 most gd5 bs out1 ds S So1 fx (HP5.out.news ((Chg.refl NoS _).drew)) hMd5 (hD5.chg ((Chg.refl NoS _).drew) (fun h => h)))
              have hcell5 : ∀ W, Chg (KP g gr So1) w5.drew W → W.cell? ⟨c, 1, none⟩ = some (.pointer (some ⟨gd5, 0, none⟩)) := fun W hW => by
                have h1 := (hB5.chg ((Chg.refl NoS _).drew) (fun h => h)).chg hW ((HP5.out.news ((Chg.refl NoS _).drew)).no_blk (hB5.chg ((Chg.refl NoS _).drew) (fun h => h)) (by decide) (by decide) (by decide))
                rw [h1.cell]
                rfl
              have HCell5 := keepf hcell5
              clear hB5 hT5 hD5 hMs5 hMd5 hcell5
              go_upto_region 13 with fail
              first
                | (go_loud (go_region_held3 (fun w2 => w2.cell? ⟨g, 0, none⟩ = some (.pointer (some ⟨gr, 0, none⟩)) ∧ w2.cell? ⟨c, 1, none⟩ = some (.pointer (some ⟨gd5, 0, none⟩)))
                    (first | (go_keep; done) | exact ⟨by assumption, by assumption⟩)
                    (first
                      | (go_at_call 78; refine HSY5.out.mono ?_; rintro e w6 ⟨t, m6, k, rfl, ho, hP6, hm6, hs6, hs7⟩; have e1 := hP6.c0; have e2 := HCell5.out _ hm6.1; have HO6 := keepf ho; have HP6 := keepf hP6; have HM6 := keepf hm6; have HS6 := keepf hs6; clear ho hP6 hm6 hs6 hs7))))
                | fail "region"
              have HMb := keepf (HM5.out.trans ⟨HM6.out.1.undrewN (n := 1), HM6.out.2⟩)
              clear c05 s05 HSY5 HM6 HCell5 e1 e2 HM5
              by_cases hk : k = 0
              · subst hk
                have ht320 : t < 320 := HS6.out
                cases hdist : distOf t with
                | none =>
                  have hno : 29 < t := by
                    unfold distOf at hdist
                    by_cases e : 29 < t
                    · exact e
                    · rw [if_neg e] at hdist
                      repeat' split at hdist
                      all_goals cases hdist
                  have HLN := keepf (distance_no t w6 (by omega) (by omega) (by omega))
                  have HMN := keepf (pmore_no g 0 0 w6)
                  have hrun : ∀ last, Runs bs most ⟨a, out, .coded ls ds last⟩ (.err 11) := fun last => (HL5.out last).stop (.dist HO6.out (by unfold stDist; rw [if_neg (by omega), hdist]))
                  have HR := keepf hrun
                  clear hrun hdist hno
                  go_wp2_with (first
                    | (go_at_call 80; refine HLN.out.mono ?_; rintro e w7 ⟨rfl, rfl⟩)
                    | (go_at_call 75; refine HMN.out.mono ?_; rintro e w7 ⟨rfl, rfl⟩))
                  simp only [Exit.jump]
                  go_ret
                  exact ⟨11, _, out1, So1, rfl, HP6.out, HMb.out, .inr ⟨by omega, HR.out⟩⟩
                | some yn =>
                  obtain ⟨y, nn6⟩ := yn
                  obtain ⟨hy0, hy1, hy2⟩ := distOf_le hdist
                  have HLN := keepf (distance_ok t y nn6 w6 hdist)
                  have HMO := keepf (pmore w6 g gr _ nn6 y most bs out1 S So1 fx HP6.out (by omega) (by omega))
                  have hp14 : 2 ^ nn6 ≤ 2 ^ 14 := Nat.pow_le_pow_right (by decide) hy2
                  have HP14 := keepf hp14
                  have hstep : ∀ last, Step bs most ⟨b5, out1, .dist z ls ds last⟩ (if 8 * bs.length < b5 + m6 + nn6 then .inr (.err 10) else if out1.length < y + numAt false bs (b5 + m6) nn6 then .inr (.err 14) else if most - out1.length < z then .inr (.err 3) else .inl ⟨b5 + m6 + nn6, rep (y + numAt false bs (b5 + m6) nn6) z out1, .coded ls ds last⟩) := fun last => .dist HO6.out (by unfold stDist; rw [if_neg (by omega), hdist])
                  have HST := keepf hstep
                  have HY0 := keepf hy0
                  have HLB := keepf HP6.out.le
                  clear hstep hdist hp14 hy2 HO6 hy0
                  go_upto_region 17 with (first
                    | (go_at_call 80; refine HLN.out.mono ?_; rintro e w7 ⟨rfl, rfl⟩)
                    | (go_at_call 75; refine HMO.out.mono ?_; rintro e w7 ⟨far, b7, k, rfl, hP7, hm7, hz7, hk⟩; have HP7 := keepf hP7; have HM7 := keepf (HMb.out.trans hm7); have HZ7 := keepf hz7; have HK7 := keepf hk; clear hP7 hm7 hz7 hk))
                  rcases HK7.out with ⟨rfl, rfl, hle, hfe⟩ | ⟨rfl, rfl, hlt7⟩
                  · have hst2 : ∀ last, Step bs most ⟨b5, out1, .dist z ls ds last⟩ (if out1.length < far then .inr (.err 14) else if most - out1.length < z then .inr (.err 3) else .inl ⟨b5 + m6 + nn6, rep far z out1, .coded ls ds last⟩) := fun last => by
                      have := HST.out last
                      rw [if_neg (by omega), ← hfe] at this
                      exact this
                    have HST2 := keepf hst2
                    have hfar : far ≤ 100000 := by have := HZ7.out; have := HP14.out; omega
                    have hfar0 : 1 ≤ far := by have := HY0.out; omega
                    have HF0 := keepf hfar0
                    have HLE7 := keepf hle
                    clear hst2 hle hfe HST HMO HLN HK7 HMb hfar0
                    by_cases hff : out1.length < far
                    · have HPR := keepf (prep_far w7 g gr _ most z far bs out1 S So1 fx HP7.out (by omega) hfar hff)
                      have hrun : ∀ last, Runs bs most ⟨a, out, .coded ls ds last⟩ (.err 14) := fun last => (HL5.out last).stop (by have := HST2.out last; rw [if_pos hff] at this; exact this)
                      have HR := keepf hrun
                      clear hrun hff
                      go_wp2_with (go_at_call 81; refine HPR.out.mono ?_; rintro e w8 ⟨rfl, m8, rfl⟩)
                      simp only [Exit.jump]
                      go_ret
                      exact ⟨14, _, out1, So1, rfl, HP7.out.drewN m8, HM7.out.drewN m8, .inr ⟨by omega, HR.out⟩⟩
                    · by_cases hll : most - out1.length < z
                      · have HPR := keepf (prep_long w7 g gr _ most z far bs out1 S So1 fx HP7.out (by omega) (by omega) hll)
                        have hrun : ∀ last, Runs bs most ⟨a, out, .coded ls ds last⟩ (.err 3) := fun last => (HL5.out last).stop (by have := HST2.out last; rw [if_neg hff, if_pos hll] at this; exact this)
                        have HR := keepf hrun
                        clear hrun hff hll
                        go_wp2_with (go_at_call 81; refine HPR.out.mono ?_; rintro e w8 ⟨rfl, m8, rfl⟩)
                        simp only [Exit.jump]
                        go_ret
                        exact ⟨3, _, out1, So1, rfl, HP7.out.drewN m8, HM7.out.drewN m8, .inr ⟨by omega, HR.out⟩⟩
                      · have HPR := keepf (prep w7 g gr _ most z far bs out1 S So1 fx HP7.out (by omega) HF0.out (by omega) (by omega))
                        have hlead : ∀ last, Leads bs most ⟨a, out, .coded ls ds last⟩ ⟨b5 + m6 + nn6, rep far z out1, .coded ls ds last⟩ := fun last => (HL5.out last).then (by have := HST2.out last; rw [if_neg hff, if_neg hll] at this; exact this)
                        have HR := keepf hlead
                        clear hlead hff hll
                        go_wp2_with (go_at_call 81; refine HPR.out.mono ?_; rintro e w8 ⟨So8, rfl, hP8, hm8⟩; have HP8 := keepf hP8; have HM8 := keepf (HM7.out.trans hm8); clear hP8 hm8)
                        go_step3
                        refine ⟨rfl, 8 * bs.length - (b5 + m6 + nn6), by have := HN5.out; omega, ?_⟩
                        exact ⟨rfl, rfl, rfl, rfl, _, _, So8, rfl, HP8.out, HM8.out, by have := HAB5.out; omega, HR.out⟩
                  · have hrun : ∀ last, Runs bs most ⟨a, out, .coded ls ds last⟩ (.err 10) := fun last => (HL5.out last).stop (by have := HST.out last; rw [if_pos (by omega)] at this; exact this)
                    have HR := keepf hrun
                    clear hrun hlt7
                    go_wp2_with fail
                    simp only [Exit.jump]
                    go_ret
                    exact ⟨10, _, out1, So1, rfl, HP7.out, HM7.out, .inr ⟨by omega, HR.out⟩⟩
              · have hk2 : k = 10 ∨ k = 13 := by cases HO6.out <;> simp_all
                have hrun : ∀ last, Runs bs most ⟨a, out, .coded ls ds last⟩ (.err k) := fun last => (HL5.out last).stop (.dist HO6.out (by unfold stDist; rw [if_pos hk]))
                have HR := keepf hrun
                clear hrun hk
                rcases hk2 with rfl | rfl
                all_goals
                  go_wp2_with fail
                  simp only [Exit.jump]
                  go_ret
                  exact ⟨_, _, out1, So1, rfl, HP6.out, HMb.out, .inr ⟨by omega, HR.out⟩⟩
            · have hrun : ∀ last, Runs bs most ⟨a, out, .coded ls ds last⟩ (.err 10) := fun last => (HL1.out last).stop (by have := HST.out last; rw [if_pos (by omega)] at this; exact this)
              have HR := keepf hrun
              clear hrun hlt5
              go_wp2_with fail
              simp only [Exit.jump]
              go_ret
              exact ⟨10, b + m, out1, So1, rfl, HP5.out, HM5.out, .inr ⟨by omega, HR.out⟩⟩
    · have hk2 : k = 10 ∨ k = 13 := by cases HO3.out <;> simp_all
      have hrun : ∀ last, Runs bs most ⟨a, out, .coded ls ds last⟩ (.err k) := fun last => (HL1.out last).stop (.coded HO3.out (by unfold stCoded; rw [if_pos hk]))
      have HR := keepf hrun
      clear hrun hk
      rcases hk2 with rfl | rfl
      all_goals
        go_wp2_with fail
        simp only [hop]
        go_ret
        exact ⟨_, b + m, out1, So1, rfl, HP3.out, HMa.out, .inr ⟨by omega, HR.out⟩⟩
end Go.Proofs.YtmmilchmnimjoaaGreat
/- Codes of lengths; a run of lengths; lengths' lengths. -/
namespace Go.Proofs.YtmmilchmnimjoaaGreat
open Go.RowKit
set_option linter.unusedVariables false
set_option linter.unusedSimpArgs false
theorem info_i64 : (Tryz.prog.info? 3).map (fun i => (i.zero, i.size, i.bytes)) = some (some (.int .i64 0), 1, 8) := by kernel_rfl
def NewC (w : World) (ls ds : List Int) (e : Ending) (w' : World) : Prop :=
  ∃ (p : Option Addr) (k : Int), e = .returned (.tuple #[.pointer p, .int .i64 k]) ∧ Chg NoS w w' ∧
    ((k = 0 ∧ May ls ∧ May ds ∧ ∃ g, p = some ⟨g, 0, none⟩ ∧ Cd w' g ls ds ∧ w.heap.size ≤ g) ∨ (k = 13 ∧ p = none ∧ (¬ May ls ∨ ¬ May ds)))
set_option maxHeartbeats 1000000 in
set_option maxRecDepth 100000 in
theorem newCodes_any (ls ds : List Int) (A A2 : Option Addr) (c c2 : Nat) (w : World) (hS : Src w 1 A ls.length c (icells ls)) (hS2 : Src w 1 A2 ds.length c2 (icells ds)) (hb : in64 ls) (hb2 : in64 ds) (hL : ls.length ≤ 1000) (hL2 : ds.length ≤ 1000) :
    Calls Tryz.prog 73 #[.slice A ls.length c, .slice A2 ds.length c2] w (NewC w ls ds) := by
  have HS2 := keepf hS2
  have HB2 := keepf hb2
  by_cases hM : May ls
  · have HN := keepf (new_ok ls A c w hM hb hS)
    have HM := keepf hM
    clear hS hb hM hS2 hb2
    by_cases hM2 : May ds
    · have HM2 := keepf hM2
      have HN2 := keepf (fun W (h : Chg NoS w W) => new_ok ds A2 c2 W hM2 HB2.out (HS2.out.below (w0 := w) h))
      clear hM2
      go_enter Tryz.func73, Tryz.ntmps73
      go_upto_region 4 with (go_at_call 99; refine HN.out.mono ?_; rintro e w2 ⟨g, rfl, ht2, hc2, hg2⟩; have HT2 := keepf ht2; have HC2 := keepf hc2; have HG2 := keepf hg2; clear ht2 hc2 hg2)
      go_wp2_with (go_at_call 99; refine (HN2.out _ HC2.out).mono ?_; rintro e w3 ⟨g3, rfl, ht3, hc3, hg3⟩; have HT3 := keepf ht3; have HC3 := keepf hc3; have HG3 := keepf hg3; clear ht3 hc3 hg3)
      go_ret2
      have hcn : Chg NoS w3 (w3.alloc (.cells #[.pointer (some ⟨g, 0, none⟩), .pointer (some ⟨g3, 0, none⟩)] 124)) := (Chg.refl NoS w3).alloc _
      refine ⟨_, 0, rfl, (HC2.out.trans HC3.out (fun _ _ h => h)).trans hcn (fun _ _ h => h), .inl ⟨rfl, HM.out, HM2.out, w3.heap.size, rfl, ⟨g, g3, Blk.new _ _ _, ?_, HT3.out.chg hcn (fun h => h), HM.out, HM2.out⟩, ?_⟩⟩
      · exact (HT2.out.chg HC3.out (fun h => h)).chg hcn (fun h => h)
      · have := HC2.out.size; have := HC3.out.size; omega
    · have HN2 := keepf (fun W (h : Chg NoS w W) => new_no ds A2 c2 W hM2 hL2 HB2.out (HS2.out.below (w0 := w) h))
      have HM2 := keepf hM2
      clear hM2
      go_enter Tryz.func73, Tryz.ntmps73
      go_upto_region 4 with (go_at_call 99; refine HN.out.mono ?_; rintro e w2 ⟨g, rfl, ht2, hc2, hg2⟩; have HT2 := keepf ht2; have HC2 := keepf hc2; have HG2 := keepf hg2; clear ht2 hc2 hg2)
      go_wp2_with (go_at_call 99; refine (HN2.out _ HC2.out).mono ?_; rintro e w3 ⟨rfl, hc3⟩; have HC3 := keepf hc3; clear hc3)
      go_ret2
      exact ⟨_, 13, rfl, HC2.out.trans HC3.out (fun _ _ h => h), .inr ⟨rfl, rfl, .inr HM2.out⟩⟩
  · have HN := keepf (new_no ls A c w hM hL hb hS)
    have HM := keepf hM
    clear hS hb hM hS2 hb2
    go_enter Tryz.func73, Tryz.ntmps73
    go_wp2_with (go_at_call 99; refine HN.out.mono ?_; rintro e w2 ⟨rfl, hc2⟩; have HC2 := keepf hc2; clear hc2)
    go_ret2
    exact ⟨_, 13, rfl, HC2.out, .inr ⟨rfl, rfl, .inl HM.out⟩⟩
def RunIs (bs : List Nat) (a : Nat) (l : List Int) (s b t : Nat) (v k : Int) : Prop :=
  ∀ out ls n ns last, stLens bs a out ls l n ns last s 0 = if k = 0 then stRun b out ls l n ns last t v else .inr (.err k)
def GotR (w : World) (g gr : Nat) (bs : List Nat) (a : Nat) (S : Value) (most : Nat) (out : List Nat) (So fx : Value) (l : List Int) (s : Nat) (e : Ending) (w' : World) : Prop :=
  ∃ (v : Int) (t b : Nat) (k : Int), e = .returned (.tuple #[.int .i64 v, .int .i64 t, .int .i64 k]) ∧ Pk w' g gr bs b S most out So fx ∧ Mv g gr w So w' So ∧ t ≤ 1000 ∧ a ≤ b ∧ (k = 0 → 1 ≤ t) ∧ (k = 0 ∨ k = 10 ∨ k = 11) ∧ (v = s ∨ v = 0 ∨ v ∈ l) ∧ RunIs bs a l s b t v k
set_option maxHeartbeats 1000000 in
set_option maxRecDepth 100000 in
theorem prun (w : World) (g gr a most s c : Nat) (bs out : List Nat) (l : List Int) (A : Option Addr) (S So fx : Value) (hP : Pk w g gr bs a S most out So fx) (hs : s < 320) (hS : ∀ W, Chg (KP g gr So) w W → Src W 1 A l.length c (icells l)) (hb : in64 l) (hL : l.length ≤ 1000) :
    Calls Tryz.prog 103 #[.pointer (some ⟨g, 0, none⟩), .int .i64 s, .slice A l.length c] w (GotR w g gr bs a S most out So fx l s) := by
  have HP := keepf hP
  have HS := keepf hS
  have HB := keepf hb
  clear hP hS hb
  by_cases h16 : s = 16
  · subst h16
    have HM := keepf (pmore w g gr a 2 3 most bs out S So fx HP.out (by omega) (by omega))
    go_enter Tryz.func103, Tryz.ntmps103
    go_upto_region 5 with (go_at_call 75; refine HM.out.mono ?_; rintro e w2 ⟨y, b, k, rfl, hP2, hm2, hy, hk⟩; have HP2 := keepf hP2; have HM2 := keepf hm2; have HY := keepf hy; have HK := keepf hk; clear hP2 hm2 hy hk)
    rcases HK.out with ⟨rfl, rfl, hle, hye⟩ | ⟨rfl, rfl, hlt⟩
    · have HYE := keepf hye
      have HLE := keepf hle
      clear hye hle
      by_cases h0 : l.length = 0
      · rw [h0] at HS ⊢
        have H0 := keepf h0
        clear h0
        go_wp2_with fail
        go_ret3
        refine ⟨0, y, a + 2, 11, rfl, HP2.out, HM2.out, by have := HY.out; omega, by omega, fun h => (by cases h), by simp, by simp, fun out ls n ns last => ?_⟩
        unfold stLens
        rw [if_neg (by omega), if_pos rfl, if_neg (by have := HLE.out; omega), if_pos H0.out, if_neg (by omega)]
      · have hS2 := HS.out _ HM2.out.1
        obtain ⟨bb, off, rfl, hcell⟩ := hS2.plain (by rw [icells_len]; omega)
        have hc1 := hcell (l.length - 1) (.int .i64 (l.getD (l.length - 1) 0)) (by simp [icells, List.getD_eq_getElem?_getD, show l.length - 1 < l.length from by omega])
        obtain ⟨n, hn⟩ : ∃ n, n = l.length := ⟨_, rfl⟩
        have hv : l.getD (n - 1) 0 ∈ l := by
          rw [List.getD_eq_getElem?_getD, List.getElem?_eq_getElem (show n - 1 < l.length by omega)]
          exact List.getElem_mem _
        obtain ⟨v, hve⟩ : ∃ v, v = l.getD (n - 1) 0 := ⟨_, rfl⟩
        rw [← hn] at hc1 h0 hL ⊢
        rw [← hve] at hc1 hv
        have d1 : ((n : Int) == 0) = false := by simp; omega
        have d1' : (n == 0) = false := by simp; omega
        have i1 : (0 : Int) ≤ (n : Int) - 1 := by omega
        have i2 : (n : Int) - 1 < n := by omega
        have i3 : ((n : Int) - 1).toNat = n - 1 := by omega
        have i4 : 1 ≤ n := by omega
        have HN := keepf hn
        have HV := keepf hv
        have HVE := keepf hve
        clear hn hv hve hS2 hcell HK
        go_wp2_with fail
        go_ret3
        refine ⟨v, y, a + 2, 0, rfl, HP2.out, HM2.out, by have := HY.out; omega, by omega, fun _ => (by have := HYE.out; omega), by simp, .inr (.inr HV.out), fun out ls m ns last => ?_⟩
        unfold stLens
        rw [if_neg (by omega), if_pos rfl, if_neg (by have := HLE.out; omega), if_neg (by have := HN.out; omega), if_pos rfl, HYE.out, HVE.out, HN.out]
    · go_wp2_with fail
      go_ret3
      refine ⟨0, y, b, 10, rfl, HP2.out, HM2.out, by have := HY.out; omega, by omega, fun h => (by cases h), by simp, by simp, fun out ls n ns last => ?_⟩
      unfold stLens
      rw [if_neg (by omega), if_pos rfl, if_pos (by omega), if_neg (by omega)]
  · have d16 : ((s : Int) == 16) = false := by simp; omega
    have d16' : (s == 16) = false := by simp; omega
    by_cases h17 : s = 17
    · subst h17
      have HM := keepf (pmore w g gr a 3 3 most bs out S So fx HP.out (by omega) (by omega))
      go_enter Tryz.func103, Tryz.ntmps103
      go_wp2_with (go_at_call 75; refine HM.out.mono ?_; rintro e w2 ⟨y, b, k, rfl, hP2, hm2, hy, hk⟩; have HP2 := keepf hP2; have HM2 := keepf hm2; have HY := keepf hy; have HK := keepf hk; clear hP2 hm2 hy hk)
      go_ret3
      refine ⟨0, y, b, k, rfl, HP2.out, HM2.out, by have := HY.out; omega, ?_⟩
      rcases HK.out with ⟨rfl, rfl, hle, hye⟩ | ⟨rfl, rfl, hlt⟩
      · refine ⟨by omega, fun _ => (by omega), by simp, by simp, fun out ls n ns last => ?_⟩
        unfold stLens
        rw [if_neg (by omega), if_neg (by omega), if_pos rfl, if_neg (by omega), if_pos rfl, hye]
      · refine ⟨by omega, fun h => (by cases h), by simp, by simp, fun out ls n ns last => ?_⟩
        unfold stLens
        rw [if_neg (by omega), if_neg (by omega), if_pos rfl, if_pos (by omega), if_neg (by omega)]
    · have d17 : ((s : Int) == 17) = false := by simp; omega
      have d17' : (s == 17) = false := by simp; omega
      by_cases h18 : s = 18
      · subst h18
        have HM := keepf (pmore w g gr a 7 11 most bs out S So fx HP.out (by omega) (by omega))
        go_enter Tryz.func103, Tryz.ntmps103
        go_wp2_with (go_at_call 75; refine HM.out.mono ?_; rintro e w2 ⟨y, b, k, rfl, hP2, hm2, hy, hk⟩; have HP2 := keepf hP2; have HM2 := keepf hm2; have HY := keepf hy; have HK := keepf hk; clear hP2 hm2 hy hk)
        go_ret3
        refine ⟨0, y, b, k, rfl, HP2.out, HM2.out, by have := HY.out; omega, ?_⟩
        rcases HK.out with ⟨rfl, rfl, hle, hye⟩ | ⟨rfl, rfl, hlt⟩
        · refine ⟨by omega, fun _ => (by omega), by simp, by simp, fun out ls n ns last => ?_⟩
          unfold stLens
          rw [if_neg (by omega), if_neg (by omega), if_neg (by omega), if_pos rfl, if_neg (by omega), if_pos rfl, hye]
        · refine ⟨by omega, fun h => (by cases h), by simp, by simp, fun out ls n ns last => ?_⟩
          unfold stLens
          rw [if_neg (by omega), if_neg (by omega), if_neg (by omega), if_pos rfl, if_pos (by omega), if_neg (by omega)]
      · have d18 : ((s : Int) == 18) = false := by simp; omega
        have d18' : (s == 18) = false := by simp; omega
        go_enter Tryz.func103, Tryz.ntmps103
        go_wp2_with fail
        go_ret3
        refine ⟨s, 1, a, 0, rfl, HP.out, Mv.refl _ _ _ _, by omega, by omega, fun _ => (by omega), by simp, by simp, fun out ls n ns last => ?_⟩
        unfold stLens
        rw [if_neg (by omega), if_neg h16, if_neg h17, if_neg h18, if_pos rfl]
end Go.Proofs.YtmmilchmnimjoaaGreat
/- Lengths, told by codes. -/
namespace Go.Proofs.YtmmilchmnimjoaaGreat
open Go.RowKit
set_option linter.unusedVariables false
set_option linter.unusedSimpArgs false
abbrev OwnI (w : World) (A : Option Addr) (c : Nat) (l : List Int) : Prop := w.ownsRow 0 3 1 (.slice A l.length c) l.length (icells l)
def slenI : Value → Nat
  | .slice _ n _ => n
  | _ => 0
def IntsOnly (w : World) (K : Nat → Prop) : Prop := ∀ i t cs, Blk w i t cs → t ≠ 3 → ¬ K i
theorem intsOnly_own {w : World} {base size n : Nat} {v : Value} {xs : List Value} (ho : w.ownsRow base 3 size v n xs) : IntsOnly w (fun i => v.ownBlock = some i) :=
  fun i t cs hb ht e => own_ne_blk ho hb (fun h => ht h.symm) e
section
variable {w w' : World} {K : Nat → Prop}
theorem Tb.ints {c : Nat} {ls : List Int} (h : Tb w c ls) (hc : Chg K w w') (hK : IntsOnly w K) : Tb w' c ls := by
  obtain ⟨T, S, h1, h2⟩ := h
  exact ⟨T, S, h1.chg hc (hK _ _ _ h1 (by decide)), h2⟩
theorem Cd.ints {c : Nat} {ls ds : List Int} (h : Cd w c ls ds) (hc : Chg K w w') (hK : IntsOnly w K) : Cd w' c ls ds := by
  obtain ⟨gs, gd, h1, h2, h3, h4, h5⟩ := h
  exact ⟨gs, gd, h1.chg hc (hK _ _ _ h1 (by decide)), h2.ints hc hK, h3.ints hc hK, h4, h5⟩
theorem own_ints {base size n : Nat} {v : Value} {e : TypeId} {xs : List Value} (ho : w.ownsRow base e size v n xs) (hc : Chg K w w') (hK : IntsOnly w K) (he : e ≠ 3) : w'.ownsRow base e size v n xs := by
  refine own_chg ho hc (fun i hi => ?_)
  rcases ho.2 with ⟨rfl, _⟩ | ⟨g', cap, cur, rfl, hb, hh, _⟩
  · simp [Value.ownBlock] at hi
  · have e1 : g' = i := by simpa [Value.ownBlock] using hi
    subst e1
    exact hK _ e _ hh he
theorem Pk.ints {g gr a most : Nat} {bs out : List Nat} {S So fx : Value} (h : Pk w g gr bs a S most out So fx) (hc : Chg K w w') (hK : IntsOnly w K) : Pk w' g gr bs a S most out So fx where
  blk := h.blk.chg hc (hK _ _ _ h.blk (by decide))
  rd := ⟨h.rd.1.chg hc (hK _ _ _ h.rd.1 (by decide)), own_ints h.rd.2 hc hK (by decide)⟩
  own := own_ints h.own hc hK (by decide)
  sep := h.sep
  fix := h.fix.imp id (fun ⟨c, h1, h2⟩ => ⟨c, h1, h2.ints hc hK⟩)
  le := h.le
  len := h.len
  byt := h.byt
  mst := h.mst
  ole := h.ole
theorem Mv.fresh {w0 : World} {g gr : Nat} {So So' : Value} (h : Mv g gr w0 So w So') (hc : Chg K w w') (hK : ∀ i, i < w0.heap.size → ¬ K i) : Mv g gr w0 So w' So' :=
  ⟨h.1.trans hc (fun i hi e => absurd e (hK i hi)), h.2⟩
end
def GotL (w : World) (g gr : Nat) (bs : List Nat) (a : Nat) (S : Value) (most : Nat) (out : List Nat) (So fx : Value) (ls : List Int) (n : Nat) (e : Ending) (w' : World) : Prop :=
  ∃ b : Nat, Pk w' g gr bs b S most out So fx ∧ Mv g gr w So w' So ∧ a ≤ b ∧
    ((∃ (A : Option Addr) (c : Nat) (l : List Int), e = .returned (.tuple #[.slice A l.length c, .int .i64 0]) ∧ l.length = n ∧ OwnI w' A c l ∧ (∀ z ∈ l, 0 ≤ z ∧ z ≤ 320) ∧ (∀ x, A = some x → w.heap.size ≤ x.block) ∧
        ∀ ns last, Leads bs most ⟨a, out, .lens ls [] n ns last⟩ ⟨b, out, .lens ls l n ns last⟩) ∨
      (∃ k : Int, (k = 10 ∨ k = 11 ∨ k = 13) ∧ e = .returned (.tuple #[.slice none 0 0, .int .i64 k]) ∧ ∀ ns last, Runs bs most ⟨a, out, .lens ls [] n ns last⟩ (.err k)))
set_option maxHeartbeats 2000000 in
set_option maxRecDepth 100000 in
theorem plengths (w : World) (g gr a most t n : Nat) (bs out : List Nat) (ls : List Int) (S So fx : Value) (hP : Pk w g gr bs a S most out So fx) (hM : May ls) (hT : Tb w t ls) (hn : n ≤ 400) :
    Calls Tryz.prog 77 #[.pointer (some ⟨g, 0, none⟩), .pointer (some ⟨t, 0, none⟩), .int .i64 n] w (GotL w g gr bs a S most out So fx ls n) := by
  have HP := keepf hP
  have HM := keepf hM
  have HT := keepf hT
  obtain ⟨i0, hi, hz0, hz1, hz2⟩ := info_parts info_i64
  clear hP hM hT
  go_enter Tryz.func77, Tryz.ntmps77
  go_wp2_with (first
    | (at_make; go_loud (refine wpList_make_own _ rfl (.const (.int .i64 0)) (.tmp 13) 63 rfl 0 3 i0 (.int .i64 0) 1 Tryz.underlying63 hi hz0 hz1 .i64 .i64 _ n rfl rfl (by simp) (by rw [hz2]; omega) (by unfold maxLen; omega) (Nat.zero_le _) ?_); intro w2 hown2 hgr; have HO2 := keepf hown2; have HG2 := keepf hgr; clear hown2 hgr))
  have hc2 : Chg NoS w w2 := (Chg.refl NoS w).grown HG2.out (fun _ e _ => by cases e)
  have HC2 := keepf hc2
  clear hc2
  go_loopw [8] (fun v wr => ∃ (b : Nat) (l : List Int) (Al : Option Addr) (cl : Nat), v = .slice Al l.length cl ∧ l.length ≤ n ∧ Hid (OwnI wr Al cl l) ∧ Hid (Pk wr g gr bs b S most out So fx) ∧ Hid (Mv g gr w So wr So) ∧ Hid (Tb wr t ls) ∧ Hid (a ≤ b) ∧ Hid (∀ z ∈ l, 0 ≤ z ∧ z ≤ 320) ∧ Hid (∀ x, Al = some x → w.heap.size ≤ x.block) ∧ Hid (∀ ns last, Leads bs most ⟨a, out, .lens ls [] n ns last⟩ ⟨b, out, .lens ls l n ns last⟩)) (fun v _ => n - slenI v)
  case atStart => exact ⟨a, [], _, _, rfl, Nat.zero_le _, HO2.out, HP.out.news HC2.out, (Mv.refl _ _ _ _).news HC2.out, HT.out.chg HC2.out (fun h => h), Nat.le_refl a, fun z hz => (by cases hz), fun x hx => (by injection hx with hx; subst hx; exact Nat.le_refl _), fun ns last => Leads.refl _⟩
  case round =>
    obtain ⟨b, l, Al, cl, rfl, hl, HOl, HPl, HMl, HTl, HAB, HR, HF, HL⟩ := hrel
    obtain ⟨ln, hln⟩ : ∃ ln, ln = l.length := ⟨_, rfl⟩
    have HLN := keepf hln
    rw [← hln] at hl ⊢
    by_cases hlt : ln < n
    · have c0 := HPl.out.c0
      have HSY := keepf (psym wr g gr b most t bs out ls S So fx HPl.out HM.out HTl.out)
      clear hln
      go_upto_region 4 with (go_at_call 78; refine HSY.out.mono ?_; rintro e w3 ⟨s, m, k, rfl, ho, hP3, hm3, hs3, hs4⟩; have HO3 := keepf ho; have HP3 := keepf hP3; have HM3 := keepf (HMl.out.trans hm3); have HMM3 := keepf hm3; have HS3 := keepf hs3; have HS4 := keepf hs4; clear ho hP3 hm3 hs3 hs4)
      by_cases hk : k = 0
      · subst hk
        have hrow3 : ∀ W, Chg (KP g gr So) w3 W → Src W 1 Al ln cl (icells l) := fun W hW => by
          have h1 := HP3.out.row (HPl.out.row HOl.out (by decide) (by decide) (by decide) HMM3.out.1) (by decide) (by decide) (by decide) hW
          rw [HLN.out]
          exact src_own h1
        have HRW := keepf hrow3
        have hcall := prun w3 g gr (b + m) most s cl bs out l Al S So fx HP3.out HS3.out (by rw [← HLN.out]; exact HRW.out) (fun z hz => by have := HR.out z hz; omega) (by have := HLN.out; omega)
        rw [← HLN.out] at hcall
        have HCall := keepf hcall
        clear hrow3 hcall c0 HSY
        go_upto_region 7 with (go_at_call 103; refine HCall.out.mono ?_; rintro e w4 ⟨v, tm, b4, k, rfl, hP4, hm4, htm, hb4, htp, hkk, hv, hri⟩; have HP4 := keepf hP4; have HM4 := keepf (HM3.out.trans hm4); have HMM4 := keepf hm4; have HB4 := keepf hb4; have HTP := keepf htp; have HV := keepf hv; have HRI := keepf hri; clear hP4 hm4 hb4 htp hv hri)
        have hstep : ∀ ns last, Step bs most ⟨b, out, .lens ls l n ns last⟩ (if k = 0 then stRun b4 out ls l n ns last tm v else .inr (.err k)) := fun ns last => .lens (by have := HLN.out; omega) HO3.out (HRI.out _ _ _ _ _)
        have HST := keepf hstep
        clear hstep HRI HCall
        rcases hkk with rfl | hkk
        · by_cases hlong : n - ln < tm
          · have d1 : decide ((n : Int) - ln < tm) = true := by simp; omega
            have hrun : ∀ ns last, Runs bs most ⟨a, out, .lens ls [] n ns last⟩ (.err 11) := fun ns last => (HL.out ns last).stop (by have := HST.out ns last; rw [if_pos rfl, stRun, if_pos (by have := HLN.out; omega)] at this; exact this)
            have HRu := keepf hrun
            clear hrun
            go_wp2_with fail
            go_ret2
            exact ⟨b4, HP4.out, HM4.out, by have := HAB.out; have := HB4.out; omega, .inr ⟨11, by omega, rfl, HRu.out⟩⟩
          · have d1 : decide ((n : Int) - ln < tm) = false := by simp; omega
            have hlead : ∀ ns last, Leads bs most ⟨a, out, .lens ls [] n ns last⟩ ⟨b4, out, .lens ls (l ++ List.replicate tm v) n ns last⟩ := fun ns last => (HL.out ns last).then (by have := HST.out ns last; rw [if_pos rfl, stRun, if_neg (by have := HLN.out; omega)] at this; exact this)
            have HL4 := keepf hlead
            have hown4 : w4.ownsRow 0 3 1 (.slice Al ln cl) ln (icells l) := by
              rw [HLN.out]
              exact HP3.out.row (HPl.out.row HOl.out (by decide) (by decide) (by decide) HMM3.out.1) (by decide) (by decide) (by decide) HMM4.out.1
            have HO4 := keepf hown4
            have HT4 := keepf (HP3.out.tb (HPl.out.tb HTl.out HMM3.out.1) HMM4.out.1)
            have hvb : 0 ≤ v ∧ v ≤ 320 := by
              rcases HV.out with h | h | h
              · have := HS3.out; omega
              · omega
              · exact HR.out v h
            have HVB := keepf hvb
            have htm1 := HTP.out rfl
            clear hlead hown4 hvb HST HRW HP3 HM3 HMM3 HMM4 HPl HMl HTl HOl HO3 HS3 HS4 HL HV
            go_wp2_with fail
            clear d1
            go_loopw [8, 49] (fun va vb wr => ∃ (j : Nat) (A2 : Option Addr) (c2 : Nat), j ≤ tm ∧ vb = .int .i64 j ∧ va = .slice A2 (ln + j) c2 ∧ Hid (wr.ownsRow 0 3 1 (.slice A2 (ln + j) c2) (ln + j) (icells (l ++ List.replicate j v))) ∧ Hid (Pk wr g gr bs b4 S most out So fx) ∧ Hid (Mv g gr w So wr So) ∧ Hid (Tb wr t ls) ∧ Hid (∀ x, A2 = some x → w.heap.size ≤ x.block)) (fun _ vb _ => tm - (intOf vb).toNat)
            case atStart => exact ⟨0, Al, cl, Nat.zero_le _, rfl, rfl, keepf (by simpa using HO4.out), HP4.out, HM4.out, HT4.out, HF.out⟩
            case round =>
              obtain ⟨j, A2, c2, hj, rfl, rfl, HOj, HPj, HMj, HTj, HFj⟩ := hrel
              by_cases hjt : j < tm
              · have hnj : ln + j < n := by omega
                go_wp2_with (first
                  | (at_builtin; go_loud (refine wpList_append_src rfl (.tmp 51) (.tmp 53) 63 rfl 3 i0 (.int .i64 0) 1 8 Tryz.underlying63 hi hz0 hz1 hz2 rfl (by decide) (.slice A2 (ln + j) c2) _ _ rfl (own_chg (S := NoS) HOj.out ((Chg.refl _ _).alloc _) (fun _ _ h => h)) _ _ _ [.int .i64 v] rfl (src_one _ _ _) (by simp [Value.oneCell']) (by unfold maxLen; omega) (by omega) ?_); intro S5 w5 hown5 hgr hat; obtain ⟨A5, c5, rfl, hA5⟩ := own_slice hown5; have HG5 := keepf hgr; have HO5 := keepf hown5; have HA5 := keepf hat; clear hgr hown5 hat hA5))
                have hch : Chg (fun i => (Value.slice A2 (ln + j) c2).ownBlock = some i) _ w5 := ((Chg.refl _ _).alloc _).grown HG5.out (fun k e _ => e)
                have hio := intsOnly_own HOj.out
                have HCh := keepf hch
                have HIO := keepf hio
                have hfr : ∀ i, i < w.heap.size → ¬ ((Value.slice A2 (ln + j) c2).ownBlock = some i) := by
                  intro i hi2 e
                  rcases A2 with _ | a2
                  · simp [Value.ownBlock] at e
                  · have h3 := HFj.out a2 rfl
                    simp [Value.ownBlock] at e
                    omega
                have HFR := keepf hfr
                clear hch hio hfr
                go_roundw
                case rel =>
                  refine ⟨j + 1, A5, c5, by omega, by go_num, by simp [Nat.add_assoc], ?_, HPj.out.ints HCh.out HIO.out, HMj.out.fresh HCh.out HFR.out, HTj.out.ints HCh.out HIO.out, ?_⟩
                  · have h2 := HO5.out
                    have e : icells (l ++ List.replicate (j + 1) v) = icells (l ++ List.replicate j v) ++ [.int .i64 v] := by
                      simp [icells, List.replicate_succ']
                    rw [e, ← Nat.add_assoc]
                    exact h2
                  · rintro x rfl
                    have hs := HMj.out.1.size
                    rcases HA5.out with h3 | h3
                    · rcases A2 with _ | a2
                      · simp [Value.ownBlock] at h3
                      · have h4 := HFj.out a2 rfl
                        simp [Value.ownBlock] at h3
                        omega
                    · simp [Value.ownBlock] at h3
                      omega
                case measure => simp [intOf]; omega
              · obtain rfl : tm = j := by omega
                go_wp2_with fail
                go_roundw
                case rel =>
                  refine ⟨b4, l ++ List.replicate tm v, A2, c2, by simp [HLN.out], by simp; have := HLN.out; omega, ?_, HPj.out, HMj.out, HTj.out, (by show a ≤ _; have := HAB.out; have := HB4.out; omega), ?_, HFj.out, HL4.out⟩
                  · show World.ownsRow _ _ _ _ _ _ _
                    have e : (l ++ List.replicate tm v).length = ln + tm := by simp [HLN.out]
                    rw [e]
                    exact HOj.out
                  · intro z hz
                    rcases List.mem_append.1 hz with h | h
                    · exact HR.out z h
                    · rw [List.eq_of_mem_replicate h]; exact HVB.out
                case measure => simp [slenI]; omega
        · have hrun : ∀ ns last, Runs bs most ⟨a, out, .lens ls [] n ns last⟩ (.err k) := fun ns last => (HL.out ns last).stop (by have := HST.out ns last; rw [if_neg (by omega)] at this; exact this)
          have HRu := keepf hrun
          clear hrun HST
          rcases hkk with rfl | rfl
          all_goals
            go_wp2_with fail
            go_ret2
            exact ⟨b4, HP4.out, HM4.out, by have := HAB.out; have := HB4.out; omega, .inr ⟨_, by omega, rfl, HRu.out⟩⟩
      · have hk2 : k = 10 ∨ k = 13 := by cases HO3.out <;> simp_all
        have hrun : ∀ ns last, Runs bs most ⟨a, out, .lens ls [] n ns last⟩ (.err k) := fun ns last => (HL.out ns last).stop (.lens (by have := HLN.out; omega) HO3.out (by unfold stLens; rw [if_pos hk]))
        have HRu := keepf hrun
        clear hrun hk
        rcases hk2 with rfl | rfl
        all_goals
          go_wp2_with fail
          go_ret2
          exact ⟨b + m, HP3.out, HM3.out, by have := HAB.out; omega, .inr ⟨_, by omega, rfl, HRu.out⟩⟩
    · obtain rfl : ln = n := by omega
      clear hln
      go_wp2_with fail
      go_ret2
      refine ⟨b, HPl.out, HMl.out, HAB.out, .inl ⟨Al, cl, l, ?_, HLN.out.symm, HOl.out, HR.out, HF.out, HL.out⟩⟩
      rw [← HLN.out]
      rfl
end Go.Proofs.YtmmilchmnimjoaaGreat
/- Lengths of lengths; the codes that a block tells ahead of its symbols. -/
namespace Go.Proofs.YtmmilchmnimjoaaGreat
open Go.RowKit
set_option linter.unusedVariables false
set_option linter.unusedSimpArgs false
def RowI (w : World) (g cap : Nat) (d : List Int) : Prop := w.ownsRow 0 3 1 (.slice (some ⟨g, 0, none⟩) d.length cap) d.length (icells d)
theorem RowI.chg {w w' : World} {g cap : Nat} {d : List Int} {K : Nat → Prop} (h : RowI w g cap d) (hc : Chg K w w') (hk : ¬ K g) : RowI w' g cap d := own_chg h hc (fun i hi => by
  simp [Value.ownBlock] at hi
  subst hi
  exact hk)
theorem RowI.set {w : World} {g cap : Nat} {d : List Int} (h : RowI w g cap d) (i : Nat) (x : Int) : RowI (w.setCell ⟨g, i, none⟩ (.int .i64 x)) g cap (d.set i x) := by
  have h1 := (World.ownsRow.stored h i (.int .i64 x)).1
  have e : (icells d).set i (.int .i64 x) = icells (d.set i x) := by simp [icells, List.map_set]
  rw [e] at h1
  unfold RowI
  rw [List.length_set]
  exact h1
theorem RowI.frozen {w : World} {g cap : Nat} {d : List Int} (h : RowI w g cap d) (i : Nat) : w.frozen? ⟨g, i, none⟩ = false := World.ownsRow.frozenAt h i
theorem RowI.cell {w : World} {g cap : Nat} {d : List Int} (h : RowI w g cap d) (i : Nat) (hi : i < d.length) : w.cell? ⟨g, i, none⟩ = some (.int .i64 (d.getD i 0)) := by
  have h1 := World.ownsRow.cellAt h i (by omega)
  rw [h1]
  simp [icells, List.getD_eq_getElem?_getD, hi]
def orderCells : Array Value := (order.map fun n => Value.int .i64 (n : Nat)).toArray
set_option maxRecDepth 100000 in
theorem order_any (w : World) : Calls Tryz.prog 102 #[] w fun e w' => e = .returned (.slice (some ⟨w.heap.size, 0, none⟩) 19 19) ∧ w' = w.alloc (.cells orderCells 3) := by
  go_enter Tryz.func102, Tryz.ntmps102
  go_wp2
  go_ret
  exact ⟨rfl, rfl⟩
def GotK (w : World) (g gr : Nat) (bs : List Nat) (a : Nat) (S : Value) (most : Nat) (out : List Nat) (So fx : Value) (K : Nat) (e : Ending) (w' : World) : Prop :=
  ∃ b : Nat, Pk w' g gr bs b S most out So fx ∧ Mv g gr w So w' So ∧ a ≤ b ∧
    ((∃ (t : Nat) (l : List Int), e = .returned (.tuple #[.pointer (some ⟨t, 0, none⟩), .int .i64 0]) ∧ May l ∧ Tb w' t l ∧ ∀ n ns last, Leads bs most ⟨a, out, .kinds (order.take K) (List.replicate 19 0) n ns last⟩ ⟨b, out, .lens l [] n ns last⟩) ∨
      (∃ k : Int, (k = 10 ∨ k = 13) ∧ e = .returned (.tuple #[.pointer none, .int .i64 k]) ∧ ∀ n ns last, Runs bs most ⟨a, out, .kinds (order.take K) (List.replicate 19 0) n ns last⟩ (.err k)))
set_option maxHeartbeats 2000000 in
set_option maxRecDepth 100000 in
theorem plengthCodes (w : World) (g gr a most K : Nat) (bs out : List Nat) (S So fx : Value) (hP : Pk w g gr bs a S most out So fx) (hK : K ≤ 19) :
    Calls Tryz.prog 76 #[.pointer (some ⟨g, 0, none⟩), .int .i64 K] w (GotK w g gr bs a S most out So fx K) := by
  have HP := keepf hP
  obtain ⟨i0, hi, hz0, hz1, hz2⟩ := info_parts info_i64
  clear hP
  go_enter Tryz.func76, Tryz.ntmps76
  go_wp2_with (first
    | (at_make; go_loud (refine wpList_make_full _ rfl (.const (.int .i64 19)) (.const (.int .i64 19)) 63 rfl 0 3 i0 (.int .i64 0) 1 Tryz.underlying63 hi hz0 hz1 .i64 .i64 _ _ 19 rfl rfl rfl rfl (by rw [hz2]; omega) (by unfold maxLen; omega) (Nat.zero_le _) ?_); intro w2 hown2 hgr; have HO2 := keepf hown2; have HG2 := keepf hgr; clear hown2 hgr)
    | (go_at_call 102; refine (order_any _).mono ?_; rintro e w3 ⟨rfl, rfl⟩))
  have hz : (madeCells (Value.int .i64 0).cells (19 * 1)).toList = icells (List.replicate 19 0) := by
    rw [Nat.mul_one]
    exact (toList_madeCells_one _ _).trans (by simp [icells])
  have hrow2 : RowI w2 w.heap.size 19 (List.replicate 19 0) := by
    show w2.ownsRow _ _ _ (.slice _ (List.replicate 19 (0 : Int)).length _) (List.replicate 19 (0 : Int)).length _
    rw [List.length_replicate, ← hz]
    exact HO2.out
  have hc2 : Chg NoS w w2 := (Chg.refl NoS w).grown HG2.out (fun _ e _ => by cases e)
  have hlt2 : w.heap.size < w2.heap.size := own_lt HO2.out rfl
  obtain ⟨gl, hgl⟩ : ∃ gl, gl = w.heap.size := ⟨_, rfl⟩
  obtain ⟨go, hgo⟩ : ∃ go, go = w2.heap.size := ⟨_, rfl⟩
  have hb3 := Blk.new w2 3 orderCells
  have hc3 : Chg NoS w2 (w2.alloc (.cells orderCells 3)) := (Chg.refl NoS w2).alloc _
  have hlo : gl ≠ go := by omega
  generalize w2.alloc (.cells orderCells 3) = w3 at *
  rw [← hgl] at hrow2 ⊢
  rw [← hgo] at hb3 ⊢
  have HR3 := keepf (hrow2.chg hc3 (fun h => h))
  have HB3 := keepf hb3
  have HC3 := keepf (hc2.trans hc3 (fun _ _ h => h))
  have HLO := keepf hlo
  have HGL := keepf hgl
  have HGO := keepf (show w.heap.size ≤ go by omega)
  clear hz hrow2 hc2 hlt2 hgl hgo hb3 hc3 hlo HO2 HG2
  go_loopw [16] (fun vi wr => ∃ (i b : Nat) (l : List Int), i ≤ K ∧ vi = .int .i64 i ∧ Hid (l.length = 19) ∧ Hid (RowI wr gl 19 l) ∧ Hid (Blk wr go 3 orderCells) ∧ Hid (Pk wr g gr bs b S most out So fx) ∧ Hid (Mv g gr w So wr So) ∧ Hid (a ≤ b) ∧ Hid (∀ z ∈ l, 0 ≤ z ∧ z ≤ 7) ∧ Hid (∀ n ns last, Leads bs most ⟨a, out, .kinds (order.take K) (List.replicate 19 0) n ns last⟩ ⟨b, out, .kinds ((order.take K).drop i) l n ns last⟩)) (fun vi _ => K - (intOf vi).toNat)
  case atStart => exact ⟨0, a, _, Nat.zero_le _, rfl, List.length_replicate, HR3.out, HB3.out, HP.out.news HC3.out, (Mv.refl _ _ _ _).news HC3.out, Nat.le_refl a, fun z hz => (by rw [List.eq_of_mem_replicate hz]; omega), fun n ns last => Leads.refl _⟩
  case round =>
    obtain ⟨i, b, l, hiK, rfl, H19, HRl, HBo, HPi, HMi, HAB, HZ, HL⟩ := hrel
    by_cases hlt : i < K
    · have c0 := HPi.out.c0
      obtain ⟨s, hs⟩ : ∃ s, s = order.getD i 0 := ⟨_, rfl⟩
      have hol : order.length = 19 := rfl
      have hs19 : s < 19 := by
        rw [hs]
        have : ∀ k : Nat, k < 19 → order.getD k 0 < 19 := by decide
        exact this i (by omega)
      have hdrop : (order.take K).drop i = s :: (order.take K).drop (i + 1) := by
        rw [List.drop_eq_getElem_cons (by rw [List.length_take]; omega)]
        congr 1
        rw [hs, List.getElem_take, List.getD_eq_getElem?_getD, List.getElem?_eq_getElem (by omega)]
        rfl
      have hco : wr.cell? ⟨go, i, none⟩ = some (.int .i64 (s : Nat)) := by
        rw [HBo.out.cell, hs]
        simp [orderCells, List.getD_eq_getElem?_getD, show i < order.length by omega]
      have HDR := keepf hdrop
      have HGT := keepf (pget wr g gr b 3 most bs out S So fx HPi.out (by omega))
      have i19 : (i : Int) < 19 := by omega
      clear hs hol hdrop
      go_upto_region 6 with (go_at_call 46; refine HGT.out.mono ?_; rintro e w4 ⟨x, b4, k, rfl, hP4, hm4, hx, hk⟩; have HP4 := keepf hP4; have HMM4 := keepf hm4; have HM4 := keepf (HMi.out.trans hm4); have HK := keepf hk; clear hP4 hm4 hk)
      have hx8 : x < 8 := by simpa using hx
      clear hx c0 HGT
      have hstep : ∀ n ns last, Step bs most ⟨b, out, .kinds ((order.take K).drop i) l n ns last⟩ (if 8 * bs.length < b + 3 then .inr (.err 10) else .inl ⟨b + 3, out, .kinds ((order.take K).drop (i + 1)) (l.set s (numAt false bs b 3 : Nat)) n ns last⟩) := fun n ns last => .kinds (by rw [HDR.out]; rfl)
      have HST := keepf hstep
      clear hstep
      rcases HK.out with ⟨rfl, rfl, hle, hxe⟩ | ⟨rfl, rfl, rfl, hlt4⟩
      · have hlead : ∀ n ns last, Leads bs most ⟨a, out, .kinds (order.take K) (List.replicate 19 0) n ns last⟩ ⟨b + 3, out, .kinds ((order.take K).drop (i + 1)) (l.set s (x : Nat)) n ns last⟩ := fun n ns last => (HL.out n ns last).then (by have := HST.out n ns last; rw [if_neg (by omega), ← hxe] at this; exact this)
        have HL4 := keepf hlead
        have hrow4 : RowI w4 gl 19 l := HRl.out.chg HMM4.out.1 (HPi.out.no_own HRl.out (by decide) (by decide) (by decide) gl rfl)
        have HB4 := keepf (HBo.out.chg HMM4.out.1 (HPi.out.no_blk HBo.out (by decide) (by decide) (by decide)))
        have f4 := hrow4.frozen s
        have c4 := hrow4.cell s (by have := H19.out; omega)
        have HR4 := keepf hrow4
        have hset : Chg (fun i => i = gl) w4 (w4.setCell ⟨gl, s, none⟩ (.int .i64 (x : Nat))) := (Chg.refl (fun i => i = gl) w4).setCell (p := ⟨gl, s, none⟩) (fun _ => rfl) _
        have HSet := keepf hset
        have hio : IntsOnly w4 (fun i => i = gl) := fun i t cs hb ht e => by
          subst e
          exact own_ne_blk hrow4 hb (fun h => ht h.symm) rfl
        have HIO := keepf hio
        clear hlead hrow4 hset hio hle hxe HST HK HPi HMi HRl HBo HL HMM4 hco
        go_wp2_with fail
        go_roundw
        case rel =>
          refine ⟨i + 1, b + 3, l.set s (x : Nat), by omega, by go_num, ?_, HR4.out.set s (x : Nat), HB4.out.chg HSet.out (fun e => HLO.out e.symm), HP4.out.ints HSet.out HIO.out, HM4.out.fresh HSet.out (fun i hi e => by have := HGL.out; omega), (by show a ≤ _; have := HAB.out; omega), ?_, HL4.out⟩
          · show (l.set s _).length = 19
            rw [List.length_set]
            exact H19.out
          · intro z hz
            rcases List.mem_or_eq_of_mem_set hz with h | h
            · exact HZ.out z h
            · rw [h]; omega
        case measure => simp [intOf]; omega
      · have hrun : ∀ n ns last, Runs bs most ⟨a, out, .kinds (order.take K) (List.replicate 19 0) n ns last⟩ (.err 10) := fun n ns last => (HL.out n ns last).stop (by have := HST.out n ns last; rw [if_pos (by omega)] at this; exact this)
        have HRu := keepf hrun
        clear hrun HST HK
        go_wp2_with fail
        go_ret2
        exact ⟨_, HP4.out, HM4.out, HAB.out, .inr ⟨10, .inl rfl, rfl, HRu.out⟩⟩
    · obtain rfl : K = i := by omega
      have hsrc : Src wr 1 (some ⟨gl, 0, none⟩) l.length 19 (icells l) := src_own HRl.out
      have hib : in64 l := fun z hz => by have := HZ.out z hz; omega
      have hdn : (order.take K).drop K = [] := List.drop_eq_nil_of_le (by rw [List.length_take]; omega)
      by_cases hM : May l
      · have HN := keepf (new_ok l (some ⟨gl, 0, none⟩) 19 wr hM hib hsrc)
        have hlead : ∀ n ns last, Leads bs most ⟨a, out, .kinds (order.take K) (List.replicate 19 0) n ns last⟩ ⟨b, out, .lens l [] n ns last⟩ := fun n ns last => (HL.out n ns last).then (.kinds (by rw [hdn]; unfold stKinds; rw [if_pos hM]))
        have HL4 := keepf hlead
        have HMy := keepf hM
        rw [H19.out] at HN
        clear hlead hM hsrc hib hdn
        go_wp2_with (go_at_call 99; refine HN.out.mono ?_; rintro e w5 ⟨t, rfl, ht5, hc5, hg5⟩; have HT5 := keepf ht5; have HC5 := keepf hc5; clear ht5 hc5 hg5)
        go_ret2
        exact ⟨b, HPi.out.news HC5.out, HMi.out.news HC5.out, HAB.out, .inl ⟨t, l, rfl, HMy.out, HT5.out, HL4.out⟩⟩
      · have HN := keepf (new_no l (some ⟨gl, 0, none⟩) 19 wr hM (by have := H19.out; omega) hib hsrc)
        have hrun : ∀ n ns last, Runs bs most ⟨a, out, .kinds (order.take K) (List.replicate 19 0) n ns last⟩ (.err 13) := fun n ns last => (HL.out n ns last).stop (.kinds (by rw [hdn]; unfold stKinds; rw [if_neg hM]))
        have HRu := keepf hrun
        rw [H19.out] at HN
        clear hrun hM hsrc hib hdn
        go_wp2_with (go_at_call 99; refine HN.out.mono ?_; rintro e w5 ⟨rfl, hc5⟩; have HC5 := keepf hc5; clear hc5)
        go_ret2
        exact ⟨b, HPi.out.news HC5.out, HMi.out.news HC5.out, HAB.out, .inr ⟨13, .inr rfl, rfl, HRu.out⟩⟩
end Go.Proofs.YtmmilchmnimjoaaGreat
/- The codes that a block tells ahead of its symbols. -/
namespace Go.Proofs.YtmmilchmnimjoaaGreat
open Go.RowKit
set_option linter.unusedVariables false
set_option linter.unusedSimpArgs false
theorem size_i64 (w : World) : (sizeOf (Tryz.prog.elem 63)).run Tryz.prog w = .ok 1 w := by go_simp
set_option maxRecDepth 100000 in
theorem slice_toI (A : Option Addr) (len cap m : Nat) (hm : m ≤ cap) (w : World) : (Instr.sliceAt 63 (.slice A len cap) none (some (.int .i64 (m : Nat))) none).run Tryz.prog w = .ok (.slice A m cap) w := by
  rw [run_sliceAt_slice w _ _ _ _ _ Tryz.underlying63, run_slice_h w _ A len cap Tryz.underlying63 .i64 (m : Nat) (by omega) (by omega), size_i64]
  simp [Result.andThen, sliced, Addr.add]
set_option maxRecDepth 100000 in
theorem slice_fromI (b off len cap m : Nat) (hm : m ≤ len) (hc : m < cap) (w : World) : (Instr.sliceAt 63 (.slice (some ⟨b, off, none⟩) len cap) (some (.int .i64 (m : Nat))) none none).run Tryz.prog w = .ok (.slice (some ⟨b, off + m, none⟩) (len - m) (cap - m)) w := by
  rw [run_sliceAt_slice w _ _ _ _ _ Tryz.underlying63, run_slice_l w _ _ len cap Tryz.underlying63 .i64 (m : Nat) (by omega) (by omega), size_i64]
  have hne : ¬ (cap = m) := by omega
  by_cases h0 : m = 0
  · subst h0; simp [Result.andThen, sliced, hne, Addr.add]
  · simp [Result.andThen, sliced, hne, Addr.add, h0]
theorem src_takeI {w : World} {g off n c k : Nat} {l : List Int} (h : Src w 1 (some ⟨g, off, none⟩) n c (icells l)) (hl : l.length = n) (hk : k ≤ n) : Src w 1 (some ⟨g, off, none⟩) (l.take k).length c (icells (l.take k)) := by
  refine ⟨by simp [icells], fun e => (by cases e), fun ad e j u hu => ?_⟩
  refine h.2.2 ad e j u ?_
  have hj : j < k := by
    have := (List.getElem?_eq_some_iff.1 hu).1
    simp [icells] at this
    omega
  simp only [icells, List.map_take] at hu ⊢
  rw [List.getElem?_take, if_pos hj] at hu
  exact hu
theorem src_dropI {w : World} {g n c k : Nat} {l : List Int} (h : Src w 1 (some ⟨g, 0, none⟩) n c (icells l)) (hl : l.length = n) (hk : k ≤ n) : Src w 1 (some ⟨g, k, none⟩) (l.drop k).length (c - k) (icells (l.drop k)) := by
  refine ⟨by simp [icells], fun e => (by cases e), fun ad e j u hu => ?_⟩
  cases e
  have h1 := h.2.2 _ rfl (k + j) u (by simpa [icells, List.getElem?_drop] using hu)
  rw [Addr.add_mid] at h1 ⊢
  simpa using h1
def GotO (w : World) (g gr : Nat) (bs : List Nat) (a : Nat) (S : Value) (most : Nat) (out : List Nat) (So fx : Value) (e : Ending) (w' : World) : Prop :=
  ∃ b : Nat, Pk w' g gr bs b S most out So fx ∧ Mv g gr w So w' So ∧ a ≤ b ∧
    ((∃ (c : Nat) (ls ds : List Int), e = .returned (.tuple #[.pointer (some ⟨c, 0, none⟩), .int .i64 0]) ∧ Cd w' c ls ds ∧ ∀ last, Leads bs most ⟨a, out, .own last⟩ ⟨b, out, .coded ls ds last⟩) ∨
      (∃ k : Int, (k = 10 ∨ k = 11 ∨ k = 13) ∧ e = .returned (.tuple #[.pointer none, .int .i64 k]) ∧ ∀ last, Runs bs most ⟨a, out, .own last⟩ (.err k)))
set_option maxHeartbeats 4000000 in
set_option maxRecDepth 100000 in
theorem pownCodes (w : World) (g gr a most : Nat) (bs out : List Nat) (S So fx : Value) (hP : Pk w g gr bs a S most out So fx) :
    Calls Tryz.prog 49 #[.pointer (some ⟨g, 0, none⟩)] w (GotO w g gr bs a S most out So fx) := by
  have HP := keepf hP
  have HM1 := keepf (pmore w g gr a 5 257 most bs out S So fx hP (by omega) (by omega))
  clear hP
  go_enter Tryz.func49, Tryz.ntmps49
  go_upto_region 2 with (go_at_call 75; refine HM1.out.mono ?_; rintro e w2 ⟨x, b, k, rfl, hP2, hm2, hx, hk⟩; have HP2 := keepf hP2; have HV2 := keepf hm2; have HX := keepf hx; have HK2 := keepf hk; clear hP2 hm2 hx hk)
  rcases HK2.out with ⟨rfl, rfl, hle2, hxe⟩ | ⟨rfl, rfl, hlt⟩
  · have HXE := keepf hxe
    have HLE2 := keepf hle2
    have hx288 : x ≤ 288 := by have := HX.out; omega
    have hx257 : 257 ≤ x := by omega
    have HM2 := keepf (pmore w2 g gr _ 5 1 most bs out S So fx HP2.out (by omega) (by omega))
    clear hxe hle2 HM1 HK2 HX
    go_upto_region 5 with (go_at_call 75; refine HM2.out.mono ?_; rintro e w3 ⟨y, b, k, rfl, hP3, hm3, hy, hk⟩; have HP3 := keepf hP3; have HV3 := keepf (HV2.out.trans hm3); have HY := keepf hy; have HK3 := keepf hk; clear hP3 hm3 hy hk)
    rcases HK3.out with ⟨rfl, rfl, hle3, hye⟩ | ⟨rfl, rfl, hlt⟩
    · have HYE := keepf hye
      have HLE3 := keepf hle3
      have hy32 : y ≤ 32 := by have := HY.out; omega
      have hy1 : 1 ≤ y := by omega
      have HM3 := keepf (pmore w3 g gr _ 4 4 most bs out S So fx HP3.out (by omega) (by omega))
      clear hye hle3 HM2 HK3 HY HP2 HV2
      go_upto_region 8 with (go_at_call 75; refine HM3.out.mono ?_; rintro e w4 ⟨z, b, k, rfl, hP4, hm4, hz, hk⟩; have HP4 := keepf hP4; have HV4 := keepf (HV3.out.trans hm4); have HZ := keepf hz; have HK4 := keepf hk; clear hP4 hm4 hz hk)
      rcases HK4.out with ⟨rfl, rfl, hle4, hze⟩ | ⟨rfl, rfl, hlt⟩
      · have HZE := keepf hze
        have HLE4 := keepf hle4
        have hz19 : z ≤ 19 := by have := HZ.out; omega
        clear hze hle4 HM3 HK4 HZ HP3 HV3
        have hst : ∀ last, Step bs most ⟨a, out, .own last⟩ (if 286 < x ∨ 30 < y then .inr (.err 11) else .inl ⟨a + 14, out, .kinds (order.take z) (List.replicate 19 0) (x + y) x last⟩) := fun last => .own (by
          unfold stOwn
          rw [if_neg (by have := HLE4.out; omega), ← HXE.out, ← HYE.out, show a + 10 = a + 5 + 5 from by omega, ← HZE.out])
        have HST := keepf hst
        have e14 : a + 5 + 5 + 4 = a + 14 := by omega
        rw [e14] at HP4
        clear hst e14
        by_cases hbig : 286 < x ∨ 30 < y
        · have hrun : ∀ last, Runs bs most ⟨a, out, .own last⟩ (.err 11) := fun last => .stop (by have := HST.out last; rw [if_pos hbig] at this; exact this)
          have HRu := keepf hrun
          clear hrun HST
          by_cases h286 : 286 < x
          · have d1 : decide ((286 : Int) < x) = true := by simp; omega
            have d1' : decide (286 < x) = true := by simp; omega
            clear hbig
            go_wp2_with fail
            go_ret2
            exact ⟨_, HP4.out, HV4.out, by omega, .inr ⟨11, by simp, rfl, HRu.out⟩⟩
          · have d1 : decide ((286 : Int) < x) = false := by simp; omega
            have d1' : decide (286 < x) = false := by simp; omega
            have d2 : decide ((30 : Int) < y) = true := by simp; omega
            have d2' : decide (30 < y) = true := by simp; omega
            clear hbig
            go_wp2_with fail
            go_ret2
            exact ⟨_, HP4.out, HV4.out, by omega, .inr ⟨11, by simp, rfl, HRu.out⟩⟩
        · have hlead : ∀ last, Leads bs most ⟨a, out, .own last⟩ ⟨a + 14, out, .kinds (order.take z) (List.replicate 19 0) (x + y) x last⟩ := fun last => .step (by have := HST.out last; rw [if_neg hbig] at this; exact this)
          have HL4 := keepf hlead
          have hx286 : x ≤ 286 := by omega
          have hy30 : y ≤ 30 := by omega
          have d1 : decide ((286 : Int) < x) = false := by simp; omega
          have d1' : decide (286 < x) = false := by simp; omega
          have d2 : decide ((30 : Int) < y) = false := by simp; omega
          have d2' : decide (30 < y) = false := by simp; omega
          have HK := keepf (plengthCodes w4 g gr (a + 14) most z bs out S So fx HP4.out hz19)
          clear hlead hbig HST HXE HYE HZE HLE2 HLE3 HLE4
          go_upto_region 13 with (go_at_call 76; refine HK.out.mono ?_; rintro e w5 ⟨b5, hP5, hm5, hab5, hk5⟩; have HP5 := keepf hP5; have HV5 := keepf (HV4.out.trans hm5); have HB5 := keepf hab5; clear hP5 hm5 hab5; rcases hk5 with ⟨t, l5, rfl, hmay, htb, hl5⟩ | ⟨k, hk, rfl, hru⟩)
          · have HMay := keepf hmay
            have HTb := keepf htb
            have HL5 := keepf hl5
            have hlens := plengths w5 g gr b5 most t (x + y) bs out l5 S So fx HP5.out hmay htb (by omega)
            have exy : ((x + y : Nat) : Int) = (x : Int) + y := by omega
            rw [exy] at hlens
            have HLN := keepf hlens
            clear hmay htb hl5 hlens exy HK d1 d1' d2 d2'
            go_upto_region 16 with (go_at_call 77; refine HLN.out.mono ?_; rintro e w6 ⟨b6, hP6, hm6, hab6, hk6⟩; have HP6 := keepf hP6; have HV6 := keepf (HV5.out.trans hm6); have HB6 := keepf hab6; clear hP6 hm6 hab6; rcases hk6 with ⟨A, c, l, rfl, hlen, hown, hz, hfr, hl6⟩ | ⟨k, hk, rfl, hru⟩)
            · have HN := keepf hlen
              have HO6 := keepf hown
              have HZ6 := keepf hz
              have HL6 := keepf hl6
              obtain ⟨ga, ca, hA, hcap1, hcap2⟩ := own_form hown (by omega)
              simp only [Value.slice.injEq] at hA
              obtain ⟨rfl, _, rfl⟩ := hA
              have c256 := hown.cellAt 256 (by omega)
              obtain ⟨v, hv⟩ : ∃ v, v = l.getD 256 0 := ⟨_, rfl⟩
              have hiv : (icells l)[256]? = some (.int .i64 v) := by
                rw [hv]
                simp [icells, List.getD_eq_getElem?_getD, show 256 < l.length by omega]
              rw [hiv] at c256
              have HVV := keepf hv
              rw [hlen] at hcap1
              have i1 : (256 : Int) < (x : Int) + y := by omega
              have i1' : 256 < x + y := by omega
              have hends : ∀ last, Step bs most ⟨b6, out, .lens l5 l (x + y) x last⟩ (stEnd b6 out l x last) := fun last => .lensEnd (by omega) rfl
              have HEN := keepf hends
              clear hiv hv hz hl6 hlen hfr hends hown HLN HP5 HV5 HMay HTb
              by_cases hv0 : v = 0
              · subst hv0
                have hrun : ∀ last, Runs bs most ⟨a, out, .own last⟩ (.err 11) := fun last => ((HL4.out last).trans ((HL5.out _ _ last).trans (HL6.out _ last))).stop (by have := HEN.out last; unfold stEnd at this; rw [if_pos HVV.out.symm] at this; exact this)
                have HRu := keepf hrun
                clear hrun HEN
                go_wp2_with fail
                go_ret2
                exact ⟨b6, HP6.out, HV6.out, by have := HB5.out; have := HB6.out; omega, .inr ⟨11, by simp, rfl, HRu.out⟩⟩
              · have dv : (v == 0) = false := by simpa using hv0
                have hsrc : Src w6 1 (some ⟨ga, 0, none⟩) (x + y) c (icells l) := by rw [← HN.out]; exact src_own HO6.out
                have htl : (l.take x).length = x := by rw [List.length_take, HN.out]; omega
                have hdl : (l.drop x).length = y := by rw [List.length_drop, HN.out]; omega
                have hcall : ∀ W, Chg NoS w6 W → Calls Tryz.prog 73 #[.slice (some ⟨ga, 0, none⟩) x c, .slice (some ⟨ga, x, none⟩) y (c - x)] W (NewC W (l.take x) (l.drop x)) := fun W hW => by
                  have h1 := newCodes_any (l.take x) (l.drop x) (some ⟨ga, 0, none⟩) (some ⟨ga, x, none⟩) c (c - x) W ((src_takeI hsrc HN.out (by omega)).below (w0 := W) hW) ((src_dropI hsrc HN.out (by omega)).below (w0 := W) hW)
                    (fun z hz => by have := HZ6.out z (List.mem_of_mem_take hz); omega) (fun z hz => by have := HZ6.out z (List.mem_of_mem_drop hz); omega) (by omega) (by omega)
                  rw [htl, hdl] at h1
                  exact h1
                have HCall := keepf hcall
                have hs1 := fun W => slice_toI (some ⟨ga, 0, none⟩) (x + y) c x (by omega) W
                have hs2 := fun W => slice_fromI ga 0 (x + y) c x (by omega) (by omega) W
                rw [show 0 + x = x from by omega, show x + y - x = y from by omega] at hs2
                have HV0 := keepf hv0
                clear hsrc hcall htl hdl hv0
                go_upto_region 20 with fail
                first
                  | (go_loud (go_region_held3 (fun _ => True)
                      (trivial)
                      (first
                        | (go_at_call 73; refine (HCall.out _ ((Chg.refl NoS w6).drew)).mono ?_; rintro e w7 ⟨p7, k, rfl, hc7, hk7⟩; have HC7 := keepf (Chg.undrewN (n := 1) hc7); have HK7 := keepf hk7; clear hc7 hk7))))
                  | fail "region"
                go_wp2_with fail
                go_ret2
                refine ⟨b6, HP6.out.news HC7.out, HV6.out.news HC7.out, by have := HB5.out; have := HB6.out; omega, ?_⟩
                rcases HK7.out with ⟨rfl, hm1, hm2, cg, rfl, hcd, _⟩ | ⟨rfl, rfl, hm⟩
                · refine .inl ⟨cg, l.take x, l.drop x, rfl, hcd, fun last => ((HL4.out last).trans ((HL5.out _ _ last).trans (HL6.out _ last))).then ?_⟩
                  have := HEN.out last
                  unfold stEnd at this
                  rw [if_neg (by rw [← HVV.out]; exact HV0.out), if_neg (by simpa using hm1), if_neg (by simpa using hm2)] at this
                  exact this
                · refine .inr ⟨13, by simp, rfl, fun last => ((HL4.out last).trans ((HL5.out _ _ last).trans (HL6.out _ last))).stop ?_⟩
                  have := HEN.out last
                  unfold stEnd at this
                  rw [if_neg (by rw [← HVV.out]; exact HV0.out)] at this
                  by_cases h1 : May (l.take x)
                  · rw [if_neg (by simpa using h1), if_pos (by rcases hm with h | h; exact absurd h1 h; exact h)] at this
                    exact this
                  · rw [if_pos h1] at this
                    exact this
            · have hrun : ∀ last, Runs bs most ⟨a, out, .own last⟩ (.err k) := fun last => (HL4.out last) _ ((HL5.out _ _ last) _ (hru _ last))
              have HRu := keepf hrun
              clear hrun hru
              rcases hk with rfl | rfl | rfl
              all_goals
                go_wp2_with fail
                go_ret2
                exact ⟨b6, HP6.out, HV6.out, by have := HB5.out; have := HB6.out; omega, .inr ⟨_, by simp, rfl, HRu.out⟩⟩
          · have hrun : ∀ last, Runs bs most ⟨a, out, .own last⟩ (.err k) := fun last => HL4.out last _ (hru _ _ last)
            have HRu := keepf hrun
            clear hrun hru
            rcases hk with rfl | rfl
            all_goals
              go_wp2_with fail
              go_ret2
              exact ⟨b5, HP5.out, HV5.out, by have := HB5.out; omega, .inr ⟨_, by simp, rfl, HRu.out⟩⟩
      · go_wp2_with fail
        go_ret2
        refine ⟨_, HP4.out, HV4.out, by omega, .inr ⟨10, by simp, rfl, fun last => .stop (.own ?_)⟩⟩
        unfold stOwn
        rw [if_pos (by omega)]
    · go_wp2_with fail
      go_ret2
      refine ⟨_, HP3.out, HV3.out, by omega, .inr ⟨10, by simp, rfl, fun last => .stop (.own ?_)⟩⟩
      unfold stOwn
      rw [if_pos (by omega)]
  · go_wp2_with fail
    go_ret2
    refine ⟨_, HP2.out, HV2.out, by omega, .inr ⟨10, by simp, rfl, fun last => .stop (.own ?_)⟩⟩
    unfold stOwn
    rw [if_pos (by omega)]
end Go.Proofs.YtmmilchmnimjoaaGreat
