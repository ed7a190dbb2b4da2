/- Merged by program: RefC. -/
import Derived.Test.YtmmilchmnimjoaaGreatN10
import Derived.Test.YtmmilchmnimjoaaGreatN21
/- The document's own unpacking: a block by codes. -/
namespace Go.Proofs.YtmmilchmnimjoaaGreat
open Go.RowKit
set_option linter.unusedVariables false
set_option linter.unusedSimpArgs false
theorem numAt_lt (bs : List Nat) (a n : Nat) : numAt false bs a n < 2 ^ n := obf_lt _ n
section
variable {bs : List Nat} {most a last b x : Nat} {out r : List Nat} {ls ds : List Int}
theorem runs_coded (h : Runs bs most ⟨a, out, .coded ls ds last⟩ (.ok r b)) : ∃ s m, Out ls (leftBits false bs a) s m 0 ∧
    ((s = 256 ∧ Runs bs most ⟨a + m, out, .plain 0 last⟩ (.ok r b)) ∨ (s < 256 ∧ out.length < most ∧ Runs bs most ⟨a + m, out ++ [s], .coded ls ds last⟩ (.ok r b)) ∨
     (256 < s ∧ ∃ x n, lenOf s = some (x, n) ∧ a + m + n ≤ 8 * bs.length ∧ Runs bs most ⟨a + m + n, out, .dist (x + numAt false bs (a + m) n) ls ds last⟩ (.ok r b))) := by
  cases h with
  | stop h =>
    cases h with
    | @coded _ _ _ _ _ s m k _ o e =>
      unfold stCoded at e
      repeat' split at e
      all_goals cases e
  | go h k =>
    cases h with
    | @coded _ _ _ _ _ s m k' _ o e =>
      unfold stCoded at e
      by_cases h0 : k' = 0
      · subst h0
        rw [if_neg (by simp)] at e
        refine ⟨s, m, o, ?_⟩
        by_cases h1 : s = 256
        · rw [if_pos h1] at e
          injection e with e
          subst e
          exact .inl ⟨h1, k⟩
        · rw [if_neg h1] at e
          by_cases h2 : s < 256
          · rw [if_pos h2] at e
            split at e
            · cases e
            · injection e with e
              subst e
              exact .inr (.inl ⟨h2, by omega, k⟩)
          · rw [if_neg h2] at e
            split at e
            · cases e
            · rename_i x n hx
              split at e
              · cases e
              · injection e with e
                subst e
                exact .inr (.inr ⟨by omega, x, n, hx, by omega, k⟩)
      · rw [if_pos h0] at e
        cases e
theorem runs_dist (h : Runs bs most ⟨a, out, .dist x ls ds last⟩ (.ok r b)) : ∃ s m y n, Out ds (leftBits false bs a) s m 0 ∧ distOf s = some (y, n) ∧ a + m + n ≤ 8 * bs.length ∧
    y + numAt false bs (a + m) n ≤ out.length ∧ x ≤ most - out.length ∧ Runs bs most ⟨a + m + n, rep (y + numAt false bs (a + m) n) x out, .coded ls ds last⟩ (.ok r b) := by
  cases h with
  | stop h =>
    cases h with
    | dist o e =>
      unfold stDist at e
      repeat' split at e
      all_goals cases e
  | go h k =>
    cases h with
    | @dist _ _ _ _ _ _ s m k' _ o e =>
      unfold stDist at e
      by_cases h0 : k' = 0
      · subst h0
        rw [if_neg (by simp)] at e
        split at e
        · cases e
        · rename_i y n hy
          repeat' split at e
          · cases e
          · cases e
          · cases e
          · injection e with e
            subst e
            exact ⟨s, m, y, n, o, hy, by omega, by omega, by omega, k⟩
      · rw [if_pos h0] at e
        cases e
end
set_option maxHeartbeats 1000000 in
theorem rnumber_zero (g a most : Nat) (bs out : List Nat) (V So : Value) (w : World) (h : RS w g bs V a out So most) (hb : 0 < bs.length) :
    Calls Tryz.prog 34 #[.pointer (some ⟨g, 0, none⟩), .int .i64 0] w (RTo w g bs V a out So most (.int .i64 0)) := by
  obtain ⟨gb, cap, hV, hc1, hc2⟩ := own_form h.bits (by omega)
  subst hV
  have c0 := h.blk.cell 0
  have c1 := h.blk.cell 1
  have c2 := h.blk.cell 2
  simp at c0 c1 c2
  have H := keepf h
  have hlen := h.len
  have hle := h.le
  have HOF := keepf (fun (W : World) (A : Option Addr) (c : Nat) (hA : A = none → c = 0) => show Calls Tryz.prog 53 #[.slice A 0 c, .bool false] W fun e w' => e = .returned (.int .u32 0) ∧ W = w' from
    refof_any false [] A c W (by decide) ⟨rfl, fun h => ⟨rfl, hA h⟩, fun ad _ j u hu => by simp [tcells] at hu⟩)
  obtain ⟨N, hN⟩ : ∃ N, N = 8 * bs.length := ⟨_, rfl⟩
  have HNN := keepf hN
  rw [← hN] at hc1 c0 hle
  have hN2 : N ≤ 800000 := by omega
  have d1 : decide ((N : Int) - a < 0) = false := by simp; omega
  have w1 : IntKind.i64.wrap ((N : Int) - a) = (N : Int) - a := by rw [IntKind.wrap_i64]; omega
  clear h hN hlen
  go_enter Tryz.func34, Tryz.ntmps34
  go_upto_region 3 with fail
  go_quiet (fail)
  clear d1
  obtain ⟨W, hW⟩ : ∃ W, W = w.drewN nq := ⟨_, rfl⟩
  have HW := keepf (show RS W g bs (.slice (some ⟨gb, 0, none⟩) (8 * bs.length) cap) a out So most by rw [hW]; exact H.out.drewN nq)
  have HRM := keepf (show RM g w So W So by rw [hW]; exact (RM.refl g w So).drewN nq)
  rw [← hW]
  clear hW c0 c1 c2
  have c0 := HW.out.blk.cell 0
  have c1 := HW.out.blk.cell 1
  have c2 := HW.out.blk.cell 2
  have f1 := HW.out.blk.frozen 1
  simp at c0 c1 c2
  rw [← HNN.out] at c0
  have i4 : (a : Int) ≤ cap := by omega
  have i6 : a ≤ cap := by omega
  have w2 : IntKind.i64.wrap (a : Int) = (a : Int) := by rw [IntKind.wrap_i64]; omega
  by_cases hac : a = cap
  · subst hac
    go_upto_region 6 with fail
    go_quiet ((go_at_call 53; exact quiet_left (HOF.out _ _ _ (fun h => by cases h))))
    go_wp2_with fail
    go_ret
    obtain ⟨h1, h2⟩ := (HW.out.drewN nq).at_ (b := a) HW.out.le
    exact ⟨rfl, h1, (HRM.out.drewN nq).trans h2⟩
  · have i8 : ¬ ((a : Int) = cap) := by omega
    go_upto_region 6 with fail
    go_quiet ((go_at_call 53; exact quiet_left (HOF.out _ _ _ (fun h => by cases h))))
    go_wp2_with fail
    go_ret
    obtain ⟨h1, h2⟩ := (HW.out.drewN nq).at_ (b := a) HW.out.le
    exact ⟨rfl, h1, (HRM.out.drewN nq).trans h2⟩
theorem rnumber_any (g a n most : Nat) (bs out : List Nat) (V So : Value) (w : World) (h : RS w g bs V a out So most) (hn : a + n ≤ 8 * bs.length) (hn32 : n ≤ 32) (hb : 0 < bs.length) :
    Calls Tryz.prog 34 #[.pointer (some ⟨g, 0, none⟩), .int .i64 n] w (RTo w g bs V (a + n) out So most (.int .i64 (numAt false bs a n : Nat))) := by
  rcases Nat.eq_zero_or_pos n with h0 | h0
  · subst h0
    exact rnumber_zero g a most bs out V So w h hb
  · exact rnumber_ok g a n most bs out V So w h hn hn32 h0
end Go.Proofs.YtmmilchmnimjoaaGreat
