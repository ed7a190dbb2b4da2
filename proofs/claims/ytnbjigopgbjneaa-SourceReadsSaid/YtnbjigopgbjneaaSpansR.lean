/- The document's Spans: the spans of marks, in form. -/
import Derived.Test.YtnbjigopgbjneaaMarks
namespace Go.Proofs.Ytnbjigopgbjneaa
open Go.RowKit
set_option linter.unusedVariables false

/-- A new row of the spans of the marks, in form. -/
def SpansTo (w : World) (N : Nat) (f : Nat → Bool) (e : Ending) (w' : World) : Prop :=
  ∃ L, (Form L ∧ (∀ n, Num L n ↔ Gm N f n) ∧ L.length ≤ N + 1) ∧ RowTo w L e w'

/-- A row of its own of the spans L, in a slot. -/
structure RowAt (w wr : World) (L : List Sp) (V : Value) : Prop where
  r : wr.ownsRow 0 55 2 V L.length (L.flatMap encC)
  c : Chg NoS w wr
  n : ∀ i, V.ownBlock = some i → w.heap.size ≤ i

theorem RowAt.snoc {w wr w2 : World} {L : List Sp} {V V2 : Value} {y : Sp} {o : Obj} (h : RowAt w wr L V) (hg : (wr.alloc o).grownBy w2 V.ownBlock)
    (hO : w2.ownsRow 0 55 2 V2 (L.length + 1) (L.flatMap encC ++ encC y)) (hat : V2.ownBlock = V.ownBlock ∨ V2.ownBlock = some (wr.alloc o).heap.size) : RowAt w w2 (L ++ [y]) V2 :=
  ⟨by simpa using hO, (h.c.alloc o).grown hg (fun k e hk => by have := h.n k e; omega), fun i hi => by
    rcases hat with e | e
    · exact h.n i (e ▸ hi)
    · rw [e] at hi
      injection hi with hi
      have := h.c.size
      simp at hi
      omega⟩

theorem RowAt.drewN {w wr : World} {L : List Sp} {V : Value} (h : RowAt w wr L V) (n : Nat) : RowAt w (wr.drewN n) L V := ⟨own_drewN h.r n, h.c.drewN n, h.n⟩

theorem RowAt.no {w wr w' : World} {L : List Sp} {V : Value} (h : RowAt w wr L V) (hc : Chg NoS wr w') : RowAt w w' L V := ⟨own_chg h.r hc (fun _ _ h => h), h.c.then_ hc, h.n⟩

set_option maxHeartbeats 1000000 in
theorem spans_all (g N cap : Nat) (f : Nat → Bool) (w : World) (h : Mk w (.slice (some ⟨g, 0, none⟩) N cap) N f) (hN2 : N ≤ 1000) :
    Calls Try.prog 18 #[.slice (some ⟨g, 0, none⟩) N cap] w (SpansTo w N f) := by
  have HM := keepf h
  clear h
  obtain ⟨i0, hi, hz0, hz1, hz2⟩ := info_parts info_span
  go_enter Try.func18, Try.ntmps18
  go_wp2_with fail
  go_loopw [3, 4, 5] (fun v s i wr => ∃ (k : Nat) (L : List Sp) (a : Int), k ≤ N + 1 ∧ i = .int .i64 k ∧ s = .int .i64 a ∧ RowAt w wr L v ∧ Hid (SpI N f k L a)) (fun _ _ i _ => N + 1 - (intOf i).toNat)
  case atStart => exact ⟨0, [], -1, Nat.zero_le _, rfl, rfl, ⟨own_nil _ _ _ _, Chg.refl _ _, fun i h => by simp [Value.ownBlock] at h⟩, spI_zero N f⟩
  case round =>
    obtain ⟨k, L, a, hk, rfl, rfl, hr, HI⟩ := hrel
    obtain ⟨A, cp, rfl, _⟩ := own_slice hr.r
    have HR := keepf hr
    have hl : L.length ≤ k := HI.out.2.1
    clear hr
    by_cases hend : k ≤ N
    · by_cases hlt : k < N
      · have c0 := (HM.out.no HR.out.c).cell hlt
        cases hf : f k with
        | true =>
          rw [hf] at c0
          have HF := keepf hf
          clear hf
          rcases spI_or HI.out with rfl | ⟨ha, hak⟩
          · go_wp2_with fail
            go_roundw
            case rel => exact ⟨k + 1, L, k, by omega, by go_num, rfl, HR.out, spI_yes_new HI.out hlt HF.out⟩
            case measure => simp [intOf] <;> omega
          · have d : decide (a < 0) = false := by simp; omega
            go_wp2_with fail
            go_roundw
            case rel => exact ⟨k + 1, L, a, by omega, by go_num, rfl, HR.out, spI_yes_on HI.out ha hlt HF.out⟩
            case measure => simp [intOf] <;> omega
        | false =>
          rw [hf] at c0
          have HF := keepf (show ¬ Gm N f k from fun hg => by have := hg.2.2; rw [Int.toNat_natCast, hf] at this; cases this)
          clear hf
          rcases spI_or HI.out with rfl | ⟨ha, hak⟩
          · go_wp2_with fail
            go_roundw
            case rel => exact ⟨k + 1, L, -1, by omega, by go_num, rfl, HR.out, spI_no_on HI.out HF.out⟩
            case measure => simp [intOf] <;> omega
          · go_wp2_with (first
              | (at_builtin; go_loud (refine wpList_append_src rfl (.tmp 35) (.tmp 39) 43 rfl 55 i0 (.agg #[.int .i64 0, .int .i64 0]) 2 16 Try.underlying43 hi hz0 hz1 hz2 rfl (by decide) (.slice A L.length cp) _ _ rfl (own_chg (S := NoS) HR.out.r ((Chg.refl _ _).alloc _) (fun _ _ h => h)) _ _ _ (encC (a, (k : Int))) rfl (src_two_at (by simp)) (encC_one _) (by unfold maxLen; omega) (by omega) ?_); intro S2 w2 hown2 hgr hat; obtain ⟨A2, c2, rfl, hA2⟩ := own_slice hown2; have HG2 := keepf hgr; have HO2 := keepf hown2; have HA2 := keepf hat; clear hgr hown2 hat hA2))
            go_roundw
            case rel => exact ⟨k + 1, _, -1, by omega, by go_num, rfl, HR.out.snoc HG2.out HO2.out HA2.out, spI_no_end HI.out ha (by omega) HF.out (by omega)⟩
            case measure => simp [intOf] <;> omega
      · obtain rfl : k = N := by omega
        have HF := keepf (show ¬ Gm k f k from fun hg => by have := hg.2.1; omega)
        rcases spI_or HI.out with rfl | ⟨ha, hak⟩
        · go_wp2_with fail
          go_roundw
          case rel => exact ⟨k + 1, L, -1, by omega, by go_num, rfl, HR.out, spI_no_on HI.out HF.out⟩
          case measure => simp [intOf] <;> omega
        · go_wp2_with (first
            | (at_builtin; go_loud (refine wpList_append_src rfl (.tmp 35) (.tmp 39) 43 rfl 55 i0 (.agg #[.int .i64 0, .int .i64 0]) 2 16 Try.underlying43 hi hz0 hz1 hz2 rfl (by decide) (.slice A L.length cp) _ _ rfl (own_chg (S := NoS) HR.out.r ((Chg.refl _ _).alloc _) (fun _ _ h => h)) _ _ _ (encC (a, (k : Int))) rfl (src_two_at (by simp)) (encC_one _) (by unfold maxLen; omega) (by omega) ?_); intro S2 w2 hown2 hgr hat; obtain ⟨A2, c2, rfl, hA2⟩ := own_slice hown2; have HG2 := keepf hgr; have HO2 := keepf hown2; have HA2 := keepf hat; clear hgr hown2 hat hA2))
          go_roundw
          case rel => exact ⟨k + 1, _, -1, by omega, by go_num, rfl, HR.out.snoc HG2.out HO2.out HA2.out, spI_no_end HI.out ha (by omega) HF.out (by omega)⟩
          case measure => simp [intOf] <;> omega
    · obtain rfl : k = N + 1 := by omega
      go_wp2_with fail
      go_ret
      exact ⟨L, spI_end HI.out, A, cp, rfl, HR.out.r, HR.out.c, HR.out.n⟩

theorem spans_any (g N cap : Nat) (f : Nat → Bool) (w : World) (h : Mk w (.slice (some ⟨g, 0, none⟩) N cap) N f) (hN : 0 < N) (hN2 : N ≤ 1000) :
    Calls Try.prog 18 #[.slice (some ⟨g, 0, none⟩) N cap] w (SpansTo w N f) := spans_all g N cap f w h hN2

end Go.Proofs.Ytnbjigopgbjneaa
