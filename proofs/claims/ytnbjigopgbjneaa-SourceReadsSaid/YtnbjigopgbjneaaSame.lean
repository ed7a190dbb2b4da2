/- Contract of the document's Same. -/
import Derived.Test.YtnbjigopgbjneaaSize
import Derived.LoopTactic
namespace Go.Proofs.Ytnbjigopgbjneaa
open Go.RowKit
set_option linter.unusedVariables false

theorem src_no {w w' : World} {size n c : Nat} {A : Option Addr} {xs : List Value} (h : Src w size A n c xs) (hc : Chg NoS w w') : Src w' size A n c xs := h.below (w0 := w) hc

theorem encC_len (y : Sp) : (encC y).length = 2 := rfl

/-- The cells of the k-th span of a row. -/
theorem row_cells {w : World} {A : Option Addr} {n c : Nat} {xs : List Sp} (h : Src w 2 A n c (xs.flatMap encC)) (hl : xs.length = n) {k : Nat} (hk : k < n) :
    ∃ b off, A = some ⟨b, off, none⟩ ∧ ∃ y, xs[k]? = some y ∧ w.cell? ⟨b, off + k * 2, none⟩ = some (.int .i64 y.1) ∧ w.cell? ⟨b, off + k * 2 + 1, none⟩ = some (.int .i64 y.2) := by
  obtain ⟨b, off, rfl, hc⟩ := h.plain (by rw [flat_len _ 2 encC_len]; omega)
  refine ⟨b, off, rfl, xs[k], List.getElem?_eq_getElem (by omega), ?_, ?_⟩
  · have := hc (k * 2 + 0) (.int .i64 (xs[k]'(by omega)).1) (by rw [flat_get encC 2 encC_len xs k 0 _ (List.getElem?_eq_getElem (by omega)) (by omega)]; rfl)
    simpa using this
  · have := hc (k * 2 + 1) (.int .i64 (xs[k]'(by omega)).2) (by rw [flat_get encC 2 encC_len xs k 1 _ (List.getElem?_eq_getElem (by omega)) (by omega)]; rfl)
    rw [← Nat.add_assoc] at this
    exact this

theorem take_next {α : Type} {xs ys : List α} {k : Nat} {x : α} (h : xs.take k = ys.take k) (hx : xs[k]? = some x) (hy : ys[k]? = some x) : xs.take (k + 1) = ys.take (k + 1) := by
  rw [List.take_add_one, List.take_add_one, h, hx, hy]

theorem ne_at {xs ys : List Sp} {k : Nat} {x y : Sp} (hx : xs[k]? = some x) (hy : ys[k]? = some y) (h : x ≠ y) : decide (xs = ys) = false := by
  simp only [decide_eq_false_iff_not]
  rintro rfl
  rw [hx] at hy
  exact h (by injection hy)

set_option maxHeartbeats 1000000 in
theorem same_any (A1 A2 : Option Addr) (n1 n2 c1 c2 : Nat) (xs ys : List Sp) (w : World) (h1 : Src w 2 A1 n1 c1 (xs.flatMap encC)) (h2 : Src w 2 A2 n2 c2 (ys.flatMap encC)) (l1 : xs.length = n1) (l2 : ys.length = n2) (m1 : n1 ≤ maxLen) (m2 : n2 ≤ maxLen) :
    Calls Try.prog 16 #[.slice A1 n1 c1, .slice A2 n2 c2] w (OnlyTo w (.bool (decide (xs = ys)))) := by
  unfold maxLen at m1 m2
  by_cases hn : n1 = n2
  · subst hn
    have H1 := keepf h1
    have H2 := keepf h2
    have L1 := keepf l1
    have L2 := keepf l2
    clear h1 h2 l1 l2 m2
    go_enter Try.func16, Try.ntmps16
    go_wp2_with fail
    go_loopw [5] (fun i wr => ∃ k : Nat, k ≤ n1 ∧ i = .int .i64 k ∧ Chg NoS w wr ∧ Hid (xs.take k = ys.take k)) (fun i _ => n1 - (intOf i).toNat)
    case atStart => exact ⟨0, Nat.zero_le _, rfl, Chg.refl _ _, rfl⟩
    case round =>
      obtain ⟨k, hk, rfl, hc, HT⟩ := hrel
      have HC := keepf hc
      clear hc
      by_cases hlt : k < n1
      · obtain ⟨b1, o1, rfl, ⟨x1, x2⟩, hx, cx1, cx2⟩ := row_cells (src_no H1.out HC.out) L1.out hlt
        obtain ⟨b2, o2, rfl, ⟨y1, y2⟩, hy, cy1, cy2⟩ := row_cells (src_no H2.out HC.out) L2.out hlt
        simp only at cx1 cx2 cy1 cy2
        have HX := keepf hx
        have HY := keepf hy
        clear hx hy
        by_cases e1 : x1 = y1
        · subst e1
          by_cases e2 : x2 = y2
          · subst e2
            go_wp2_with fail
            go_quiet (fail)
            go_wp2_with fail
            go_roundw
            case rel => exact ⟨k + 1, by omega, by go_num, HC.out.drewN _, take_next HT.out HX.out HY.out⟩
            case measure => simp [intOf]; omega
          · have d1 : (x2 == y2) = false := by simpa using e2
            have d2 : (x2 != y2) = true := by simpa using e2
            have HN := keepf e2
            clear e2
            go_wp2_with fail
            go_quiet (fail)
            go_wp2_with fail
            go_ret
            exact ⟨ret_bool (ne_at HX.out HY.out (fun h => HN.out (by injection h))).symm, HC.out.drewN _⟩
        · have d1 : (x1 == y1) = false := by simpa using e1
          have d2 : (x1 != y1) = true := by simpa using e1
          have HN := keepf e1
          clear e1
          go_wp2_with fail
          go_quiet (fail)
          go_wp2_with fail
          go_ret
          exact ⟨ret_bool (ne_at HX.out HY.out (fun h => HN.out (by injection h))).symm, HC.out.drewN _⟩
      · obtain rfl : k = n1 := by omega
        go_wp2_with fail
        go_ret
        refine ⟨ret_bool ?_, HC.out⟩
        have := HT.out
        rw [List.take_of_length_le (by rw [L1.out]; exact Nat.le_refl _), List.take_of_length_le (by rw [L2.out]; exact Nat.le_refl _)] at this
        simp [this]
  · have d1 : ((n1 : Int) == (n2 : Int)) = false := by simp; omega
    have d2 : ((n1 : Int) != (n2 : Int)) = true := by simp; omega
    have HD := keepf (show decide (xs = ys) = false by simp only [decide_eq_false_iff_not]; rintro rfl; omega)
    clear hn h1 h2 l1 l2
    go_enter Try.func16, Try.ntmps16
    go_wp2_with fail
    go_ret
    exact ⟨ret_bool HD.out.symm, Chg.refl _ _⟩

end Go.Proofs.Ytnbjigopgbjneaa
