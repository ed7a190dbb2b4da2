/- What swapRange does to a row of integers. -/
import Derived.Test.YtkhhiaggmncehaaSortM
import Derived.Test.YtkhhiaggmncehaaCodes
import Derived.StillTailTactics
import Derived.BigQuiet
import Derived.BigRegion
namespace Go.Proofs.Ytkhhiaggmncehaa
open Go.RowKit
set_option linter.unusedVariables false
set_option linter.unusedSimpArgs false

/-- A row of integers of the call's own. -/
def Row (w : World) (g cap : Nat) (d : List Int) : Prop := w.ownsRow 0 3 1 (.slice (some ⟨g, 0, none⟩) d.length cap) d.length (icells d)
theorem Row.chg {w w' : World} {g cap : Nat} {d : List Int} {K : Nat → Prop} (h : Row w g cap d) (hc : Chg K w w') (hk : ¬ K g) : Row w' g cap d := own_chg h hc (fun i hi => by
  simp [Value.ownBlock] at hi
  subst hi
  exact hk)
theorem Row.drewN {w : World} {g cap : Nat} {d : List Int} (h : Row w g cap d) (n : Nat) : Row (w.drewN n) g cap d := own_drewN h n
theorem Row.drew {w : World} {g cap : Nat} {d : List Int} (h : Row w g cap d) : Row w.drew g cap d := own_drew h
theorem Row.cell {w : World} {g cap : Nat} {d : List Int} (h : Row w g cap d) (i : Nat) (hi : i < d.length) : w.cell? ⟨g, i, none⟩ = some (.int .i64 (d.getD i 0)) := by
  have h1 := World.ownsRow.cellAt h i (by omega)
  rw [h1]
  simp [icells, List.getD_eq_getElem?_getD, hi]
theorem Row.set {w : World} {g cap : Nat} {d : List Int} (h : Row w g cap d) (i : Nat) (x : Int) : Row (w.setCell ⟨g, i, none⟩ (.int .i64 x)) g cap (d.set i x) := by
  have h1 := (World.ownsRow.stored h i (.int .i64 x)).1
  have e : (icells d).set i (.int .i64 x) = icells (d.set i x) := by simp [icells, List.map_set]
  rw [e] at h1
  unfold Row
  rw [List.length_set]
  exact h1
theorem Row.frozen {w : World} {g cap : Nat} {d : List Int} (h : Row w g cap d) (i : Nat) : w.frozen? ⟨g, i, none⟩ = false := World.ownsRow.frozenAt h i
theorem Row.swap {w : World} {g cap : Nat} {d : List Int} (h : Row w g cap d) (i j : Nat) : Row ((w.setCell ⟨g, i, none⟩ (.int .i64 (d.getD j 0))).setCell ⟨g, j, none⟩ (.int .i64 (d.getD i 0))) g cap (swapD d i j) := (h.set i _).set j _

/-- Behind a function that exchanges places from a to b. -/
def SortTo (w : World) (g cap : Nat) (d : List Int) (a b : Nat) (R : List Int → Prop) (e : Ending) (w' : World) : Prop :=
  e = .returned (.tuple #[]) ∧ ∃ d', Row w' g cap d' ∧ Same d d' a b ∧ R d' ∧ Chg (fun i => i = g) w w'

set_option maxHeartbeats 2000000 in
set_option maxRecDepth 100000 in
theorem swapRange_any (g cap a b n : Nat) (f : Value) (d : List Int) (w : World) (hR : Row w g cap d) (hab : a + n ≤ b) (hb : b + n ≤ d.length) (hL : d.length ≤ 1000000) :
    Calls Try.prog 61 #[.slice (some ⟨g, 0, none⟩) d.length cap, .int .i64 a, .int .i64 b, .int .i64 n, f] w
      (SortTo w g cap d a (b + n) (fun d' => ∀ k, d'.getD k 0 = if a ≤ k ∧ k < a + n then d.getD (b + (k - a)) 0 else if b ≤ k ∧ k < b + n then d.getD (a + (k - b)) 0 else d.getD k 0)) := by
  have HR := keepf hR
  clear hR
  obtain ⟨N, hN⟩ : ∃ N, N = d.length := ⟨_, rfl⟩
  have HN := keepf hN
  rw [← hN] at hb hL ⊢
  clear hN
  go_enter Try.func61, Try.ntmps61
  go_wp2_with fail
  go_loopw [10] (fun i wr => ∃ k : Nat, ∃ d1 : List Int, k ≤ n ∧ i = .int .i64 k ∧ d1.length = N ∧ Row wr g cap d1 ∧ Hid (Same d d1 a (b + n)) ∧ Hid (∀ q, d1.getD q 0 = if a ≤ q ∧ q < a + k then d.getD (b + (q - a)) 0 else if b ≤ q ∧ q < b + k then d.getD (a + (q - b)) 0 else d.getD q 0) ∧ Chg (fun i => i = g) w wr) (fun i _ => n - (intOf i).toNat)
  case atStart => exact ⟨0, d, Nat.zero_le _, rfl, HN.out.symm, HR.out, Same.refl _ _ _, fun q => by rw [if_neg (by omega), if_neg (by omega)], Chg.refl _ _⟩
  case round =>
    obtain ⟨k, d1, hk, rfl, hl1, hRw, hSm, hQ, hch⟩ := hrel
    have HRw := keepf hRw
    have HCh := keepf hch
    clear hRw hch HR
    by_cases hlt : k < n
    · have c1 := HRw.out.cell (a + k) (by omega)
      have c2 := HRw.out.cell (b + k) (by omega)
      have f1 := HRw.out.frozen (a + k)
      have f2 := HRw.out.frozen (b + k)
      obtain ⟨x, hx⟩ : ∃ x, x = d1.getD (a + k) 0 := ⟨_, rfl⟩
      obtain ⟨y, hy⟩ : ∃ y, y = d1.getD (b + k) 0 := ⟨_, rfl⟩
      rw [← hx] at c1
      rw [← hy] at c2
      have HX := keepf hx
      have HY := keepf hy
      clear hx hy
      have e1 : IntKind.i64.wrap ((a : Int) + k) = (a : Int) + k := by rw [IntKind.wrap_i64]; omega
      have e2 : IntKind.i64.wrap ((b : Int) + k) = (b : Int) + k := by rw [IntKind.wrap_i64]; omega
      have b1 : (a : Int) + k < N := by omega
      have b2 : (b : Int) + k < N := by omega
      have b3 : 0 ≤ (a : Int) + k := by omega
      have b4 : 0 ≤ (b : Int) + k := by omega
      have t1 : ((a : Int) + k).toNat = a + k := by omega
      have t2 : ((b : Int) + k).toNat = b + k := by omega
      go_upto_region 3 with fail
      go_region
      go_wp2_with fail
      go_roundw
      case rel =>
        have hsw := HRw.out.swap (a + k) (b + k)
        rw [← HX.out, ← HY.out] at hsw
        refine ⟨k + 1, swapD d1 (a + k) (b + k), by omega, by go_num, by rw [swapD_len]; exact hl1, hsw.drew, hSm.out.trans (Same.swap d1 a (b + n) (a + k) (b + k) (by omega) (by omega) (by omega)), ?_, ((HCh.out.setCell (p := ⟨g, a + k, none⟩) (fun _ => rfl) _).setCell (p := ⟨g, b + k, none⟩) (fun _ => rfl) _).drew⟩
        intro q
        rw [swapD_get d1 _ _ q (by omega) (by omega)]
        have hq0 := hQ.out
        by_cases h1 : q = b + k
        · subst h1
          rw [if_pos rfl, if_neg (show ¬ (a ≤ b + k ∧ b + k < a + (k + 1)) by omega), if_pos (show b ≤ b + k ∧ b + k < b + (k + 1) by omega), hq0, if_neg (show ¬ (a ≤ a + k ∧ a + k < a + k) by omega), if_neg (show ¬ (b ≤ a + k ∧ a + k < b + k) by omega)]
          congr 1; omega
        · rw [if_neg h1]
          by_cases h2 : q = a + k
          · subst h2
            rw [if_pos rfl, if_pos (show a ≤ a + k ∧ a + k < a + (k + 1) by omega), hq0, if_neg (show ¬ (a ≤ b + k ∧ b + k < a + k) by omega), if_neg (show ¬ (b ≤ b + k ∧ b + k < b + k) by omega)]
            congr 1; omega
          · rw [if_neg h2, hq0]
            by_cases h3 : a ≤ q ∧ q < a + k
            · rw [if_pos h3, if_pos (show a ≤ q ∧ q < a + (k + 1) by omega)]
            · rw [if_neg h3, if_neg (show ¬ (a ≤ q ∧ q < a + (k + 1)) by omega)]
              by_cases h4 : b ≤ q ∧ q < b + k
              · rw [if_pos h4, if_pos (show b ≤ q ∧ q < b + (k + 1) by omega)]
              · rw [if_neg h4, if_neg (show ¬ (b ≤ q ∧ q < b + (k + 1)) by omega)]
      case measure => simp [intOf]; omega
    · obtain rfl : n = k := by omega
      go_wp2_with fail
      go_end0
      exact ⟨rfl, d1, HRw.out, hSm.out, hQ.out, HCh.out⟩

set_option maxHeartbeats 2000000 in
set_option maxRecDepth 100000 in
theorem rotate_any (g cap a m b : Nat) (f : Value) (d : List Int) (w : World) (hR : Row w g cap d) (ham : a < m) (hmb : m < b) (hb : b ≤ d.length) (hL : d.length ≤ 1000000) :
    Calls Try.prog 60 #[.slice (some ⟨g, 0, none⟩) d.length cap, .int .i64 a, .int .i64 m, .int .i64 b, f] w
      (SortTo w g cap d a b (fun d' => ∀ k, a ≤ k → k < b → d'.getD k 0 = if k < a + (b - m) then d.getD (m + (k - a)) 0 else d.getD (k - (b - m)) 0)) := by
  have HR := keepf hR
  clear hR
  obtain ⟨N, hN⟩ : ∃ N, N = d.length := ⟨_, rfl⟩
  have HN := keepf hN
  rw [← hN] at hb hL ⊢
  clear hN
  have HSW : Hid (∀ (W : World) (d1 : List Int) (a' b' n' : Nat), d1.length = N → Row W g cap d1 → a' + n' ≤ b' → b' + n' ≤ N →
      Calls Try.prog 61 #[.slice (some ⟨g, 0, none⟩) N cap, .int .i64 a', .int .i64 b', .int .i64 n', f] W
      (SortTo W g cap d1 a' (b' + n') (fun d' => ∀ k, d'.getD k 0 = if a' ≤ k ∧ k < a' + n' then d1.getD (b' + (k - a')) 0 else if b' ≤ k ∧ k < b' + n' then d1.getD (a' + (k - b')) 0 else d1.getD k 0))) := by
    intro W d1 a' b' n' h1 h2 h3 h4
    subst h1
    exact swapRange_any g cap a' b' n' f d1 W h2 h3 h4 hL
  obtain ⟨T, hT⟩ : ∃ T : Nat → Int, ∀ k, T k = if k < a + (b - m) then d.getD (m + (k - a)) 0 else d.getD (k - (b - m)) 0 := ⟨_, fun _ => rfl⟩
  have HT := keepf hT
  clear hT
  go_enter Try.func60, Try.ntmps60
  go_wp2_with fail
  go_loopw [10, 11] (fun vi vj wr => ∃ i j : Nat, ∃ d1 : List Int, 0 < i ∧ 0 < j ∧ i ≤ m - a ∧ j ≤ b - m ∧ vi = .int .i64 i ∧ vj = .int .i64 j ∧ d1.length = N ∧ Row wr g cap d1 ∧ Hid (Same d d1 a b) ∧
      Hid ((∀ k, a ≤ k → k < b → ¬ (m - i ≤ k ∧ k < m + j) → d1.getD k 0 = T k) ∧ (∀ y, y < j → T (m - i + y) = d1.getD (m + y) 0) ∧ (∀ x, x < i → T (m - i + j + x) = d1.getD (m - i + x) 0)) ∧ Chg (fun i => i = g) w wr) (fun vi vj _ => (intOf vi).toNat + (intOf vj).toNat)
  case atStart =>
    refine ⟨m - a, b - m, d, by omega, by omega, by omega, by omega, by go_num, by go_num, HN.out.symm, HR.out, Same.refl _ _ _, ⟨fun k h1 h2 h3 => absurd ⟨by omega, by omega⟩ h3, fun y hy => ?_, fun x hx => ?_⟩, Chg.refl _ _⟩
    · rw [HT.out, if_pos (by omega)]; congr 1; omega
    · rw [HT.out, if_neg (by omega)]; congr 1; omega
  case round =>
    obtain ⟨i, j, d1, hi0, hj0, hi, hj, rfl, rfl, hl1, hRw, hSm, hQ, hch⟩ := hrel
    have HRw := keepf hRw
    have HCh := keepf hch
    clear hRw hch HR
    have emi : ((m : Int) - i) = ((m - i : Nat) : Int) := by omega
    have HMI := keepf emi
    clear emi
    by_cases hij : i = j
    · subst hij
      go_wp2_with (go_at_call 61; rw [HMI.out]; refine (HSW.out _ d1 (m - i) m i hl1 HRw.out (by omega) (by omega)).mono ?_; rintro e w3 ⟨rfl, d3, hr3, hs3, hq3, hc3⟩; have HR3 := keepf hr3; have HS3 := keepf hs3; have HQ3 := keepf hq3; have HC3 := keepf hc3; clear hr3 hs3 hq3 hc3)
      go_end0
      refine ⟨rfl, d3, HR3.out, hSm.out.trans (HS3.out.wide (by omega) (by omega)), fun k h1 h2 => ?_, HCh.out.trans HC3.out (fun _ _ h => h)⟩
      obtain ⟨hA, hB, hC⟩ := hQ.out
      rw [← HT.out, HQ3.out]
      by_cases h3 : m - i ≤ k ∧ k < m - i + i
      · rw [if_pos h3, ← hB _ (by omega)]; congr 1; omega
      · rw [if_neg h3]
        by_cases h4 : m ≤ k ∧ k < m + i
        · rw [if_pos h4, ← hC _ (by omega)]; congr 1; omega
        · rw [if_neg h4]; exact hA k h1 h2 (by omega)
    · by_cases hlt : j < i
      · have hlt' : (j : Int) < i := by omega
        have hne' : ¬ ((i : Int) = (j : Int)) := by omega
        go_wp2_with (go_at_call 61; rw [HMI.out]; refine (HSW.out _ d1 (m - i) m j hl1 HRw.out (by omega) (by omega)).mono ?_; rintro e w3 ⟨rfl, d3, hr3, hs3, hq3, hc3⟩; have HR3 := keepf hr3; have HS3 := keepf hs3; have HQ3 := keepf hq3; have HC3 := keepf hc3; clear hr3 hs3 hq3 hc3)
        go_roundw
        case rel =>
          refine ⟨i - j, j, d3, by omega, by omega, by omega, by omega, by go_num, rfl, by rw [HS3.out.len]; exact hl1, HR3.out, hSm.out.trans (HS3.out.wide (by omega) (by omega)), ?_, HCh.out.trans HC3.out (fun _ _ h => h)⟩
          obtain ⟨hA, hB, hC⟩ := hQ.out
          refine ⟨fun k h1 h2 h3 => ?_, fun y hy => ?_, fun x hx => ?_⟩
          · rw [HQ3.out]
            by_cases h4 : m - i ≤ k ∧ k < m - i + j
            · rw [if_pos h4, ← hB _ (by omega)]; congr 1; omega
            · rw [if_neg h4, if_neg (show ¬ (m ≤ k ∧ k < m + j) by omega)]; exact hA k h1 h2 (by omega)
          · rw [HQ3.out, if_neg (show ¬ (m - i ≤ m + y ∧ m + y < m - i + j) by omega), if_pos (show m ≤ m + y ∧ m + y < m + j by omega), show m - i + (m + y - m) = m - i + y from by omega, ← hC y (by omega)]
            congr 1; omega
          · rw [HQ3.out, if_neg (show ¬ (m - i ≤ m - (i - j) + x ∧ m - (i - j) + x < m - i + j) by omega), if_neg (show ¬ (m ≤ m - (i - j) + x ∧ m - (i - j) + x < m + j) by omega), show m - (i - j) + x = m - i + (j + x) from by omega, ← hC (j + x) (by omega)]
            congr 1; omega
        case measure => simp [intOf]; omega
      · have hlt' : decide ((j : Int) < i) = false := by simp; omega
        have hne' : ¬ ((i : Int) = (j : Int)) := by omega
        have emj : ((m : Int) + j - i) = ((m + j - i : Nat) : Int) := by omega
        have HMJ := keepf emj
        clear emj
        go_wp2_with (go_at_call 61; rw [HMI.out, HMJ.out]; refine (HSW.out _ d1 (m - i) (m + j - i) i hl1 HRw.out (by omega) (by omega)).mono ?_; rintro e w3 ⟨rfl, d3, hr3, hs3, hq3, hc3⟩; have HR3 := keepf hr3; have HS3 := keepf hs3; have HQ3 := keepf hq3; have HC3 := keepf hc3; clear hr3 hs3 hq3 hc3)
        go_roundw
        case rel =>
          refine ⟨i, j - i, d3, by omega, by omega, by omega, by omega, rfl, by go_num, by rw [HS3.out.len]; exact hl1, HR3.out, hSm.out.trans (HS3.out.wide (by omega) (by omega)), ?_, HCh.out.trans HC3.out (fun _ _ h => h)⟩
          obtain ⟨hA, hB, hC⟩ := hQ.out
          refine ⟨fun k h1 h2 h3 => ?_, fun y hy => ?_, fun x hx => ?_⟩
          · rw [HQ3.out, if_neg (show ¬ (m - i ≤ k ∧ k < m - i + i) by omega)]
            by_cases h4 : m + j - i ≤ k ∧ k < m + j - i + i
            · rw [if_pos h4, ← hC _ (by omega)]; congr 1; omega
            · rw [if_neg h4]; exact hA k h1 h2 (by omega)
          · rw [HQ3.out, if_neg (show ¬ (m - i ≤ m + y ∧ m + y < m - i + i) by omega), if_neg (show ¬ (m + j - i ≤ m + y ∧ m + y < m + j - i + i) by omega), ← hB y (by omega)]
          · rw [HQ3.out, if_pos (show m - i ≤ m - i + x ∧ m - i + x < m - i + i by omega), show m + j - i + (m - i + x - (m - i)) = m + (j - i + x) from by omega, ← hB (j - i + x) (by omega)]
            congr 1; omega
        case measure => simp [intOf]; omega
end Go.Proofs.Ytkhhiaggmncehaa
