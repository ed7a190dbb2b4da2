/- 'SpanSums': for every input the statement's function returns true: any sum, and any product, is as the document says, or the error. Conditions: none. -/
import Derived.Test.YtmpbmmoncelpkaaWorkS
import Derived.Test.YtmpbmmoncelpkaaRows
import Derived.OpenShut
import Derived.ChangeOld
import Derived.Lib.SmallJoins
namespace Go.Proofs.Ytmpbmmoncelpkaa.sums
open Go.RowKit Go.ChangeShapes Go.WideShapes Go.ChangeAt
set_option linter.unusedVariables false

theorem own : ownKnob Try.prog.godebug = none := by kernel_rfl
theorem laidOut : laidOutB Try.prog = true := by kernel_rfl

def encI (x : Int) : List Value := [.int .i64 x]
def goodI (x : Int) : Prop := -9223372036854775808 ≤ x ∧ x ≤ 9223372036854775807

theorem int_el {H : Type} {en : TypeId × Value → H} {w : World} {base n : Nat} {spare : Nat → Bool} {held : Bool} {cs : List Value} {y : DataW H × List MemPlace}
    (h : DataW.trod en Try.prog w base spare held n 3 cs = some y) : ∃ p, cs = encI p ∧ goodI p := by
  obtain ⟨z, e, g⟩ := el_int Try.underlying3 h
  exact ⟨z, e, bounds_i64 g⟩

/-- The cell of the k-th number of a row. -/
theorem row_int {w : World} {A : Option Addr} {n c : Nat} {xs : List Int} (h : Src w 1 A n c (xs.flatMap encI)) (hl : xs.length = n) {k : Nat} (hk : k < n) :
    ∃ b off, A = some ⟨b, off, none⟩ ∧ ∃ y, xs[k]? = some y ∧ w.cell? ⟨b, off + k, none⟩ = some (.int .i64 y) := by
  obtain ⟨b, off, rfl, hc⟩ := h.plain (by rw [flat_len _ 1 (fun _ => rfl)]; omega)
  refine ⟨b, off, rfl, xs[k], List.getElem?_eq_getElem (by omega), ?_⟩
  have := hc (k * 1 + 0) (.int .i64 (xs[k]'(by omega))) (by rw [flat_get encI 1 (fun _ => rfl) xs k 0 _ (List.getElem?_eq_getElem (by omega)) (by omega)]; rfl)
  simpa using this

theorem drop_at {xs : List Int} {k : Nat} {x : Int} (h : xs[k]? = some x) : xs.drop k = x :: xs.drop (k + 1) := by
  obtain ⟨hk, rfl⟩ := List.getElem?_eq_some_iff.1 h
  exact List.drop_eq_getElem_cons hk

def negB (xs : List Int) : Bool := xs.any fun x => decide (x < 0)

/-- A place from 0 on, if one is below 0; -1, if none is. -/
def FindTo (w : World) (xs : List Int) (e : Ending) (w' : World) : Prop := ∃ r : Int, e = .returned (.int .i64 r) ∧ decide (0 ≤ r) = negB xs ∧ w = w'

theorem neg_hit {xs : List Int} {k : Nat} {x : Int} (h : xs[k]? = some x) (hx : x < 0) : negB xs = true := by
  simp only [negB, List.any_eq_true, decide_eq_true_eq]
  exact ⟨x, List.mem_of_getElem? h, hx⟩
theorem neg_miss {xs : List Int} (h : negB (xs.take xs.length) = false) : negB xs = false := by
  rwa [List.take_of_length_le (Nat.le_refl _)] at h
theorem neg_next {xs : List Int} {k : Nat} {x : Int} (h : negB (xs.take k) = false) (hx : xs[k]? = some x) (h0 : 0 ≤ x) : negB (xs.take (k + 1)) = false := by
  rw [List.take_add_one, hx]
  simp only [negB, List.any_append, Option.toList_some, List.any_cons, List.any_nil, Bool.or_false] at h ⊢
  rw [h]
  simp
  omega

theorem index_any (A : Option Addr) (n c : Nat) (xs : List Int) (w : World) (h : Src w 1 A n c (xs.flatMap encI)) (hl : xs.length = n) (hm : n ≤ maxLen) :
    Calls Try.prog 39 #[.slice A n c, .func (.func 27) #[] #[]] w (FindTo w xs) := by
  unfold maxLen at hm
  have H := keepf h
  have L := keepf hl
  clear h hl
  have e27 : ∀ args w, (callFunc 27 args).run Try.prog w = .ok (.enter 27 args) w := enters_of Try.func27 (by kernel_rfl) rfl
  go_enter Try.func39, Try.ntmps39
  go_wp2_with fail
  go_loop [8] (fun i => ∃ k : Nat, k ≤ n ∧ i = .int .i64 k ∧ Hid (negB (xs.take k) = false)) (fun i => n - (intOf i).toNat)
  case atStart => exact ⟨0, Nat.zero_le _, rfl, by simp [Hid, negB]⟩
  case round =>
    obtain ⟨k, hk, rfl, HN⟩ := hrel
    by_cases hlt : k < n
    · obtain ⟨b, o, rfl, x, hx, cx⟩ := row_int H.out L.out hlt
      have HX := keepf hx
      clear hx
      by_cases hx0 : x < 0
      · have hb := below_any x w
        rw [show decide (x < 0) = true from by simpa using hx0] at hb
        go_wp2_with (go_at_fn 27; refine hb.mono ?_; rintro e w' ⟨rfl, rfl⟩)
        go_ret
        exact ⟨k, rfl, by rw [neg_hit HX.out hx0]; simp, rfl⟩
      · have hb := below_any x w
        rw [show decide (x < 0) = false from by simpa using hx0] at hb
        go_wp2_with (go_at_fn 27; refine hb.mono ?_; rintro e w' ⟨rfl, rfl⟩)
        go_round
        case rel => exact ⟨k + 1, by omega, by go_num, neg_next HN.out HX.out (by omega)⟩
        case measure => simp [intOf]; omega
    · obtain rfl : k = n := by omega
      go_wp2_with fail
      go_ret
      have h1 := HN.out
      rw [← L.out] at h1
      exact ⟨-1, rfl, by rw [neg_miss h1]; rfl, rfl⟩

theorem contains_any (A : Option Addr) (n c : Nat) (xs : List Int) (w : World) (h : Src w 1 A n c (xs.flatMap encI)) (hl : xs.length = n) (hm : n ≤ maxLen) :
    Calls Try.prog 26 #[.slice A n c, .func (.func 27) #[] #[]] w fun e w' => e = .returned (.bool (negB xs)) ∧ w = w' := by
  have hi := keepf (index_any A n c xs w h hl hm)
  clear h hl hm
  go_enter Try.func26, Try.ntmps26
  go_wp2_with fail
  refine hi.out.mono ?_
  rintro e w' ⟨r, rfl, hr, rfl⟩
  have HR := keepf hr
  clear hr
  go_wp2_with fail
  go_ret
  exact ⟨ret_bool HR.out, rfl⟩

def addGo (s : Int) : List Int → Int × Int
  | [] => (s, 0)
  | x :: l => if 2147483647 - s < x then (0, 5) else addGo (s + x) l
def addR (xs : List Int) : Int × Int := if negB xs then (0, 2) else addGo 0 xs

/-- Both results of a sum; nothing changed. -/
def PairTo (w : World) (r : Int × Int) (e : Ending) (w' : World) : Prop := e = .returned (.tuple #[.int .i64 r.1, .int .i64 r.2]) ∧ w = w'

theorem neg_all {xs : List Int} (h : negB xs = false) {k : Nat} {x : Int} (hx : xs[k]? = some x) : 0 ≤ x := by
  simp only [negB, List.any_eq_false, decide_eq_true_eq] at h
  have := h x (List.mem_of_getElem? hx)
  omega

theorem addGo_at {xs : List Int} {k : Nat} {s x : Int} (hx : xs[k]? = some x) : addGo s (xs.drop k) = if 2147483647 - s < x then (0, 5) else addGo (s + x) (xs.drop (k + 1)) := by
  rw [drop_at hx]; rfl

set_option maxHeartbeats 1000000 in
theorem add_any (A : Option Addr) (n c : Nat) (xs : List Int) (w : World) (h : Src w 1 A n c (xs.flatMap encI)) (hl : xs.length = n) (hm : n ≤ maxLen) :
    Calls Try.prog 9 #[.slice A n c] w (PairTo w (addR xs)) := by
  have hc := contains_any A n c xs w h hl hm
  unfold maxLen at hm
  have H := keepf h
  have L := keepf hl
  clear h hl
  cases hn : negB xs with
  | true =>
    rw [hn] at hc
    have HC := keepf hc
    have HN := keepf hn
    clear hc hn
    go_enter Try.func9, Try.ntmps9
    go_wp2_with fail
    refine HC.out.mono ?_
    rintro e w' ⟨rfl, rfl⟩
    go_wp2_with fail
    go_ret2
    have e : addR xs = (0, 2) := by simp [addR, HN.out]
    rw [e]
    exact ⟨rfl, rfl⟩
  | false =>
    rw [hn] at hc
    have HC := keepf hc
    have HN := keepf hn
    clear hc hn
    go_enter Try.func9, Try.ntmps9
    go_wp2_with fail
    refine HC.out.mono ?_
    rintro e w' ⟨rfl, rfl⟩
    go_wp2_with fail
    go_loop [4, 11] (fun v i => ∃ (k : Nat) (s : Int), k ≤ n ∧ i = .int .i64 k ∧ v = .int .i64 s ∧ 0 ≤ s ∧ s ≤ 2147483647 ∧ Hid (addR xs = addGo s (xs.drop k))) (fun _ i => n - (intOf i).toNat)
    case atStart => exact ⟨0, 0, Nat.zero_le _, rfl, rfl, by omega, by omega, by simp [Hid, addR, HN.out]⟩
    case round =>
      obtain ⟨k, s, hk, rfl, rfl, hs0, hs1, HG⟩ := hrel
      by_cases hlt : k < n
      · obtain ⟨b, o, rfl, x, hx, cx⟩ := row_int H.out L.out hlt
        have hx0 := neg_all HN.out hx
        have hg := HG.out
        rw [addGo_at hx] at hg
        clear hx
        by_cases hc : 2147483647 - s < x
        · rw [if_pos hc] at hg
          have HG2 := keepf hg
          clear hg
          go_wp2_with fail
          go_ret2
          rw [HG2.out]
          exact ⟨rfl, rfl⟩
        · rw [if_neg hc] at hg
          have HG2 := keepf hg
          have hc' : x ≤ 2147483647 - s := by omega
          clear hg hc
          go_wp2_with fail
          go_round
          case rel => exact ⟨k + 1, s + x, by omega, by go_num, rfl, by omega, by omega, HG2.out⟩
          case measure => simp [intOf]; omega
      · obtain rfl : k = n := by omega
        have hg := HG.out
        rw [List.drop_of_length_le (by rw [L.out]; exact Nat.le_refl _)] at hg
        have HG2 := keepf hg
        clear hg
        go_wp2_with fail
        go_ret2
        rw [HG2.out]
        exact ⟨rfl, rfl⟩

set_option maxHeartbeats 1000000 in
theorem refAdd_any (A : Option Addr) (n c : Nat) (xs : List Int) (w : World) (h : Src w 1 A n c (xs.flatMap encI)) (hl : xs.length = n) (hm : n ≤ maxLen) :
    Calls Try.prog 10 #[.slice A n c] w (PairTo w (addR xs)) := by
  unfold maxLen at hm
  have H := keepf h
  have L := keepf hl
  clear h hl
  go_enter Try.func10, Try.ntmps10
  go_wp2_with fail
  go_loop [4] (fun i => ∃ k : Nat, k ≤ n ∧ i = .int .i64 k ∧ Hid (negB (xs.take k) = false)) (fun i => n - (intOf i).toNat)
  case atStart => exact ⟨0, Nat.zero_le _, rfl, by simp [Hid, negB]⟩
  case round =>
    obtain ⟨k, hk, rfl, HN⟩ := hrel
    by_cases hlt : k < n
    · obtain ⟨b, o, rfl, x, hx, cx⟩ := row_int H.out L.out hlt
      have HX := keepf hx
      clear hx
      by_cases hx0 : x < 0
      · go_wp2_with fail
        go_ret2
        have e : addR xs = (0, 2) := by simp [addR, neg_hit HX.out hx0]
        rw [e]
        exact ⟨rfl, rfl⟩
      · have hx1 : 0 ≤ x := by omega
        clear hx0
        go_wp2_with fail
        go_round
        case rel => exact ⟨k + 1, by omega, by go_num, neg_next HN.out HX.out hx1⟩
        case measure => simp [intOf]; omega
    · obtain rfl : k = n := by omega
      have h1 := HN.out
      rw [← L.out] at h1
      have HM := keepf (neg_miss h1)
      clear h1 HN
      go_wp2_with fail
      go_loop [5, 6] (fun v i => ∃ (q : Nat) (s : Int), q ≤ k ∧ i = .int .i64 q ∧ v = .int .i64 s ∧ 0 ≤ s ∧ s ≤ 2147483647 ∧ Hid (addR xs = addGo s (xs.drop q))) (fun _ i => k - (intOf i).toNat)
      case atStart => exact ⟨0, 0, Nat.zero_le _, rfl, rfl, by omega, by omega, by simp [Hid, addR, HM.out]⟩
      case round =>
        obtain ⟨q, s, hq, rfl, rfl, hs0, hs1, HG⟩ := hrel
        by_cases hlt : q < k
        · obtain ⟨b, o, rfl, x, hx, cx⟩ := row_int H.out L.out hlt
          have hx0 := neg_all HM.out hx
          have hg := HG.out
          rw [addGo_at hx] at hg
          clear hx
          by_cases hc : 2147483647 - s < x
          · rw [if_pos hc] at hg
            have HG2 := keepf hg
            clear hg
            go_wp2_with fail
            go_ret2
            rw [HG2.out]
            exact ⟨rfl, rfl⟩
          · rw [if_neg hc] at hg
            have HG2 := keepf hg
            have hc' : x ≤ 2147483647 - s := by omega
            clear hg hc
            go_wp2_with fail
            go_round
            case rel => exact ⟨q + 1, s + x, by omega, by go_num, rfl, by omega, by omega, HG2.out⟩
            case measure => simp [intOf]; omega
        · obtain rfl : q = k := by omega
          have hg := HG.out
          rw [List.drop_of_length_le (by rw [L.out]; exact Nat.le_refl _)] at hg
          have HG2 := keepf hg
          clear hg
          go_wp2_with fail
          go_ret2
          rw [HG2.out]
          exact ⟨rfl, rfl⟩

theorem quot_lt {a b : Int} (ha : 0 ≤ a) (hb : 0 < b) : (2147483647 / b < a) ↔ 2147483647 < a * b := by
  rw [Int.ediv_lt_iff_lt_mul hb]

def mulR (a b : Int) : Int × Int := if a < 0 ∨ b < 0 then (0, 2) else if 2147483647 < a * b then (0, 5) else (a * b, 0)

set_option maxHeartbeats 1000000 in
theorem mul_any (a b : Int) (w : World) (ha : a ≤ 9223372036854775807) (hb : b ≤ 9223372036854775807) :
    Calls Try.prog 11 #[.int .i64 a, .int .i64 b] w (PairTo w (mulR a b)) := by
  have hA := below_any a w
  have hB := below_any b w
  by_cases h1 : a < 0
  · have e : mulR a b = (0, 2) := by simp [mulR, h1]
    rw [show decide (a < 0) = true from by simpa using h1] at hA
    have HA := keepf hA
    rw [e]
    clear hA hB e
    go_enter Try.func11, Try.ntmps11
    go_wp2_with fail
    refine HA.out.mono ?_
    rintro e w' ⟨rfl, rfl⟩
    go_wp2_with fail
    go_ret2
    exact ⟨rfl, rfl⟩
  · rw [show decide (a < 0) = false from by simpa using h1] at hA
    have h1' : 0 ≤ a := by omega
    have HA := keepf hA
    clear hA
    by_cases h2 : b < 0
    · have e : mulR a b = (0, 2) := by simp [mulR, h2]
      rw [show decide (b < 0) = true from by simpa using h2] at hB
      have HB := keepf hB
      rw [e]
      clear hB e h1
      go_enter Try.func11, Try.ntmps11
      go_wp2_with fail
      refine HA.out.mono ?_
      rintro e w' ⟨rfl, rfl⟩
      go_wp2_with fail
      refine HB.out.mono ?_
      rintro e w' ⟨rfl, rfl⟩
      go_wp2_with fail
      go_ret2
      exact ⟨rfl, rfl⟩
    · rw [show decide (b < 0) = false from by simpa using h2] at hB
      have h2' : 0 ≤ b := by omega
      have HB := keepf hB
      clear hB
      by_cases h3 : b = 0
      · subst h3
        have e : mulR a 0 = (0, 0) := by simp [mulR]; omega
        rw [e]
        clear e h1 h2
        go_enter Try.func11, Try.ntmps11
        go_wp2_with fail
        refine HA.out.mono ?_
        rintro e w' ⟨rfl, rfl⟩
        go_wp2_with fail
        refine HB.out.mono ?_
        rintro e w' ⟨rfl, rfl⟩
        go_wp2_with fail
        go_ret2
        exact ⟨rfl, rfl⟩
      · have h3' : 0 < b := by omega
        have hq := quot_lt h1' h3'
        by_cases h4 : 2147483647 < a * b
        · have e : mulR a b = (0, 5) := by simp [mulR, h1, h2, h4]
          have h5 := hq.2 h4
          rw [e]
          clear e h1 h2 hq h4 h3
          go_enter Try.func11, Try.ntmps11
          go_wp2_with fail
          refine HA.out.mono ?_
          rintro e w' ⟨rfl, rfl⟩
          go_wp2_with fail
          refine HB.out.mono ?_
          rintro e w' ⟨rfl, rfl⟩
          go_wp2_with fail
          go_ret2
          exact ⟨rfl, rfl⟩
        · have e : mulR a b = (a * b, 0) := by simp [mulR, h1, h2, h4]
          have h5 : ¬ 2147483647 / b < a := fun h => h4 (hq.1 h)
          have h5' : a ≤ 2147483647 / b := by omega
          have h6 : a * b ≤ 2147483647 := by omega
          have h7 : 0 ≤ a * b := Int.mul_nonneg h1' h2'
          rw [e]
          clear e h1 h2 hq h4 h3 h5
          go_enter Try.func11, Try.ntmps11
          go_wp2_with fail
          refine HA.out.mono ?_
          rintro e w' ⟨rfl, rfl⟩
          go_wp2_with fail
          refine HB.out.mono ?_
          rintro e w' ⟨rfl, rfl⟩
          go_wp2_with fail
          go_ret2
          exact ⟨rfl, rfl⟩

set_option maxHeartbeats 1000000 in
theorem refMul_any (a b : Int) (w : World) (ha : a ≤ 9223372036854775807) (hb : b ≤ 9223372036854775807) :
    Calls Try.prog 12 #[.int .i64 a, .int .i64 b] w (PairTo w (mulR a b)) := by
  by_cases h1 : a < 0
  · have e : mulR a b = (0, 2) := by simp [mulR, h1]
    rw [e]
    clear e
    go_enter Try.func12, Try.ntmps12
    go_wp2_with fail
    go_ret2
    exact ⟨rfl, rfl⟩
  · have h1' : 0 ≤ a := by omega
    have d1 : decide (a < 0) = false := by simpa using h1
    by_cases h2 : b < 0
    · have e : mulR a b = (0, 2) := by simp [mulR, h2]
      rw [e]
      clear e h1
      go_enter Try.func12, Try.ntmps12
      go_wp2_with fail
      go_ret2
      exact ⟨rfl, rfl⟩
    · have h2' : 0 ≤ b := by omega
      have d2 : decide (b < 0) = false := by simpa using h2
      by_cases h3 : a = 0
      · subst h3
        have e : mulR 0 b = (0, 0) := by simp [mulR]; omega
        rw [e]
        clear e h1 h2
        go_enter Try.func12, Try.ntmps12
        go_wp2_with fail
        go_ret2
        exact ⟨rfl, rfl⟩
      · have d3 : (a == 0) = false := by simpa using h3
        by_cases h4 : b = 0
        · subst h4
          have e : mulR a 0 = (0, 0) := by simp [mulR]; omega
          rw [e]
          clear e h1 h2 h3
          go_enter Try.func12, Try.ntmps12
          go_wp2_with fail
          go_ret2
          exact ⟨rfl, rfl⟩
        · have d4 : (b == 0) = false := by simpa using h4
          by_cases h5 : 2147483647 < a
          · have h6 : 2147483647 < a * b := by
              have := Int.mul_le_mul_of_nonneg_left (show (1 : Int) ≤ b by omega) h1'
              omega
            have e : mulR a b = (0, 5) := by simp [mulR, h1, h2, h6]
            rw [e]
            clear e h1 h2 h3 h4 h6
            go_enter Try.func12, Try.ntmps12
            go_wp2_with fail
            go_ret2
            exact ⟨rfl, rfl⟩
          · have d5 : decide (2147483647 < a) = false := by simpa using h5
            by_cases h6 : 2147483647 < b
            · have h7 : 2147483647 < a * b := by
                have := Int.mul_le_mul_of_nonneg_right (show (1 : Int) ≤ a by omega) h2'
                omega
              have e : mulR a b = (0, 5) := by simp [mulR, h1, h2, h7]
              rw [e]
              clear e h1 h2 h3 h4 h5 h7
              go_enter Try.func12, Try.ntmps12
              go_wp2_with fail
              go_ret2
              exact ⟨rfl, rfl⟩
            · have d6 : decide (2147483647 < b) = false := by simpa using h6
              have h8 : a * b ≤ 4611686014132420609 := by
                have := Int.mul_le_mul (show a ≤ 2147483647 by omega) (show b ≤ 2147483647 by omega) h2' (by omega)
                omega
              have h9 : 0 ≤ a * b := Int.mul_nonneg h1' h2'
              by_cases h7 : 2147483647 < a * b
              · have e : mulR a b = (0, 5) := by simp [mulR, h1, h2, h7]
                rw [e]
                clear e h1 h2 h3 h4 h5 h6
                go_enter Try.func12, Try.ntmps12
                go_wp2_with fail
                go_ret2
                exact ⟨rfl, rfl⟩
              · have e : mulR a b = (a * b, 0) := by simp [mulR, h1, h2, h7]
                have d7 : decide (2147483647 < a * b) = false := by simpa using h7
                rw [e]
                clear e h1 h2 h3 h4 h5 h6 h7
                go_enter Try.func12, Try.ntmps12
                go_wp2_with fail
                go_ret2
                exact ⟨rfl, rfl⟩

set_option maxHeartbeats 2000000 in
set_option maxRecDepth 100000 in
theorem walk (A : Option Addr) (len cap : Nat) (xs : List Int) (a b : Int) (w : World) (hl : xs.length = len) (hm : len ≤ maxLen) (hS : Src w 1 A len cap (xs.flatMap encI)) (hg : ∀ p ∈ xs, goodI p)
    (ha : (Lit.int .i64 a).wf = true) (hb : (Lit.int .i64 b).wf = true) :
    Calls Try.prog 3 #[.slice A len cap, .int .i64 a, .int .i64 b] w fun e w' => e = .returned (.bool true) ∧ Below w.heap.size w w' := by
  have ba := bounds_i64 ha
  have bb := bounds_i64 hb
  by_cases hlen : 1000 < len
  · clear ha hb hS hg hl
    unfold maxLen at hm
    go_enter Try.func3, Try.ntmps3
    go_wp2_with fail
    refine (works_any _).mono ?_
    rintro e w1 ⟨rfl, hc1⟩
    have HC := keepf hc1
    clear hc1
    go_wp2_with fail
    go_ret
    exact ⟨rfl, HC.out.no_below⟩
  · have h1 := add_any A len cap xs w hS hl hm
    have h2 := refAdd_any A len cap xs w hS hl hm
    have h3 := mul_any a b w ba.2 bb.2
    have h4 := refMul_any a b w ba.2 bb.2
    generalize addR xs = r at h1 h2
    generalize mulR a b = m at h3 h4
    obtain ⟨r1, r2⟩ := r
    obtain ⟨m1, m2⟩ := m
    have H1 := keepf h1
    have H2 := keepf h2
    have H3 := keepf h3
    have H4 := keepf h4
    unfold maxLen at hm
    clear h1 h2 h3 h4 ha hb ba bb hS hg hl
    go_enter Try.func3, Try.ntmps3
    go_wp2_with fail
    refine H1.out.mono ?_
    rintro e w' ⟨rfl, rfl⟩
    go_wp2_with fail
    refine H2.out.mono ?_
    rintro e w' ⟨rfl, rfl⟩
    go_wp2_with fail
    refine H3.out.mono ?_
    rintro e w' ⟨rfl, rfl⟩
    go_wp2_with fail
    refine H4.out.mono ?_
    rintro e w' ⟨rfl, rfl⟩
    go_wp2_with fail
    refine (works_any _).mono ?_
    rintro e w1 ⟨rfl, hc1⟩
    have HC := keepf hc1
    clear hc1
    go_wp2_with fail
    go_ret
    exact ⟨rfl, HC.out.no_below⟩

set_option maxRecDepth 100000 in
theorem lifted (os : Os) (started : os.Started) (H : Type) (enc : TypeId × Value → H) :
    ReturnsInHanded {} Try.checked os 3 .any (Rows.spanSumsSpec.pre6 enc Try.prog Try.f3 Rows.spanSumsRow.domain false) (Rows.spanSumsSpec.post enc Try.prog Try.f3 false true false false) := by
  refine returnsInHanded_of_change (C := Try.checked) own started (by kernel_rfl) Try.func3
    (ChangeSpec.witness6 (enc := enc) (C := Try.checked) false ⟨#[], #[.slice none 0 0, .int .i64 0, .int .i64 0], []⟩ 8 (by kernel_rfl) (by kernel_rfl) (by kernel_rfl) (by kernel_rfl)) ?_
  intro W base args ds gs before hval0 hW hcnd _
  have hval : ∀ (j : Nat) t v, Try.f3.params[j]? = some t → args[j]? = some v → Value.okWide Try.prog W .any base t v := hval0
  have hW' := hW
  obtain ⟨p, q, hA0, hV, rfl, hfz, hnd⟩ := hW
  have hA : DataW.TrodAll enc Try.prog W 0 (fun _ => true) true Try.f3.params.toList args.toList ds p := hA0
  rw [Try.params3] at hA hval
  obtain ⟨v0, vs0, d0, ds0, p0, q0, hargs, rfl, rfl, h0, r0⟩ := trodAll_cons hA
  obtain ⟨v1, vs1, d1, ds1, p1, q1, rfl, rfl, rfl, h1, r1⟩ := trodAll_cons r0
  obtain ⟨v2, vs2, d2, ds2, p2, q2, rfl, rfl, rfl, h2, r2⟩ := trodAll_cons r1
  obtain ⟨rfl, rfl, rfl⟩ := trodAll_nil r2
  obtain rfl : args = #[v0, v1, v2] := by cases args; simp_all
  obtain ⟨rfl, rfl⟩ := trodVars_none hV
  obtain ⟨a0, len0, cap0, rfl⟩ := okWide_slice Try.underlying22 (hval 0 22 v0 rfl rfl)
  have k0 := h0
  have lt0 : ∀ x ∈ p0, x.block < W.heap.size := by obtain ⟨m, hm⟩ := k0; exact DataW.trod_lt m _ _ _ hm
  obtain ⟨hm0, xs0, hl0, hS0, hg0⟩ : len0 ≤ maxLen ∧ ∃ xs : List Int, xs.length = len0 ∧ Src W 1 a0 len0 cap0 (xs.flatMap encI) ∧ ∀ b ∈ xs, goodI b := by
    obtain ⟨fuel, hf⟩ := h0
    exact open_rows encI goodI 1 Try.underlying22 (by kernel_rfl) (fun _ => rfl) (fun n cs y h _ => int_el h) (by simpa [Value.cells] using hf)
  obtain ⟨a1, rfl, rfl, rfl, w1⟩ := open_int Try.underlying3 (hval 1 3 v1 rfl rfl) h1
  obtain ⟨a2, rfl, rfl, rfl, w2⟩ := open_int Try.underlying3 (hval 2 3 v2 rfl rfl) h2
  clear hA0 hval0
  refine (walk a0 len0 cap0 xs0 a1 a2 W hl0 hm0 hS0 hg0 w1 w2).mono fun e W' ⟨he, bel⟩ => ?_
  subst he
  exact ⟨_, rfl, _, _, _, [], _, [], hW', trodAll_mk1 (shut_bool Try.underlying4 _), (trodAll_cons_mk (Below.trod laidOut (by kernel_rfl) (of_decide_eq_true (by kernel_rfl)) k0 bel lt0) (trodAll_cons_mk (shut_int Try.underlying3 w1) (trodAll_cons_mk (shut_int Try.underlying3 w2) trodAll_mk0))), rfl, bel.frame _, fun h => by cases h⟩

theorem over : Rows.spanSumsRow.holds Try.pinned (OpenSpec.ofChange Rows.spanSumsSpec) :=
  OpenClaim.holds_of_wide 3 Try.f3 rfl rfl rfl rfl rfl rfl rfl ⟨rfl, rfl, rfl, rfl, rfl⟩ rfl rfl rfl rfl rfl (by kernel_rfl) Try.func3 (by kernel_rfl)
    (of_decide_eq_true (by kernel_rfl)) (by unfold Func.isWrapper; first | (rw [if_pos (by decide +kernel)]; kernel_rfl) | (rw [if_neg (by decide +kernel)]; exact ⟨rfl, rfl⟩))
    (fun os started H enc _ => lifted os started H enc)

theorem proved : Rows.SpanSumsSaid := over
#print axioms proved
end Go.Proofs.Ytmpbmmoncelpkaa.sums
