/- The reader's names (written by mkpname.py). -/
import Derived.Test.YtmmehaghcfdjdaaPRun
import Derived.Test.YtmmehaghcfdjdaaPHex
import Derived.Test.YtmmehaghcfdjdaaNCutF
namespace Go.Proofs.Ytmmehaghcfdjdaa
open Go.RowKit
set_option linter.unusedVariables false
set_option linter.unusedSimpArgs false

theorem cutB_no {c : Nat} : ∀ {m : List Nat}, (cutB c m).2.2 = false → (cutB c m) = (m, [], false) := by
  intro m
  induction m with
  | nil => intro _; rfl
  | cons x l ih =>
    intro h
    rw [cutB] at h ⊢
    by_cases hx : x = c
    · rw [if_pos hx] at h; cases h
    · rw [if_neg hx] at h ⊢
      rw [ih h]
theorem cutB_nomem {c : Nat} : ∀ {m : List Nat}, c ∉ (cutB c m).1 := by
  intro m
  induction m with
  | nil => simp [cutB]
  | cons x l ih =>
    rw [cutB]
    by_cases hx : x = c
    · rw [if_pos hx]; simp
    · rw [if_neg hx]
      simp only [List.mem_cons, not_or]
      exact ⟨fun e => hx e.symm, ih⟩
theorem cutB_yes {c : Nat} : ∀ {m : List Nat}, (cutB c m).2.2 = true → m = (cutB c m).1 ++ c :: (cutB c m).2.1 := by
  intro m
  induction m with
  | nil => intro h; cases h
  | cons x l ih =>
    intro h
    rw [cutB] at h ⊢
    by_cases hx : x = c
    · rw [if_pos hx]; rw [hx]; rfl
    · rw [if_neg hx] at h ⊢
      rw [List.cons_append]
      exact congrArg (x :: ·) (ih h)
theorem nameF_app : ∀ (a l : List Nat), 35 ∉ a → nameF (a ++ l) = (nameF l).map (a ++ ·)
  | [], l, _ => by cases h : nameF l <;> simp [h]
  | x :: a, l, h => by
    have hx : x ≠ 35 := fun e => h (by rw [e]; exact List.mem_cons_self ..)
    have ih := nameF_app a l (fun e => h (List.mem_cons_of_mem _ e))
    have e : ∀ r, nameF (x :: r) = (nameF r).map (x :: ·) := fun r => by rw [nameF.eq_def]; simp [hx]
    rw [List.cons_append, e, ih]
    cases nameF l <;> rfl
theorem nameF_plain {a : List Nat} (h : 35 ∉ a) : nameF a = some a := by
  have := nameF_app a [] h
  rw [List.append_nil] at this
  rw [this]
  simp [nameF]
/-- What is told of a name of which out was put together and m is left. -/
def nmR (out m : List Nat) : Int × List Nat := match nameF m with
  | none => (17, [])
  | some o => if 0 ∈ out ++ o ∨ 127 < (out ++ o).length then (17, []) else (0, out ++ o)
theorem nmR_nil (w : List Nat) : nmR [] w = nameO w := rfl
theorem nmR_end {out m : List Nat} (h : 35 ∉ m) (h0 : 0 ∉ out) (h1 : 0 ∉ m) : nmR out m = if 127 < (out ++ m).length then (17, []) else (0, out ++ m) := by
  have h2 : ¬ 0 ∈ out ++ m := fun e => by rcases List.mem_append.1 e with e | e; exact h0 e; exact h1 e
  unfold nmR
  rw [nameF_plain h]
  simp only []
  by_cases h3 : 127 < (out ++ m).length
  · rw [if_pos (.inr h3), if_pos h3]
  · rw [if_neg (by rintro (e | e); exact h2 e; exact h3 e), if_neg h3]
/-- The byte of two digits, and whether it may be. -/
def codeV (m : List Nat) : Nat := match m with
  | x :: y :: _ => 16 * hexV x + hexV y
  | _ => 0
def codeB (m : List Nat) : Bool := match m with
  | x :: y :: _ => (hexD x).isSome && ((hexD y).isSome && decide (16 * hexV x + hexV y ≠ 0))
  | _ => false
theorem codeV_lt (m : List Nat) : codeV m < 256 := by
  rcases m with _ | ⟨x, _ | ⟨y, r⟩⟩
  · decide
  · exact Nat.zero_lt_succ _
  · have h1 := hexV_lt x
    have h2 := hexV_lt y
    show 16 * hexV x + hexV y < 256
    omega
theorem nmR_bad {out a m : List Nat} (h : 35 ∉ a) (hb : codeB m = false) : nmR out (a ++ 35 :: m) = (17, []) := by
  unfold nmR
  rw [nameF_app _ _ h]
  rcases m with _ | ⟨x, _ | ⟨y, r⟩⟩
  · rfl
  · rfl
  · cases hx : hexD x with
    | none => simp [nameF, hx]
    | some u =>
      cases hy : hexD y with
      | none => simp [nameF, hx, hy]
      | some v =>
        have e1 : hexV x = u := by unfold hexV; rw [hx]; rfl
        have e2 : hexV y = v := by unfold hexV; rw [hy]; rfl
        simp only [codeB, hx, hy, e1, e2, Option.isSome_some, Bool.true_and, decide_eq_false_iff_not, Decidable.not_not] at hb
        cases hr : nameF r with
        | none => simp [nameF, hx, hy, hr]
        | some o => simp [nameF, hx, hy, hr, hb]
theorem nmR_good {out a m : List Nat} (h : 35 ∉ a) (hb : codeB m = true) : 2 ≤ m.length ∧ codeV m ≠ 0 ∧ nmR out (a ++ 35 :: m) = nmR (out ++ a ++ [codeV m]) (m.drop 2) := by
  rcases m with _ | ⟨x, _ | ⟨y, r⟩⟩
  · cases hb
  · cases hb
  · cases hx : hexD x with
    | none => simp [codeB, hx] at hb
    | some u =>
      cases hy : hexD y with
      | none => simp [codeB, hx, hy] at hb
      | some v =>
        have e1 : hexV x = u := by unfold hexV; rw [hx]; rfl
        have e2 : hexV y = v := by unfold hexV; rw [hy]; rfl
        simp only [codeB, hx, hy, e1, e2, Option.isSome_some, Bool.true_and, decide_eq_true_eq] at hb
        refine ⟨by simp, by show 16 * hexV x + hexV y ≠ 0; rw [e1, e2]; exact hb, ?_⟩
        unfold nmR
        rw [nameF_app _ _ h]
        have e3 : nameF (35 :: x :: y :: r) = (nameF r).map ((16 * u + v) :: ·) := by simp [nameF, hx, hy]
        rw [e3, codeV, e1, e2]
        simp only [List.drop_succ_cons, List.drop_zero]
        cases hr : nameF r with
        | none => rfl
        | some o => simp
set_option maxHeartbeats 1000000 in
theorem pcode_any (m : List Nat) (hb : ∀ d ∈ m, d < 256) (hl : m.length ≤ 1000000) (w : World) :
    Calls Try.prog 46 #[.string (sb m)] w fun e w' => e = .returned (.tuple #[.int .u8 (codeV m : Nat), .bool (codeB m)]) ∧ w = w' := by
  have hs : (sb m).size = m.length := sb_size m
  have hsl := sl_sb m hb
  rcases m with _ | ⟨x, _ | ⟨y, r⟩⟩
  · obtain ⟨t, ht⟩ : ∃ t, sb [] = t := ⟨_, rfl⟩
    rw [ht] at hs ⊢
    clear hsl ht
    simp only [List.length_nil] at hs
    go_enter Try.func46, Try.ntmps46
    go_wp2_with fail
    go_ret2
    exact ⟨rfl, rfl⟩
  · obtain ⟨t, ht⟩ : ∃ t, sb [x] = t := ⟨_, rfl⟩
    rw [ht] at hs ⊢
    clear hsl ht
    simp only [List.length_cons, List.length_nil] at hs
    go_enter Try.func46, Try.ntmps46
    go_wp2_with fail
    go_ret2
    exact ⟨rfl, rfl⟩
  · have hx0 : x < 256 := hb x (List.mem_cons_self ..)
    have hy0 : y < 256 := hb y (List.mem_cons_of_mem _ (List.mem_cons_self ..))
    obtain ⟨t, ht⟩ : ∃ t, sb (x :: y :: r) = t := ⟨_, rfl⟩
    rw [ht] at hs hsl ⊢
    have g0 : ∀ h : 0 < t.size, (t[0]'h).toNat = x := fun h => by rw [sl_at, hsl]; rfl
    have g1 : ∀ h : 1 < t.size, (t[1]'h).toNat = y := fun h => by rw [sl_at, hsl]; rfl
    obtain ⟨N, hN⟩ : ∃ N, t.size = N := ⟨_, rfl⟩
    have hN2 : 2 ≤ N := by rw [← hN, hs]; simp
    have hN3 : N ≤ 1000000 := by rw [← hN, hs]; exact hl
    have HX := keepf (fun W => pdigit_any x hx0 W)
    have HY := keepf (fun W => pdigit_any y hy0 W)
    have hvx := hexV_lt x
    have hvy := hexV_lt y
    have HB := keepf (show codeB (x :: y :: r) = ((hexD x).isSome && ((hexD y).isSome && decide (16 * hexV x + hexV y ≠ 0))) from rfl)
    have HV := keepf (show codeV (x :: y :: r) = 16 * hexV x + hexV y from rfl)
    obtain ⟨u, hu⟩ : ∃ u, hexV x = u := ⟨_, rfl⟩
    obtain ⟨v, hv⟩ : ∃ v, hexV y = v := ⟨_, rfl⟩
    obtain ⟨p, hp⟩ : ∃ p, (hexD x).isSome = p := ⟨_, rfl⟩
    obtain ⟨q, hq⟩ : ∃ q, (hexD y).isSome = q := ⟨_, rfl⟩
    rw [hu, hp] at HX
    rw [hv, hq] at HY
    rw [hu, hv, hp, hq] at HB
    rw [hu, hv] at HV
    rw [hu] at hvx
    rw [hv] at hvy
    have hor := or_16 (h := 16 * u) (a := u) (d := v) rfl hvx hvy
    have hsh : ((u : Int) * 2 ^ 4 % 256) = ((16 * u : Nat) : Int) := by omega
    have hsh2 : ((u : Int) * 16 % 256) = ((16 * u : Nat) : Int) := by omega
    obtain ⟨z, hz⟩ : ∃ z, 16 * u + v = z := ⟨_, rfl⟩
    rw [hz] at hor HB HV
    have hor2 : bits BinOp.or IntKind.u8 ((u : Int) * 16) (v : Int) = ((z : Nat) : Int) := by rw [show (u : Int) * 16 = ((16 * u : Nat) : Int) by omega]; exact hor
    clear hor hsh hsh2
    clear hs hsl ht hb hl hu hv hp hq hz
    by_cases hz0 : z = 0
    · subst hz0
      cases p <;> cases q
      all_goals
        go_enter Try.func46, Try.ntmps46
        go_wp2_with first | (have hdn := HDone.out; go_at_call 42; refine (HY.out _).mono ?_; rintro e w4 ⟨rfl, rfl⟩) | (go_at_call 42; refine (HX.out _).mono ?_; rintro e w3 ⟨rfl, rfl⟩; have HDone := keepf True.intro)
        go_ret2
        exact ⟨by rw [HB.out, HV.out]; rfl, rfl⟩
    · have e0 : ((z : Int) != 0) = true := by simp; omega
      have e1 : decide (z ≠ 0) = true := by simp; omega
      rw [e1] at HB
      clear hz0 e1
      cases p <;> cases q
      all_goals
        go_enter Try.func46, Try.ntmps46
        go_wp2_with first | (have hdn := HDone.out; go_at_call 42; refine (HY.out _).mono ?_; rintro e w4 ⟨rfl, rfl⟩) | (go_at_call 42; refine (HX.out _).mono ?_; rintro e w3 ⟨rfl, rfl⟩; have HDone := keepf True.intro)
        go_ret2
        exact ⟨by rw [HB.out, HV.out]; rfl, rfl⟩
end Go.Proofs.Ytmmehaghcfdjdaa
