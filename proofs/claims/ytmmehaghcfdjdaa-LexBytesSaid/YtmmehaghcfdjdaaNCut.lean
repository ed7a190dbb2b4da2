/- A number's text in pieces: the sign, what is ahead of the point, what is behind it; the program's unsigned. -/
import Derived.Test.YtmmehaghcfdjdaaNMil
import Derived.Test.YtmmehaghcfdjdaaNPad
import Derived.Test.YtmmehaghcfdjdaaNCutF
import Derived.Test.YtmmehaghcfdjdaaNDgs
namespace Go.Proofs.Ytmmehaghcfdjdaa
open Go.RowKit
set_option linter.unusedVariables false
set_option linter.unusedSimpArgs false

theorem pre_has (c : UInt8) (l : List UInt8) : Lib.hasPrefix l [c] = decide ((l.map UInt8.toNat).head? = some c.toNat) := by
  rcases l with _ | ⟨x, l⟩
  · rfl
  · show (c == x && true) = _
    rw [List.map_cons, List.head?_cons, Bool.and_true]
    by_cases h : c = x
    · subst h; simp
    · have h2 : ¬ x.toNat = c.toNat := fun h2 => h (UInt8.toNat_inj.1 h2).symm
      simp [h, h2]
theorem pre_trim (c : UInt8) (l : List UInt8) : (⟨(Lib.trimPrefix l [c]).toArray⟩ : ByteArray) = sb (if (l.map UInt8.toNat).head? = some c.toNat then (l.map UInt8.toNat).tail else l.map UInt8.toNat) := by
  rw [mk_sb]
  unfold Lib.trimPrefix
  rw [pre_has]
  by_cases h : (l.map UInt8.toNat).head? = some c.toNat
  · rw [if_pos h, if_pos (by simpa using h)]
    rcases l with _ | ⟨x, l⟩
    · rfl
    · rfl
  · rw [if_neg h, if_neg (by simpa using h)]
theorem signed_tail {l : List Nat} (h : l.head? = some 45) : signed l = (true, l.tail) := by
  rcases l with _ | ⟨x, l⟩
  · cases h
  · simp at h; subst h; rfl
theorem signed_plus {l : List Nat} (h : ¬ l.head? = some 45) : signed l = (false, if l.head? = some 43 then l.tail else l) := by
  rcases l with _ | ⟨x, l⟩
  · rfl
  · simp at h
    rw [signed]
    by_cases h2 : x = 43
    · subst h2; rfl
    · rw [if_neg h2, if_neg h, if_neg (by simpa using h2)]
theorem signed_lt {l : List Nat} (h : ∀ d ∈ l, d < 256) : ∀ d ∈ (signed l).2, d < 256 := by
  by_cases h1 : l.head? = some 45
  · rw [signed_tail h1]; exact fun d hd => h d (List.mem_of_mem_tail hd)
  · rw [signed_plus h1]
    intro d hd
    simp only at hd
    split at hd
    · exact h d (List.mem_of_mem_tail hd)
    · exact h d hd
theorem signed_len (l : List Nat) : (signed l).2.length ≤ l.length := by
  by_cases h1 : l.head? = some 45
  · rw [signed_tail h1]; simp
  · rw [signed_plus h1]
    simp only
    split <;> simp

set_option maxHeartbeats 1000000 in
theorem unsigned_any (s : ByteArray) (w : World) :
    Calls Try.prog 54 #[.string s] w fun e w' => e = .returned (.tuple #[.string (sb (signed (sl s)).2), .bool (signed (sl s)).1]) ∧ w' = w := by
  have HP := keepf (fun W => Go.Proofs.Try.strings_CutPrefix s ⟨#[45]⟩ W)
  have HT := keepf (fun W => Go.Proofs.Try.strings_TrimPrefix s ⟨#[43]⟩ W)
  by_cases h : (sl s).head? = some 45
  · have HP2 : Hid (∀ W, Calls Try.prog 65 #[.string s, .string ⟨#[45]⟩] W fun e w' => e = .returned (.tuple #[.string (sb (sl s).tail), .bool true]) ∧ w' = W) := fun W =>
      (HP.out W).mono fun e w' hh => by
        obtain ⟨he, hw⟩ := hh
        refine ⟨?_, hw⟩
        rw [he, pre_trim, pre_has, decide_eq_true (show (s.data.toList.map UInt8.toNat).head? = some (45 : UInt8).toNat from h), if_pos (show (s.data.toList.map UInt8.toNat).head? = some (45 : UInt8).toNat from h)]
        rfl
    have HS := keepf (signed_tail h)
    clear h HP HT
    go_enter Try.func54, Try.ntmps54
    go_wp2_with (go_at_call 65; refine (HP2.out _).mono ?_; rintro e w2 ⟨rfl, rfl⟩)
    go_ret2
    rw [HS.out]
    exact ⟨rfl, rfl⟩
  · obtain ⟨t, HP2⟩ : ∃ t, Hid (∀ W, Calls Try.prog 65 #[.string s, .string ⟨#[45]⟩] W fun e w' => e = .returned (.tuple #[.string t, .bool false]) ∧ w' = W) := ⟨_, fun W =>
      (HP.out W).mono fun e w' hh => by
        obtain ⟨he, hw⟩ := hh
        refine ⟨?_, hw⟩
        rw [he, pre_has, decide_eq_false (show ¬ (s.data.toList.map UInt8.toNat).head? = some (45 : UInt8).toNat from h)]⟩
    have HT2 : Hid (∀ W, Calls Try.prog 66 #[.string s, .string ⟨#[43]⟩] W fun e w' => e = .returned (.string (sb (if (sl s).head? = some 43 then (sl s).tail else sl s))) ∧ w' = W) := fun W =>
      (HT.out W).mono fun e w' hh => by
        obtain ⟨he, hw⟩ := hh
        refine ⟨?_, hw⟩
        rw [he, pre_trim]
        rfl
    have HS := keepf (signed_plus h)
    obtain ⟨u, hu⟩ : ∃ u, sb (if (sl s).head? = some 43 then (sl s).tail else sl s) = u := ⟨_, rfl⟩
    rw [hu] at HT2
    have HU := keepf hu
    clear h HP HT hu
    go_enter Try.func54, Try.ntmps54
    go_wp2_with first | (go_at_call 65; refine (HP2.out _).mono ?_; rintro e w2 ⟨rfl, rfl⟩) | (go_at_call 66; refine (HT2.out _).mono ?_; rintro e w2 ⟨rfl, rfl⟩)
    go_ret2
    rw [HS.out, ← HU.out]
    exact ⟨rfl, rfl⟩

/-- What is ahead of the first point, what is behind it, and whether there is one. -/
def cutN : List Nat → List Nat × List Nat × Bool
  | [] => ([], [], false)
  | c :: l => if c = 46 then ([], l, true) else (c :: (cutN l).1, (cutN l).2.1, (cutN l).2.2)
theorem cutN_B (l : List Nat) : cutB 46 l = cutN l := by
  induction l with
  | nil => rfl
  | cons c l ih => rw [cutB, cutN, ih]
theorem cutN_app (l : List Nat) : (cutN l).2.2 = false ∧ l = (cutN l).1 ∧ (cutN l).2.1 = [] ∨ (cutN l).2.2 = true ∧ l = (cutN l).1 ++ 46 :: (cutN l).2.1 := by
  induction l with
  | nil => exact .inl ⟨rfl, rfl, rfl⟩
  | cons c l ih =>
    rw [cutN]
    by_cases h : c = 46
    · subst h; rw [if_pos rfl]; exact .inr ⟨rfl, rfl⟩
    · rw [if_neg h]
      rcases ih with ⟨h1, h2, h3⟩ | ⟨h1, h2⟩
      · exact .inl ⟨h1, by simp only; rw [← h2], h3⟩
      · refine .inr ⟨h1, ?_⟩
        simp only [List.cons_append]
        rw [← h2]
theorem cutN_no (l : List Nat) : ∀ d ∈ (cutN l).1, d ≠ 46 := by
  induction l with
  | nil => intro d hd; cases hd
  | cons c l ih =>
    rw [cutN]
    by_cases h : c = 46
    · rw [if_pos h]; intro d hd; cases hd
    · rw [if_neg h]
      intro d hd
      rcases List.mem_cons.1 hd with rfl | hd
      · exact h
      · exact ih d hd
theorem cutN_len (l : List Nat) : (cutN l).1.length ≤ l.length ∧ (cutN l).2.1.length ≤ l.length := by
  rcases cutN_app l with ⟨_, h2, h3⟩ | ⟨_, h2⟩
  · rw [h3]; exact ⟨by rw [← h2]; exact Nat.le_refl _, Nat.zero_le _⟩
  · have h := congrArg List.length h2
    rw [List.length_append, List.length_cons] at h
    omega
theorem cutN_lt {l : List Nat} (h : ∀ d ∈ l, d < 256) : (∀ d ∈ (cutN l).1, d < 256) ∧ ∀ d ∈ (cutN l).2.1, d < 256 := by
  rcases cutN_app l with ⟨_, h2, h3⟩ | ⟨_, h2⟩
  · rw [h3]; exact ⟨by rw [← h2]; exact h, fun d hd => by cases hd⟩
  · exact ⟨fun d hd => h d (by rw [h2]; exact List.mem_append_left _ hd), fun d hd => h d (by rw [h2]; exact List.mem_append_right _ (List.mem_cons_of_mem _ hd))⟩
theorem cut_any (m : List Nat) (hb : ∀ d ∈ m, d < 256) (hl : m.length ≤ 1000000) (w : World) :
    Calls Try.prog 44 #[.string (sb m), .string ⟨#[46]⟩] w fun e w' => e = .returned (.tuple #[.string (sb (cutN m).1), .string (sb (cutN m).2.1), .bool (cutN m).2.2]) ∧ Chg NoS w w' := by
  have h := cutF_any 46 m hb hl w
  rw [show (46 : UInt8).toNat = 46 from rfl, cutN_B] at h
  exact h

/-- A text's number by its pieces. -/
theorem ns_none : ∀ (l : List Nat) (s : Ns), (∃ d ∈ l, ¬ isD d ∧ d ≠ 46) → nsAll s l = none := by
  intro l
  induction l with
  | nil => rintro s ⟨d, hd, _⟩; cases hd
  | cons c l ih =>
    rintro s ⟨d, hd, h1, h2⟩
    rw [nsAll]
    rcases List.mem_cons.1 hd with rfl | hd
    · unfold nsStep
      rw [if_neg (fun h => h2 h.1), if_neg h1]
    · cases nsStep s c with
      | none => rfl
      | some t => exact ih t ⟨d, hd, h1, h2⟩
theorem ns_none2 : ∀ (l : List Nat) (s : Ns) (j : Nat), s.fr = some j → (∃ d ∈ l, ¬ isD d) → nsAll s l = none := by
  intro l
  induction l with
  | nil => rintro s j _ ⟨d, hd, _⟩; cases hd
  | cons c l ih =>
    rintro s j hf ⟨d, hd, h1⟩
    rw [nsAll]
    rcases List.mem_cons.1 hd with rfl | hd
    · unfold nsStep
      rw [if_neg (fun h => by rw [hf] at h; cases h.2), if_neg h1]
    · unfold nsStep
      rw [if_neg (fun h => by rw [hf] at h; cases h.2)]
      by_cases hc : isD c
      · rw [if_pos hc, hf]
        exact ih _ (j + 1) rfl ⟨d, hd, h1⟩
      · rw [if_neg hc]
theorem ns_over : ∀ (l : List Nat) (s : Ns), allD l → s.fr = none → s.over = true → nsAll s l = some { s with digits := s.digits + l.length } := by
  intro l
  induction l with
  | nil => intro s _ _ _; rfl
  | cons c l ih =>
    intro s h hf ho
    have hc := h c (List.mem_cons_self ..)
    have hst : nsStep s c = some { s with digits := s.digits + 1 } := by
      unfold nsStep
      rw [if_neg (by unfold isD at hc; omega), if_pos hc, hf]
      simp only [ho, if_true, Bool.true_or]
    rw [nsAll, hst]
    simp only
    rw [ih { s with digits := s.digits + 1 } (fun d hd => h d (List.mem_cons_of_mem _ hd)) hf ho]
    simp only [List.length_cons]
    first | done | (congr 2; done) | (congr 2; omega)
theorem ns_big : ∀ (l : List Nat) (s : Ns), allD l → s.fr = none → s.over = false → 2147483647 < valF s.n l → ∃ n, nsAll s l = some { s with n := n, digits := s.digits + l.length, over := true } ∨ s.n > 2147483647 := by
  intro l
  induction l with
  | nil => intro s _ _ _ h; exact ⟨0, .inr h⟩
  | cons c l ih =>
    intro s h hf ho hv
    have hc := h c (List.mem_cons_self ..)
    by_cases hb : 2147483647 < 10 * s.n + (c - 48)
    · have hst : nsStep s c = some { s with n := 10 * s.n + (c - 48), digits := s.digits + 1, over := true } := by
        unfold nsStep
        rw [if_neg (by unfold isD at hc; omega), if_pos hc, hf]
        simp only [ho, Bool.false_eq_true, if_false, Bool.false_or]
        rw [decide_eq_true hb]
      refine ⟨10 * s.n + (c - 48), .inl ?_⟩
      rw [nsAll, hst]
      simp only
      rw [ns_over l { s with n := 10 * s.n + (c - 48), digits := s.digits + 1, over := true } (fun d hd => h d (List.mem_cons_of_mem _ hd)) hf rfl]
      simp only [List.length_cons]
      first | done | (congr 2; done) | (congr 2; omega)
    · have hst : nsStep s c = some { s with n := 10 * s.n + (c - 48), digits := s.digits + 1, over := false } := by
        unfold nsStep
        rw [if_neg (by unfold isD at hc; omega), if_pos hc, hf]
        simp only [ho, Bool.false_eq_true, if_false, Bool.false_or]
        rw [decide_eq_false hb]
      obtain ⟨n, h1 | h1⟩ := ih { s with n := 10 * s.n + (c - 48), digits := s.digits + 1, over := false } (fun d hd => h d (List.mem_cons_of_mem _ hd)) hf rfl hv
      · refine ⟨n, .inl ?_⟩
        rw [nsAll, hst]
        simp only
        rw [h1]
        simp only [List.length_cons]
        first | done | (congr 2; done) | (congr 2; omega)
      · exact absurd h1 hb
/-- What a text tells, piece by piece. -/
def xP (a b : List Nat) (f : Bool) : Nat := if f then min (valF 0 a) 2147483648 * 1000000 + milF 0 b else min (valF 0 a) 2147483648
def mP (f : Bool) : Nat := if f then 2147483647000000 else 2147483647
def badP (a b : List Nat) : Prop := (a = [] ∧ b = []) ∨ ¬ allD a ∨ ¬ allD b
def numP (sg : Bool) (a b : List Nat) (f : Bool) : Int × Nat × Int :=
  if xP a b f ≤ mP f then (0, if f then 3 else 2, if sg then -(xP a b f : Int) else (xP a b f : Int)) else (5, 0, 0)
theorem mil_lt {b : List Nat} (h : allD b) : milF 0 b < 1000000 := by
  have h1 := milF_bound b 0 h
  have h2 : 0 < 10 ^ (6 - min (0 + b.length) 6) := Nat.pow_pos (by omega)
  have e : (10 : Nat) ^ (6 - min 0 6) = 1000000 := by decide
  rw [e] at h1
  exact Nat.lt_of_lt_of_le (Nat.lt_add_of_pos_right h2) h1
theorem numOf_errN {l : List Nat} (h : nsAll ns0 (signed l).2 = none) : numOf l = (11, 0, 0) := by
  unfold numOf
  rw [h]
theorem numOf_dig {l : List Nat} {t : Ns} (h : nsAll ns0 (signed l).2 = some t) (hd : t.digits = 0) : numOf l = (11, 0, 0) := by
  unfold numOf
  rw [h]
  simp only
  rw [if_pos hd]
theorem numOf_over {l : List Nat} {t : Ns} (h : nsAll ns0 (signed l).2 = some t) (hd : t.digits ≠ 0) (ho : t.over = true ∨ (t.fr ≠ none ∧ t.n = 2147483647 ∧ 0 < t.parts)) : numOf l = (5, 0, 0) := by
  unfold numOf
  rw [h]
  simp only
  rw [if_neg hd, if_pos ho]
theorem numOf_int {l : List Nat} {t : Ns} (h : nsAll ns0 (signed l).2 = some t) (hd : t.digits ≠ 0) (ho : t.over = false) (hf : t.fr = none) : numOf l = (0, 2, if (signed l).1 then 0 - (t.n : Int) else (t.n : Int)) := by
  unfold numOf
  rw [h]
  simp only
  rw [if_neg hd, if_neg (by rintro (h | h); rw [ho] at h; cases h; exact h.1 hf), if_pos hf, if_pos hf]
theorem numOf_real {l : List Nat} {t : Ns} (h : nsAll ns0 (signed l).2 = some t) (hd : t.digits ≠ 0) (ho : ¬ (t.over = true ∨ (t.fr ≠ none ∧ t.n = 2147483647 ∧ 0 < t.parts))) (hf : t.fr ≠ none) : numOf l = (0, 3, if (signed l).1 then 0 - ((1000000 * t.n + t.parts : Nat) : Int) else ((1000000 * t.n + t.parts : Nat) : Int)) := by
  unfold numOf
  rw [h]
  simp only
  rw [if_neg hd, if_neg ho, if_neg hf, if_neg hf]
theorem num_bad (l : List Nat) (h : badP (cutN (signed l).2).1 (cutN (signed l).2).2.1) : numOf l = (11, 0, 0) := by
  have hno := cutN_no (signed l).2
  have happ := cutN_app (signed l).2
  generalize hc : cutN (signed l).2 = t at h hno happ
  obtain ⟨a, b, f⟩ := t
  simp only at hno happ h
  by_cases hA : allD a
  · rcases h with ⟨rfl, rfl⟩ | h | hB
    · rcases happ with ⟨_, h2, _⟩ | ⟨_, h2⟩
      · exact numOf_dig (t := ns0) (by rw [h2]; rfl) rfl
      · exact numOf_dig (t := { ns0 with fr := some 0 }) (by rw [h2]; rfl) rfl
    · exact absurd hA h
    · have hB' : ∃ d ∈ b, ¬ isD d := by unfold allD at hB; simpa using hB
      rcases happ with ⟨_, h2, rfl⟩ | ⟨_, h2⟩
      · exact absurd (fun d hd => by cases hd) hB
      · refine numOf_errN ?_
        rw [h2, nsAll_app]
        cases hn : nsAll ns0 a with
        | none => rfl
        | some t =>
          simp only [Option.bind_some]
          rw [nsAll]
          unfold nsStep
          by_cases hf : t.fr = none
          · rw [if_pos ⟨rfl, hf⟩]
            simp only
            rw [ns_none2 b _ 0 rfl hB']
          · rw [if_neg (fun h => hf h.2), if_neg (by decide)]
  · have hA' : ∃ d ∈ a, ¬ isD d ∧ d ≠ 46 := by
      have : ∃ d ∈ a, ¬ isD d := by unfold allD at hA; simpa using hA
      obtain ⟨d, hd, h⟩ := this
      exact ⟨d, hd, h, hno d hd⟩
    refine numOf_errN (ns_none _ ns0 ?_)
    obtain ⟨d, hd, h⟩ := hA'
    rcases happ with ⟨_, h2, _⟩ | ⟨_, h2⟩
    · rw [h2]; exact ⟨d, hd, h⟩
    · rw [h2]; exact ⟨d, List.mem_append_left _ hd, h⟩
theorem num_P (l : List Nat) (h : ¬ badP (cutN (signed l).2).1 (cutN (signed l).2).2.1) : numOf l = numP (signed l).1 (cutN (signed l).2).1 (cutN (signed l).2).2.1 (cutN (signed l).2).2.2 := by
  have happ := cutN_app (signed l).2
  generalize hc : cutN (signed l).2 = t at h happ
  obtain ⟨a, b, f⟩ := t
  simp only at happ h ⊢
  have hE : ¬ (a = [] ∧ b = []) := fun h2 => h (.inl h2)
  have hA : allD a := Decidable.byContradiction fun h2 => h (.inr (.inl h2))
  have hB : allD b := Decidable.byContradiction fun h2 => h (.inr (.inr h2))
  have hml := mil_lt hB
  have hne : ¬ (a.length = 0 ∧ b.length = 0) := fun h2 => hE ⟨List.eq_nil_of_length_eq_zero h2.1, List.eq_nil_of_length_eq_zero h2.2⟩
  have hn0 : ns0.digits = 0 := rfl
  obtain ⟨v, hv0⟩ : ∃ v, valF 0 a = v := ⟨_, rfl⟩
  obtain ⟨p, hp0⟩ : ∃ p, milF 0 b = p := ⟨_, rfl⟩
  rw [hp0] at hml
  have hstep : ∀ t : Ns, t.fr = none → nsStep t 46 = some { t with fr := some 0 } := fun t ht => by
    unfold nsStep
    rw [if_pos ⟨rfl, ht⟩]
  by_cases hv : v ≤ 2147483647
  · have ha := nsAll_int a ns0 hA rfl rfl (by show valF 0 a ≤ _; rw [hv0]; exact hv)
    rw [show valF ns0.n a = v from hv0] at ha
    rcases happ with ⟨rfl, h2, rfl⟩ | ⟨rfl, h2⟩
    · have hx : xP a [] false = v := by
        show min (valF 0 a) 2147483648 = v
        rw [hv0]
        omega
      have hle : xP a [] false ≤ mP false := by rw [hx]; exact hv
      rw [numP, if_pos hle, hx, numOf_int (l := l) (by rw [h2]; exact ha) (by show ns0.digits + a.length ≠ 0; intro h3; exact hne ⟨by omega, rfl⟩) rfl rfl]
      cases (signed l).1
      · rfl
      · show ((0 : Int), (2 : Nat), (0 : Int) - (v : Int)) = (0, 2, -(v : Int))
        rw [Int.zero_sub]
    · have hall : nsAll ns0 (signed l).2 = some { ns0 with n := v, digits := ns0.digits + a.length + b.length, fr := some (0 + b.length), parts := ns0.parts + p } := by
        rw [h2, nsAll_app, ha]
        simp only [Option.bind_some]
        rw [nsAll, hstep _ rfl]
        simp only
        rw [nsAll_fr b _ 0 hB rfl, hp0]
      have hx : xP a b true = v * 1000000 + p := by
        show min (valF 0 a) 2147483648 * 1000000 + milF 0 b = _
        rw [hv0, hp0, show min v 2147483648 = v from by omega]
      by_cases hg : v = 2147483647 ∧ 0 < p
      · have hle : ¬ xP a b true ≤ mP true := by rw [hx]; show ¬ _ ≤ 2147483647000000; omega
        rw [numP, if_neg hle]
        exact numOf_over hall (by show ns0.digits + a.length + b.length ≠ 0; omega) (.inr ⟨by simp, hg.1, by show 0 < ns0.parts + p; omega⟩)
      · have hle : xP a b true ≤ mP true := by rw [hx]; show _ ≤ 2147483647000000; omega
        rw [numP, if_pos hle, hx, numOf_real hall (by show ns0.digits + a.length + b.length ≠ 0; omega) (by
          rintro (h | ⟨_, h3, h4⟩)
          · cases h
          · refine hg ⟨h3, ?_⟩
            have h4 : 0 < ns0.parts + p := h4
            have h5 : ns0.parts = 0 := rfl
            omega) (by simp)]
        have e : 1000000 * v + (ns0.parts + p) = v * 1000000 + p := by
          have h5 : ns0.parts = 0 := rfl
          omega
        show ((0 : Int), (3 : Nat), if (signed l).1 then (0 : Int) - ((1000000 * v + (ns0.parts + p) : Nat) : Int) else ((1000000 * v + (ns0.parts + p) : Nat) : Int)) = _
        rw [e]
        cases (signed l).1
        · rfl
        · show ((0 : Int), (3 : Nat), (0 : Int) - ((v * 1000000 + p : Nat) : Int)) = (0, 3, -((v * 1000000 + p : Nat) : Int))
          rw [Int.zero_sub]
  · have hle : ¬ xP a b f ≤ mP f := by
      unfold xP mP
      rw [hv0, hp0, show min v 2147483648 = 2147483648 from by omega]
      cases f
      · simp
      · simp only [if_true]; omega
    rw [numP, if_neg hle]
    have hal : a.length ≠ 0 := fun h2 => by
      rw [List.eq_nil_of_length_eq_zero h2] at hv0
      simp [valF] at hv0
      omega
    obtain ⟨n, h1 | h1⟩ := ns_big a ns0 hA rfl rfl (by show 2147483647 < valF 0 a; omega)
    · rcases happ with ⟨_, h2, _⟩ | ⟨_, h2⟩
      · exact numOf_over (by rw [h2]; exact h1) (by show ns0.digits + a.length ≠ 0; omega) (.inl rfl)
      · refine numOf_over (t := { ns0 with n := n, digits := ns0.digits + a.length + b.length, over := true, fr := some (0 + b.length), parts := ns0.parts + milF 0 b }) ?_ (by show ns0.digits + a.length + b.length ≠ 0; omega) (.inl rfl)
        rw [h2, nsAll_app, h1]
        simp only [Option.bind_some]
        rw [nsAll, hstep _ rfl]
        simp only
        rw [nsAll_fr b _ 0 hB rfl]
    · exact absurd h1 (by decide)
end Go.Proofs.Ytmmehaghcfdjdaa
