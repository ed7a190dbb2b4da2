/- Merged by program: PsM PsN RLx1 Rdr PLx1. -/
import Derived.Test.YtaababegolfjeaaG01
import Derived.Test.YtaababegolfjeaaG07
import Derived.BigQuiet
import Derived.Deep.Cut
import Derived.Lib.UnsafeStr
import Derived.Lib.Builder
import Derived.WalkMore
/- Values of a file: plain mathematics, no program. What is open is a stack, the innermost first; one token after another is gone through. -/
namespace Go.Proofs.Ytaababegolfjeaa
set_option linter.unusedVariables false
set_option linter.unusedSimpArgs false

/-- The error of a value of a kind that stands where the next one does. -/
def roomO (st : List (Int × List VT)) (kind : Int) : Int :=
  match st with
  | [] => 0
  | (k, l) :: r => if k = 7 ∧ l.length % 2 = 0 ∧ kind ≠ 5 then 11 else if 64 ≤ r.length + 1 then 15 else 0

def wordO (s : List Nat) : Int × VT :=
  if sb s = ⟨#[110, 117, 108, 108]⟩ then (0, nilT) else if sb s = ⟨#[102, 97, 108, 115, 101]⟩ then (0, .mk 1 0 ⟨#[]⟩ []) else if sb s = ⟨#[116, 114, 117, 101]⟩ then (0, .mk 1 1 ⟨#[]⟩ []) else (11, nilT)

def tokV (t : Tkn) : VT := .mk (t.vk : Nat) t.vn (sb t.vs) []

/-- The token behind a second one, where that is a whole number. -/
def thirdO (bs : List Nat) (last : Bool) (r2 : Int × Tkn) : Int × Tkn := if r2.2.vk = 2 then nextO bs r2.2.to last else (r2.1, noT 0)

/-- What a token of a value is, or the reference that it begins, and where that ends. -/
def refO (bs : List Nat) (last : Bool) (t : Tkn) : Int × VT × Nat :=
  if t.vk ≠ 2 then (0, tokV t, t.to)
  else if (thirdO bs last (nextO bs t.to last)).1 = 6 then (6, nilT, 0)
  else if (thirdO bs last (nextO bs t.to last)).2.kind ≠ 6 ∨ sb (thirdO bs last (nextO bs t.to last)).2.s ≠ ⟨#[82]⟩ then (0, tokV t, t.to)
  else if t.vn < 1 ∨ 4096 < t.vn ∨ (nextO bs t.to last).2.vn ≠ 0 then (26, nilT, 0)
  else (0, .mk 8 t.vn ⟨#[]⟩ [], (thirdO bs last (nextO bs t.to last)).2.to)

/-- The Dict of names and values in turn. -/
noncomputable def dicO (l : List VT) : Int × VT := if l.length % 2 ≠ 0 then (11, nilT) else if (dictT l).length < l.length then (16, nilT) else (0, .mk 7 0 ⟨#[]⟩ (dictT l))

noncomputable def popO (st : List (Int × List VT)) (kind : Int) : Int × VT :=
  match st with
  | [] => (11, nilT)
  | (k, l) :: _ => if k ≠ kind then (11, nilT) else if kind = 7 then dicO l else (0, .mk k 0 ⟨#[]⟩ l)

inductive Out
  | done (er : Int) (v : VT) (tz : Nat)
  | next (p : Nat) (st : List (Int × List VT))

def putO (er : Int) (v : VT) (tz : Nat) (st : List (Int × List VT)) : Out :=
  if er ≠ 0 then .done er nilT 0
  else match st with
    | [] => .done 0 v tz
    | (k, l) :: r => if roomO ((k, l) :: r) v.kind ≠ 0 then .done (roomO ((k, l) :: r) v.kind) nilT 0 else .next tz ((k, l ++ [v]) :: r)

def opnO (kind : Int) (tz : Nat) (st : List (Int × List VT)) : Out := if roomO st kind ≠ 0 then .done (roomO st kind) nilT 0 else .next tz ((kind, []) :: st)

/-- One token, and what it begins. -/
noncomputable def actO (bs : List Nat) (last : Bool) (r : Int × Tkn) (st : List (Int × List VT)) : Out :=
  if r.1 ≠ 0 then .done r.1 nilT 0
  else if r.2.kind = 0 then .done 10 nilT 0
  else if r.2.kind = 2 then opnO 6 r.2.to st
  else if r.2.kind = 4 then opnO 7 r.2.to st
  else if r.2.kind = 3 then putO (popO st 6).1 (popO st 6).2 r.2.to st.tail
  else if r.2.kind = 5 then putO (popO st 7).1 (popO st 7).2 r.2.to st.tail
  else if r.2.kind = 6 then putO (wordO r.2.s).1 (wordO r.2.s).2 r.2.to st
  else putO (refO bs last r.2).1 (refO bs last r.2).2.1 (refO bs last r.2).2.2 st

noncomputable def stepO (bs : List Nat) (last : Bool) (p : Nat) (st : List (Int × List VT)) : Out := actO bs last (nextO bs p last) st

/-- The value that stands from a place on: an error, it, and where it ends. -/
noncomputable def runO (bs : List Nat) (last : Bool) (p : Nat) (st : List (Int × List VT)) : Int × VT × Nat :=
  match stepO bs last p st with
  | .done er v tz => (er, v, tz)
  | .next q st' => if h : p < q ∧ q ≤ bs.length then runO bs last q st' else (0, nilT, 0)
termination_by bs.length - p
decreasing_by omega

noncomputable def valA (bs : List Nat) (at_ : Int) (last : Bool) : Int × VT × Nat := if at_ < 0 ∨ (bs.length : Int) < at_ then (2, nilT, 0) else runO bs last at_.toNat []

theorem run_done {bs : List Nat} {last : Bool} {p : Nat} {st : List (Int × List VT)} {er : Int} {v : VT} {tz : Nat} (h : stepO bs last p st = .done er v tz) : runO bs last p st = (er, v, tz) := by
  rw [runO, h]

theorem run_next {bs : List Nat} {last : Bool} {p q : Nat} {st st' : List (Int × List VT)} (h : stepO bs last p st = .next q st') (hq : p < q ∧ q ≤ bs.length) : runO bs last p st = runO bs last q st' := by
  rw [runO, h]
  simp only [dif_pos hq]

/-- A token that is there lies behind its place and ends among the bytes; one that is not is nothing. -/
theorem next_tok (bs : List Nat) (p : Nat) (last : Bool) (hp : p ≤ bs.length) : ((nextO bs p last).2.kind = 0 ∧ (nextO bs p last).2.vk = 0 ∧ (nextO bs p last).2.s = []) ∨ ((nextO bs p last).1 = 0 ∧ (nextO bs p last).2.kind ≠ 0 ∧ p < (nextO bs p last).2.to ∧ (nextO bs p last).2.to ≤ bs.length) := by
  rcases nextO_place bs p last hp with ⟨q, _, _, h, _⟩ | ⟨h1, h2, h3, h4, h5, _⟩
  · rw [h]; exact .inl ⟨rfl, rfl, rfl⟩
  · exact .inr ⟨h1, h2, by omega, h5⟩

theorem next_err {bs : List Nat} {p : Nat} {last : Bool} (hp : p ≤ bs.length) (h : (nextO bs p last).1 ≠ 0) : (nextO bs p last).2.vk = 0 := by
  rcases next_tok bs p last hp with h1 | h1
  · exact h1.2.1
  · exact absurd h1.1 h

theorem ref_to {bs : List Nat} {last : Bool} {t : Tkn} (ht : t.to ≤ bs.length) (h : (refO bs last t).1 = 0) : t.to ≤ (refO bs last t).2.2 ∧ (refO bs last t).2.2 ≤ bs.length := by
  unfold refO at h ⊢
  by_cases h1 : t.vk ≠ 2
  · rw [if_pos h1]; exact ⟨Nat.le_refl _, ht⟩
  rw [if_neg h1] at h ⊢
  by_cases h2 : (thirdO bs last (nextO bs t.to last)).1 = 6
  · rw [if_pos h2] at h; cases h
  rw [if_neg h2] at h ⊢
  by_cases h3 : (thirdO bs last (nextO bs t.to last)).2.kind ≠ 6 ∨ sb (thirdO bs last (nextO bs t.to last)).2.s ≠ ⟨#[82]⟩
  · rw [if_pos h3]; exact ⟨Nat.le_refl _, ht⟩
  rw [if_neg h3] at h ⊢
  by_cases h4 : t.vn < 1 ∨ 4096 < t.vn ∨ (nextO bs t.to last).2.vn ≠ 0
  · rw [if_pos h4] at h; cases h
  rw [if_neg h4]
  simp only []
  have h5 : (thirdO bs last (nextO bs t.to last)).2.kind = 6 := by omega
  unfold thirdO at h5 ⊢
  by_cases h6 : (nextO bs t.to last).2.vk = 2
  · rw [if_pos h6] at h5 ⊢
    rcases next_tok bs t.to last ht with h7 | h7
    · rw [h7.2.1] at h6; cases h6
    · rcases next_tok bs _ last h7.2.2.2 with h8 | h8
      · rw [h8.1] at h5; cases h5
      · omega
  · rw [if_neg h6] at h5; cases h5

theorem put_to {er : Int} {v : VT} {tz q : Nat} {st st' : List (Int × List VT)} (h : putO er v tz st = .next q st') : q = tz ∧ er = 0 := by
  unfold putO at h
  by_cases h1 : er ≠ 0
  · rw [if_pos h1] at h; cases h
  rw [if_neg h1] at h
  refine ⟨?_, by omega⟩
  cases st with
  | nil => cases h
  | cons x r =>
    obtain ⟨k, l⟩ := x
    simp only [] at h
    split at h
    · cases h
    · cases h; rfl

theorem opn_to {kind : Int} {tz q : Nat} {st st' : List (Int × List VT)} (h : opnO kind tz st = .next q st') : q = tz := by
  unfold opnO at h
  split at h
  · cases h
  · cases h; rfl

theorem step_to {bs : List Nat} {last : Bool} {p q : Nat} {st st' : List (Int × List VT)} (hp : p ≤ bs.length) (h : stepO bs last p st = .next q st') : p < q ∧ q ≤ bs.length := by
  unfold stepO actO at h
  rcases next_tok bs p last hp with ⟨h1, _⟩ | ⟨h1, h2, h3, h4⟩
  · by_cases h0 : (nextO bs p last).1 ≠ 0
    · rw [if_pos h0] at h; cases h
    · rw [if_neg h0, if_pos h1] at h; cases h
  rw [if_neg (by rw [h1]; decide), if_neg h2] at h
  split at h
  · rw [opn_to h]; exact ⟨h3, h4⟩
  split at h
  · rw [opn_to h]; exact ⟨h3, h4⟩
  split at h
  · rw [(put_to h).1]; exact ⟨h3, h4⟩
  split at h
  · rw [(put_to h).1]; exact ⟨h3, h4⟩
  split at h
  · rw [(put_to h).1]; exact ⟨h3, h4⟩
  · have h5 := put_to h
    have h6 := ref_to h4 h5.2
    rw [h5.1]
    omega

/-- What is told of the first bytes stays. -/
theorem third_stays {b : List Nat} {k p : Nat} {last : Bool} (hk : k ≤ b.length) (hp : p ≤ k) (h : (thirdO (b.take k) false (nextO (b.take k) p false)).1 ≠ 6) :
    nextO b p last = nextO (b.take k) p false ∧ nextO (b.take k) p true = nextO (b.take k) p false ∧ thirdO b last (nextO (b.take k) p false) = thirdO (b.take k) false (nextO (b.take k) p false) ∧ thirdO (b.take k) true (nextO (b.take k) p false) = thirdO (b.take k) false (nextO (b.take k) p false) := by
  have hl : p ≤ (b.take k).length := by rw [List.length_take]; omega
  have h6 : (nextO (b.take k) p false).1 ≠ 6 := by
    intro e
    have h0 : (nextO (b.take k) p false).2.vk = 0 := next_err hl (by rw [e]; decide)
    unfold thirdO at h
    rw [if_neg (by rw [h0]; decide)] at h
    exact h e
  obtain ⟨e1, e2⟩ := nextO_stays b k p last hk hp h6
  refine ⟨e1, e2, ?_⟩
  unfold thirdO at h ⊢
  by_cases h7 : (nextO (b.take k) p false).2.vk = 2
  · rw [if_pos h7] at h
    rw [if_pos h7, if_pos h7, if_pos h7]
    rcases next_tok (b.take k) p false hl with h8 | h8
    · rw [h8.2.1] at h7; cases h7
    · have h9 := h8.2.2.2
      rw [List.length_take] at h9
      obtain ⟨e3, e4⟩ := nextO_stays b k (nextO (b.take k) p false).2.to last hk (by omega) h
      exact ⟨e3, e4⟩
  · rw [if_neg h7, if_neg h7, if_neg h7]; exact ⟨rfl, rfl⟩

theorem ref_stays {b : List Nat} {k : Nat} {t : Tkn} {last : Bool} (hk : k ≤ b.length) (hp : t.to ≤ k) (h : (refO (b.take k) false t).1 ≠ 6) :
    refO b last t = refO (b.take k) false t ∧ refO (b.take k) true t = refO (b.take k) false t := by
  unfold refO at h ⊢
  by_cases h1 : t.vk ≠ 2
  · refine ⟨?_, ?_⟩ <;> simp only [if_pos h1]
  rw [if_neg h1] at h
  by_cases h2 : (thirdO (b.take k) false (nextO (b.take k) t.to false)).1 = 6
  · rw [if_pos h2] at h; exact absurd rfl h
  · obtain ⟨e1, e2, e3, e4⟩ := third_stays (last := last) hk hp h2
    rw [e1, e2, e3, e4]
    exact ⟨rfl, rfl⟩

theorem step_stays {b : List Nat} {k p : Nat} {st : List (Int × List VT)} {last : Bool} (hk : k ≤ b.length) (hp : p ≤ k) (h : ∀ v tz, stepO (b.take k) false p st ≠ .done 6 v tz) :
    stepO b last p st = stepO (b.take k) false p st ∧ stepO (b.take k) true p st = stepO (b.take k) false p st := by
  have hl : p ≤ (b.take k).length := by rw [List.length_take]; omega
  unfold stepO at h ⊢
  have h6 : (nextO (b.take k) p false).1 ≠ 6 := by
    intro e
    refine h nilT 0 ?_
    unfold actO
    rw [if_pos (by rw [e]; decide), e]
  obtain ⟨e1, e2⟩ := nextO_stays b k p last hk hp h6
  rw [e1, e2]
  unfold actO at h ⊢
  rcases next_tok (b.take k) p false hl with ⟨h1, _⟩ | ⟨h1, h2, h3, h4⟩
  · by_cases h0 : (nextO (b.take k) p false).1 ≠ 0
    · refine ⟨?_, ?_⟩ <;> simp only [if_pos h0]
    · refine ⟨?_, ?_⟩ <;> simp only [if_neg h0, if_pos h1]
  have n1 : ¬ (nextO (b.take k) p false).1 ≠ 0 := by rw [h1]; decide
  simp only [if_neg n1, if_neg h2] at h ⊢
  by_cases k2 : (nextO (b.take k) p false).2.kind = 2
  · refine ⟨?_, ?_⟩ <;> simp only [if_pos k2]
  by_cases k4 : (nextO (b.take k) p false).2.kind = 4
  · refine ⟨?_, ?_⟩ <;> simp only [if_neg k2, if_pos k4]
  by_cases k3 : (nextO (b.take k) p false).2.kind = 3
  · refine ⟨?_, ?_⟩ <;> simp only [if_neg k2, if_neg k4, if_pos k3]
  by_cases k5 : (nextO (b.take k) p false).2.kind = 5
  · refine ⟨?_, ?_⟩ <;> simp only [if_neg k2, if_neg k4, if_neg k3, if_pos k5]
  by_cases k6 : (nextO (b.take k) p false).2.kind = 6
  · refine ⟨?_, ?_⟩ <;> simp only [if_neg k2, if_neg k4, if_neg k3, if_neg k5, if_pos k6]
  simp only [if_neg k2, if_neg k4, if_neg k3, if_neg k5, if_neg k6] at h ⊢
  rw [List.length_take] at h4
  have hr : (refO (b.take k) false (nextO (b.take k) p false).2).1 ≠ 6 := by
    intro e
    refine h nilT 0 ?_
    rw [e]
    unfold putO
    rw [if_pos (by decide)]
  obtain ⟨e3, e4⟩ := ref_stays (last := last) hk (by omega) hr
  rw [e3, e4]
  exact ⟨rfl, rfl⟩

theorem run_stays {b : List Nat} {k : Nat} {last : Bool} (hk : k ≤ b.length) : ∀ (n p : Nat) (st : List (Int × List VT)), k - p ≤ n → p ≤ k → (runO (b.take k) false p st).1 ≠ 6 →
    runO b last p st = runO (b.take k) false p st ∧ runO (b.take k) true p st = runO (b.take k) false p st := by
  intro n
  induction n with
  | zero =>
    intro p st hn hp h
    have hl : p ≤ (b.take k).length := by rw [List.length_take]; omega
    cases hs : stepO (b.take k) false p st with
    | done er v tz =>
      rw [run_done hs] at h ⊢
      obtain ⟨e1, e2⟩ := step_stays (last := last) hk hp (st := st) (fun v' to' e => by rw [hs] at e; cases e; exact h rfl)
      exact ⟨run_done (e1.trans hs), run_done (e2.trans hs)⟩
    | next q st' =>
      have hq := step_to hl hs
      rw [List.length_take] at hq
      omega
  | succ n ih =>
    intro p st hn hp h
    have hl : p ≤ (b.take k).length := by rw [List.length_take]; omega
    cases hs : stepO (b.take k) false p st with
    | done er v tz =>
      rw [run_done hs] at h ⊢
      obtain ⟨e1, e2⟩ := step_stays (last := last) hk hp (st := st) (fun v' to' e => by rw [hs] at e; cases e; exact h rfl)
      exact ⟨run_done (e1.trans hs), run_done (e2.trans hs)⟩
    | next q st' =>
      have hq := step_to hl hs
      obtain ⟨e1, e2⟩ := step_stays (last := last) hk hp (st := st) (fun v' to' e => by rw [hs] at e; cases e)
      have hq2 := hq
      rw [List.length_take] at hq2
      rw [run_next hs hq] at h ⊢
      rw [run_next (e1.trans hs) ⟨hq.1, by omega⟩, run_next (e2.trans hs) hq]
      exact ih q st' (by omega) (by omega) h

theorem val_stays {b : List Nat} {k : Nat} {last : Bool} (hk : k ≤ b.length) (h : (valA (b.take k) 0 false).1 ≠ 6) : valA b 0 last = valA (b.take k) 0 false ∧ valA (b.take k) 0 true = valA (b.take k) 0 false := by
  have n1 : ∀ n : Nat, ¬ ((0 : Int) < 0 ∨ (n : Int) < 0) := fun n => by omega
  unfold valA at h ⊢
  rw [if_neg (n1 _)] at h
  rw [if_neg (n1 _), if_neg (n1 _), if_neg (n1 _)]
  exact run_stays hk k 0 [] (by omega) (Nat.zero_le _) h

end Go.Proofs.Ytaababegolfjeaa

/- Values of a file: plain mathematics: which tokens there are, and that what is read may be. -/
namespace Go.Proofs.Ytaababegolfjeaa
set_option linter.unusedVariables false
set_option linter.unusedSimpArgs false

theorem tok_kind (last : Bool) (p c : Nat) (l : List Nat) : (tokO last p c l).2.kind ≤ 6 := by
  have hno : ∀ e : Int, ((e, noT p) : Int × Tkn).2.kind ≤ 6 := fun _ => Nat.zero_le _
  unfold tokO
  by_cases h1 : c = 91
  · rw [if_pos h1]; simp
  rw [if_neg h1]
  by_cases h2 : c = 93
  · rw [if_pos h2]; simp
  rw [if_neg h2]
  by_cases h3 : c = 60 ∧ l.head? = some 60
  · rw [if_pos h3]; simp
  rw [if_neg h3]
  by_cases h4 : c = 62 ∧ l.head? = some 62
  · rw [if_pos h4]; simp
  rw [if_neg h4]
  by_cases h5 : c = 62 ∧ l = [] ∧ last = false
  · rw [if_pos h5]; exact hno _
  rw [if_neg h5]
  by_cases h6 : c = 60
  · rw [if_pos h6]
    split
    · exact hno _
    · simp
  rw [if_neg h6]
  by_cases h7 : c = 40
  · rw [if_pos h7]
    split
    · exact hno _
    · simp
  rw [if_neg h7]
  by_cases h8 : c = 47
  · rw [if_pos h8]
    split
    · exact hno _
    · split
      · exact hno _
      · simp
  rw [if_neg h8]
  by_cases h9 : isDl c = true
  · rw [if_pos h9]; exact hno _
  rw [if_neg h9]
  by_cases h10 : rgs l = l.length ∧ last = false
  · rw [if_pos h10]; exact hno _
  rw [if_neg h10]
  by_cases h11 : isNm c = true
  · rw [if_pos h11]
    split
    · exact hno _
    · simp
  · rw [if_neg h11]; simp

theorem next_kind (bs : List Nat) (p : Nat) (last : Bool) : (nextO bs p last).2.kind ≤ 6 := by
  unfold nextO
  split
  · simp [noT]
  · exact tok_kind _ _ _ _

theorem esc_len (last : Bool) (l : List Nat) : (escO last l).2.1.toList.length ≤ 1 := by
  cases (escO last l).2.1 <;> simp

theorem txtO_len (last : Bool) : ∀ (n : Nat) (l : List Nat) (deep : Nat) (out : List Nat) (p : Nat), l.length ≤ n → (txtO last deep out p l).2.1.length ≤ out.length + l.length := by
  intro n
  induction n with
  | zero =>
    intro l deep out p hn
    obtain rfl : l = [] := List.length_eq_zero_iff.1 (by omega)
    rw [txtO_nil]
    exact Nat.zero_le _
  | succ n ih =>
    intro l deep out p hn
    cases l with
    | nil => rw [txtO_nil]; exact Nat.zero_le _
    | cons c l =>
      have hl : l.length ≤ n := by simp only [List.length_cons] at hn; omega
      simp only [List.length_cons]
      rw [txtO_cons]
      have he := esc_len last l
      have h1 : ∀ x : Nat, (out ++ [x]).length = out.length + 1 := fun x => by simp
      split
      · split
        · exact Nat.zero_le _
        · have := ih (l.drop (escO last l).2.2) deep (out ++ (escO last l).2.1.toList) (p + 1 + (escO last l).2.2) (by rw [List.length_drop]; omega)
          rw [List.length_append, List.length_drop] at this
          omega
      · split
        · split
          · exact Nat.zero_le _
          · split
            · have := ih (l.drop 1) deep (out ++ [10]) (p + 2) (by rw [List.length_drop]; omega)
              rw [h1, List.length_drop] at this
              omega
            · have := ih l deep (out ++ [10]) (p + 1) hl
              rw [h1] at this
              omega
        · split
          · have := ih l (deep + 1) (out ++ [40]) (p + 1) hl
            rw [h1] at this
            omega
          · split
            · split
              · show out.length ≤ _; omega
              · have := ih l (deep - 1) (out ++ [41]) (p + 1) hl
                rw [h1] at this
                omega
            · have := ih l deep (out ++ [c]) (p + 1) hl
              rw [h1] at this
              omega

theorem pairs_len : ∀ ds : List Nat, (pairs ds).length ≤ ds.length
  | [] => Nat.le_refl _
  | [a] => Nat.le_refl _
  | a :: b :: l => by
    have := pairs_len l
    rw [pairs, List.length_cons, List.length_cons, List.length_cons]
    omega

theorem hexO_len (last : Bool) : ∀ (l ds : List Nat) (p : Nat), (hexO last ds p l).2.1.length ≤ ds.length + l.length := by
  intro l
  induction l with
  | nil => intro ds p; exact Nat.zero_le _
  | cons c l ih =>
    intro ds p
    simp only [hexO, List.length_cons]
    split
    · have := pairs_len ds; simp only []; omega
    · split
      · have := ih ds (p + 1); omega
      · split
        · exact Nat.zero_le _
        · next d _ =>
          have := ih (ds ++ [d]) (p + 1)
          rw [List.length_append, List.length_singleton] at this
          omega

theorem nameF_small : ∀ (n : Nat) (l o : List Nat), l.length ≤ n → (∀ x ∈ l, x < 256) → nameF l = some o → o.length ≤ l.length ∧ ∀ x ∈ o, x < 256 := by
  intro n
  induction n with
  | zero =>
    intro l o hn hb h
    obtain rfl : l = [] := List.length_eq_zero_iff.1 (by omega)
    simp [nameF] at h
    subst h
    exact ⟨Nat.le_refl _, fun x hx => by cases hx⟩
  | succ n ih =>
    intro l o hn hb h
    match l, hn, hb, h with
    | [], _, _, h =>
      simp [nameF] at h
      subst h
      exact ⟨Nat.le_refl _, fun x hx => by cases hx⟩
    | [c], hn, hb, h =>
      unfold nameF at h
      by_cases hc : c ≠ 35
      · rw [if_pos hc] at h
        simp [nameF] at h
        subst h
        exact ⟨Nat.le_refl _, fun x hx => hb x hx⟩
      · rw [if_neg hc] at h; cases h
    | [c, x], hn, hb, h =>
      unfold nameF at h
      by_cases hc : c ≠ 35
      · rw [if_pos hc] at h
        obtain ⟨o', h1, h2⟩ := Option.map_eq_some_iff.1 h
        obtain ⟨h3, h4⟩ := ih [x] o' (by simp only [List.length_cons] at hn ⊢; omega) (fun z hz => hb z (List.mem_cons_of_mem _ hz)) h1
        subst h2
        refine ⟨by simp only [List.length_cons] at h3 ⊢; omega, fun z hz => ?_⟩
        rcases List.mem_cons.1 hz with rfl | hz
        · exact hb _ (List.mem_cons_self ..)
        · exact h4 z hz
      · rw [if_neg hc] at h; cases h
    | c :: x :: y :: m, hn, hb, h =>
      unfold nameF at h
      by_cases hc : c ≠ 35
      · rw [if_pos hc] at h
        obtain ⟨o', h1, h2⟩ := Option.map_eq_some_iff.1 h
        obtain ⟨h3, h4⟩ := ih (x :: y :: m) o' (by simp only [List.length_cons] at hn ⊢; omega) (fun z hz => hb z (List.mem_cons_of_mem _ hz)) h1
        subst h2
        refine ⟨by simp only [List.length_cons] at h3 ⊢; omega, fun z hz => ?_⟩
        rcases List.mem_cons.1 hz with rfl | hz
        · exact hb _ (List.mem_cons_self ..)
        · exact h4 z hz
      · rw [if_neg hc] at h
        simp only [] at h
        cases hx : hexD x with
        | none => rw [hx] at h; cases h
        | some a =>
          cases hy : hexD y with
          | none => rw [hx, hy] at h; cases h
          | some b =>
            rw [hx, hy] at h
            simp only [] at h
            obtain ⟨o', h1, h2⟩ := Option.map_eq_some_iff.1 h
            obtain ⟨h3, h4⟩ := ih m o' (by simp only [List.length_cons] at hn; omega) (fun z hz => hb z (by simp [hz])) h1
            subst h2
            have ha := hexD_lt hx
            have hbb := hexD_lt hy
            refine ⟨by simp only [List.length_cons]; omega, fun z hz => ?_⟩
            rcases List.mem_cons.1 hz with rfl | hz
            · omega
            · exact h4 z hz

/-- What a token of a value is. -/
def TokV (N : Nat) (t : Tkn) : Prop := t.vs.length ≤ N ∧ ((t.vk = 4 ∧ t.vn = 0) ∨ (t.vk = 5 ∧ t.vn = 0 ∧ textO (sb t.vs)) ∨ (t.vk = 2 ∧ t.vs = [] ∧ t.vn.natAbs ≤ 2147483647) ∨ (t.vk = 3 ∧ t.vs = [] ∧ t.vn.natAbs ≤ 2147483647 * 1000000))

theorem tok_val (last : Bool) (p c : Nat) (l : List Nat) (hb : ∀ x ∈ l, x < 256) (h : (tokO last p c l).1 = 0) (hk : (tokO last p c l).2.kind = 1) : TokV l.length (tokO last p c l).2 := by
  unfold tokO at h hk ⊢
  by_cases h1 : c = 91
  · rw [if_pos h1] at hk; cases hk
  rw [if_neg h1] at h hk ⊢
  by_cases h2 : c = 93
  · rw [if_pos h2] at hk; cases hk
  rw [if_neg h2] at h hk ⊢
  by_cases h3 : c = 60 ∧ l.head? = some 60
  · rw [if_pos h3] at hk; cases hk
  rw [if_neg h3] at h hk ⊢
  by_cases h4 : c = 62 ∧ l.head? = some 62
  · rw [if_pos h4] at hk; cases hk
  rw [if_neg h4] at h hk ⊢
  by_cases h5 : c = 62 ∧ l = [] ∧ last = false
  · rw [if_pos h5] at h; cases h
  rw [if_neg h5] at h hk ⊢
  by_cases h6 : c = 60
  · rw [if_pos h6] at h hk ⊢
    by_cases h9 : (hexO last [] (p + 1) l).1 ≠ 0
    · rw [if_pos h9] at h; exact absurd h h9
    · rw [if_neg h9]
      have := hexO_len last l [] (p + 1)
      exact ⟨by simpa using this, .inl ⟨rfl, rfl⟩⟩
  rw [if_neg h6] at h hk ⊢
  by_cases h7 : c = 40
  · rw [if_pos h7] at h hk ⊢
    by_cases h9 : (txtO last 1 [] (p + 1) l).1 ≠ 0
    · rw [if_pos h9] at h; exact absurd h h9
    · rw [if_neg h9]
      have := txtO_len last _ l 1 [] (p + 1) (Nat.le_refl _)
      exact ⟨by simpa using this, .inl ⟨rfl, rfl⟩⟩
  rw [if_neg h7] at h hk ⊢
  have hrl := rgs_le l
  by_cases h8 : c = 47
  · rw [if_pos h8] at h hk ⊢
    by_cases h9 : rgs l = l.length ∧ last = false
    · rw [if_pos h9] at h; cases h
    rw [if_neg h9] at h hk ⊢
    by_cases h10 : (nameO (l.take (rgs l))).1 ≠ 0
    · rw [if_pos h10] at h; exact absurd h h10
    rw [if_neg h10]
    unfold nameO at h10 ⊢
    cases hn : nameF (l.take (rgs l)) with
    | none => rw [hn] at h10; exact absurd (by decide) h10
    | some o =>
      rw [hn] at h10
      simp only [] at h10 ⊢
      by_cases h11 : 0 ∈ o ∨ 127 < o.length
      · rw [if_pos h11] at h10; exact absurd (by decide) h10
      rw [if_neg h11]
      obtain ⟨h12, h13⟩ := nameF_small _ _ o (Nat.le_refl _) (fun x hx => hb x (List.mem_of_mem_take hx)) hn
      rw [List.length_take] at h12
      refine ⟨by simp only []; omega, .inr (.inl ⟨rfl, rfl, ?_⟩)⟩
      simp only []
      refine ⟨fun d hd => ?_, by rw [sb_size]; omega⟩
      rw [sl_sb o h13] at hd
      intro e
      subst e
      exact h11 (.inl hd)
  rw [if_neg h8] at h hk ⊢
  by_cases h9 : isDl c = true
  · rw [if_pos h9] at h; cases h
  rw [if_neg h9] at h hk ⊢
  by_cases h10 : rgs l = l.length ∧ last = false
  · rw [if_pos h10] at h; cases h
  rw [if_neg h10] at h hk ⊢
  by_cases h11 : isNm c = true
  · rw [if_pos h11] at h hk ⊢
    by_cases h12 : (numOf ((c :: l).take (rgs l + 1))).1 ≠ 0
    · rw [if_pos h12] at h; exact absurd h h12
    rw [if_neg h12]
    obtain ⟨k, x, hx⟩ : ∃ k x, numOf ((c :: l).take (rgs l + 1)) = (0, k, x) := ⟨_, _, by rw [← Decidable.not_not.1 h12]⟩
    have := numOf_may hx
    rw [hx]
    refine ⟨Nat.zero_le _, ?_⟩
    rcases this with ⟨rfl, h⟩ | ⟨rfl, h⟩
    · exact .inr (.inr (.inl ⟨rfl, rfl, h⟩))
    · exact .inr (.inr (.inr ⟨rfl, rfl, h⟩))
  · rw [if_neg h11] at hk; cases hk

theorem next_val (bs : List Nat) (p : Nat) (last : Bool) (hb : ∀ x ∈ bs, x < 256) (h : (nextO bs p last).1 = 0) (hk : (nextO bs p last).2.kind = 1) : TokV bs.length (nextO bs p last).2 := by
  unfold nextO at h hk ⊢
  cases hc : bs.drop (p + skp false (bs.drop p)) with
  | nil => rw [hc] at hk; cases hk
  | cons c l =>
    rw [hc] at h hk
    simp only [] at h hk ⊢
    have hlen := congrArg List.length hc
    rw [List.length_drop, List.length_cons] at hlen
    have h1 := tok_val last _ c l (fun x hx => hb x (List.mem_of_mem_drop (by rw [hc]; exact List.mem_cons_of_mem _ hx))) h hk
    exact ⟨by have := h1.1; omega, h1.2⟩

theorem tokV_first {N : Nat} {t : Tkn} (h : TokV N t) : firstT (tokV t) = 0 ∧ depthT (tokV t) = 1 ∧ sizT (tokV t) = 1 := by
  obtain ⟨_, h⟩ := h
  have hnil : ∀ {vs : List Nat}, vs = [] → (sb vs).size = 0 := fun {vs} e => by rw [e]; rfl
  unfold tokV
  refine ⟨?_, ?_, by rw [sizT_mk]; rfl⟩
  · rw [firstT_mk]
    rcases h with ⟨h1, h2⟩ | ⟨h1, h2, h3⟩ | ⟨h1, h2, h3⟩ | ⟨h1, h2, h3⟩
    · have h0 : ownO 4 0 (sb t.vs) [] = 0 := by rw [own_4]; exact if_pos ⟨rfl, rfl⟩
      rw [h1, h2, show ((4 : Nat) : Int) = 4 from rfl, h0, if_neg (by decide), if_neg (by decide)]
    · have h0 : ownO 5 0 (sb t.vs) [] = 0 := by rw [own_5, if_neg (fun h => h h3)]; exact if_pos ⟨rfl, rfl⟩
      rw [h1, h2, show ((5 : Nat) : Int) = 5 from rfl, h0, if_neg (by decide), if_neg (by decide)]
    · have h0 : ownO 2 t.vn (sb t.vs) [] = 0 := by rw [own_2]; exact if_pos ⟨hnil h2, rfl, .inl ⟨rfl, by omega, by omega⟩⟩
      rw [h1, show ((2 : Nat) : Int) = 2 from rfl, h0, if_neg (by decide), if_neg (by decide)]
    · have h0 : ownO 3 t.vn (sb t.vs) [] = 0 := by rw [own_3]; exact if_pos ⟨hnil h2, rfl, .inr ⟨rfl, by omega, by omega⟩⟩
      rw [h1, show ((3 : Nat) : Int) = 3 from rfl, h0, if_neg (by decide), if_neg (by decide)]
  · rw [depthT, if_neg]
    rcases h with ⟨h1, _⟩ | ⟨h1, _⟩ | ⟨h1, _⟩ | ⟨h1, _⟩ <;> rw [h1] <;> decide

/-- From any place on. -/
noncomputable def runI (bs : List Nat) (last : Bool) (p : Int) (st : List (Int × List VT)) : Int × VT × Nat := if p < 0 ∨ (bs.length : Int) < p then (2, nilT, 0) else runO bs last p.toNat st

theorem actO_err {bs : List Nat} {last : Bool} {r : Int × Tkn} {st : List (Int × List VT)} (h : r.1 ≠ 0) : actO bs last r st = .done r.1 nilT 0 := by unfold actO; rw [if_pos h]

theorem runI_done {bs : List Nat} {last : Bool} {p : Int} {st : List (Int × List VT)} {er : Int} {v : VT} {tz : Nat} (h : actO bs last (nextA bs p last) st = .done er v tz) : runI bs last p st = (er, v, tz) := by
  unfold runI
  unfold nextA at h
  by_cases hp : p < 0 ∨ (bs.length : Int) < p
  · rw [if_pos hp] at h ⊢
    rw [actO_err (by decide)] at h
    cases h
    rfl
  · rw [if_neg hp] at h ⊢
    exact run_done h

theorem runI_next {bs : List Nat} {last : Bool} {p : Int} {q : Nat} {st st' : List (Int × List VT)} (h : actO bs last (nextA bs p last) st = .next q st') : runI bs last p st = runI bs last (q : Nat) st' ∧ p < q ∧ q ≤ bs.length ∧ 0 ≤ p := by
  unfold runI
  unfold nextA at h
  by_cases hp : p < 0 ∨ (bs.length : Int) < p
  · rw [if_pos hp, actO_err (by decide)] at h
    cases h
  · rw [if_neg hp] at h ⊢
    have hq := step_to (by omega) h
    rw [if_neg (by omega), run_next h hq, Int.toNat_natCast]
    exact ⟨rfl, by omega, hq.2, by omega⟩

end Go.Proofs.Ytaababegolfjeaa

/- The document's own small functions of words of a file: space, delimiters, digits to the base 16, where regular bytes end, and where space and comments end. -/
namespace Go.Proofs.Ytaababegolfjeaa
open Go.RowKit
set_option linter.unusedVariables false
set_option linter.unusedSimpArgs false

theorem u8_ne {c k : Nat} (h : c ≠ k) : ((c : Int) == (k : Int)) = false := by simp; omega

theorem isSp_no {c : Nat} (h0 : c ≠ 0) (h1 : c ≠ 9) (h2 : c ≠ 10) (h3 : c ≠ 12) (h4 : c ≠ 13) (h5 : c ≠ 32) : isSp c = false := by simp [isSp, h0, h1, h2, h3, h4, h5]

theorem isDl_no {c : Nat} (h0 : c ≠ 40) (h1 : c ≠ 41) (h2 : c ≠ 60) (h3 : c ≠ 62) (h4 : c ≠ 91) (h5 : c ≠ 93) (h6 : c ≠ 123) (h7 : c ≠ 125) (h8 : c ≠ 47) (h9 : c ≠ 37) : isDl c = false := by simp [isDl, h0, h1, h2, h3, h4, h5, h6, h7, h8, h9]

/-- A digit to the base 16, or -1. -/
def hexI (c : Nat) : Int := match hexD c with
  | some d => (d : Nat)
  | none => -1

/-- Where space and comments end, from any place on. -/
def skipO (bs : List Nat) (p : Int) : Nat := if p < 0 then 0 else if p ≤ bs.length then p.toNat + skp false (bs.drop p.toNat) else bs.length

theorem skp_sp {c : Nat} (l : List Nat) (h : isSp c = true) : skp false (c :: l) = skp false l + 1 := by rw [skp, if_pos h]

theorem skp_37 (l : List Nat) : skp false (37 :: l) = skp true (37 :: l) := by simp [skp, isSp]

theorem skp_no {c : Nat} (l : List Nat) (h : isSp c = false) (h2 : c ≠ 37) : skp false (c :: l) = 0 := by rw [skp, if_neg (by rw [h]; decide), if_neg h2]

theorem skp_com {c : Nat} (l : List Nat) (h1 : c ≠ 10) (h2 : c ≠ 13) : skp true (c :: l) = skp true l + 1 := by
  have e : (!(c == 10 || c == 13)) = true := by simp [h1, h2]
  rw [skp, e]

theorem skp_eol {c : Nat} (l : List Nat) (h : c = 10 ∨ c = 13) : skp true (c :: l) = skp false (c :: l) := by
  rcases h with rfl | rfl <;> simp [skp, isSp]

end Go.Proofs.Ytaababegolfjeaa

/- The reader of a file's words: a block of the call's own that bears a builder of bytes, the bytes that came in, a place, and whether they are the last ones. -/
namespace Go.Proofs.Ytaababegolfjeaa
open Go.RowKit
set_option linter.unusedVariables false
set_option linter.unusedSimpArgs false

/-- Of the blocks that are known whole, and are neither R nor rows of bytes, none has changed. -/
def KB (R : Nat) (V W : World) : Prop := ∀ g T cs, g ≠ R → T ≠ 5 → Blk V g T cs → Blk W g T cs

theorem KB.refl (R : Nat) (V : World) : KB R V V := fun _ _ _ _ _ h => h

theorem KB.trans {R : Nat} {V W X : World} (h : KB R V W) (k : KB R W X) : KB R V X := fun g T cs a b c => k g T cs a b (h g T cs a b c)

theorem KB.chg {R : Nat} {V W : World} (h : Chg NoS V W) : KB R V W := fun _ _ _ _ _ c => c.chg h (fun h => h)

theorem KB.set {R : Nat} {V W : World} (h : KB R V W) (i : Nat) (u : Value) : KB R V (W.setCell ⟨R, i, none⟩ u) := fun g T cs a b c => (h g T cs a b c).far (p := ⟨R, i, none⟩) a u

theorem KB.grown {R : Nat} {V W W' : World} {base : Nat} {v : Value} {m : Nat} {xs : List Value} (h : KB R V W) (ho : W.ownsRow base 5 1 v m xs) (hg : W.grownBy W' v.ownBlock) : KB R V W' :=
  fun g T cs a b c => (h g T cs a b c).grown hg (own_ne_blk ho (h g T cs a b c) (Ne.symm b)).symm

/-- The reader's cells. -/
def rcl (q : Value) (A2 : Option Addr) (n2 c2 : Nat) (A : Option Addr) (n c p : Nat) (last : Bool) : Array Value :=
  #[q, .slice A2 n2 c2, .slice A n c, .int .i64 (p : Nat), .bool last]

/-- The reader of n bytes in the block R: it stands at p, and has put together the bytes out. -/
structure RDx (V w W : World) (A : Option Addr) (n c : Nat) (last : Bool) (R p : Nat) (out : List Nat) (q : Value) (A2 : Option Addr) (c2 : Nat) : Prop where
  blk : Blk W R 58 (rcl q A2 out.length c2 A n c p last)
  used : q = .pointer none ∨ q = .pointer (some ⟨R, 0, none⟩)
  own : W.ownsRow w.heap.size 5 1 (.slice A2 out.length c2) out.length (lcells out)
  chg : Chg NoS w W
  new : w.heap.size ≤ R
  kb : KB R V W

def RD (V w W : World) (A : Option Addr) (n c : Nat) (last : Bool) (R p : Nat) (out : List Nat) : Prop := ∃ q A2 c2, RDx V w W A n c last R p out q A2 c2

section
variable {V w W W' : World} {A A2 : Option Addr} {n c R p c2 : Nat} {last : Bool} {out : List Nat} {q : Value}
theorem RDx.cells (h : RDx V w W A n c last R p out q A2 c2) : W.cell? ⟨R, 0, none⟩ = some q ∧ W.cell? ⟨R, 1, none⟩ = some (.slice A2 out.length c2) ∧ W.cell? ⟨R, 2, none⟩ = some (.slice A n c) ∧ W.cell? ⟨R, 3, none⟩ = some (.int .i64 (p : Nat)) ∧ W.cell? ⟨R, 4, none⟩ = some (.bool last) := by
  refine ⟨?_, ?_, ?_, ?_, ?_⟩ <;> (rw [h.blk.cell]; rfl)
theorem RDx.frozen (h : RDx V w W A n c last R p out q A2 c2) (i : Nat) : W.frozen? ⟨R, i, none⟩ = false := h.blk.frozen i
theorem RDx.shape (h : RDx V w W A n c last R p out q A2 c2) : W.shape? R = some (58, 5) := by
  have h' : W.heap[R]? = some (.cells (rcl q A2 out.length c2 A n c p last) 58 (0, 0)) := h.blk
  simp [World.shape?, h', rcl]
theorem RDx.neq (h : RDx V w W A n c last R p out q A2 c2) : (Value.slice A2 out.length c2).ownBlock ≠ some R := own_ne_blk h.own h.blk (by decide)
theorem own_kept {g : Nat} {u : Value} {i base : Nat} {e : TypeId} {v : Value} {m : Nat} {xs : List Value} (h : W.ownsRow base e 1 v m xs) (hne : v.ownBlock ≠ some g) : (W.setCell ⟨g, i, none⟩ u).ownsRow base e 1 v m xs :=
  own_chg (S := fun k => k = g) h ((Chg.refl (fun k => k = g) W).setCell (p := ⟨g, i, none⟩) (fun _ => rfl) u) (fun k hk e => hne (by rw [hk, e]))
/-- It goes on to another place. -/
theorem RDx.at_ (h : RDx V w W A n c last R p out q A2 c2) (p' : Nat) : RDx V w (W.setCell ⟨R, 3, none⟩ (.int .i64 (p' : Nat))) A n c last R p' out q A2 c2 :=
  ⟨h.blk.set_ 3 _, h.used, own_kept h.own h.neq, h.chg.setCell (p := ⟨R, 3, none⟩) (fun e => absurd e (Nat.not_lt.2 h.new)) _, h.new, h.kb.set _ _⟩
/-- The builder knows itself. -/
theorem RDx.use (h : RDx V w W A n c last R p out q A2 c2) : RDx V w (W.setCell ⟨R, 0, none⟩ (.pointer (some ⟨R, 0, none⟩))) A n c last R p out (.pointer (some ⟨R, 0, none⟩)) A2 c2 :=
  ⟨h.blk.set_ 0 _, .inr rfl, own_kept h.own h.neq, h.chg.setCell (p := ⟨R, 0, none⟩) (fun e => absurd e (Nat.not_lt.2 h.new)) _, h.new, h.kb.set _ _⟩
theorem RDx.call (h : RDx V w W A n c last R p out q A2 c2) (hc : Chg NoS W W') : RDx V w W' A n c last R p out q A2 c2 :=
  ⟨h.blk.chg hc (fun h => h), h.used, own_chg (S := NoS) h.own hc (fun _ _ e => e), h.chg.trans hc (fun _ _ e => e), h.new, h.kb.trans (KB.chg hc)⟩
theorem RDx.drew (h : RDx V w W A n c last R p out q A2 c2) : RDx V w W.drew A n c last R p out q A2 c2 := h.call ((Chg.refl _ _).drew)
theorem RDx.drewN (h : RDx V w W A n c last R p out q A2 c2) (k : Nat) : RDx V w (W.drewN k) A n c last R p out q A2 c2 := h.call ((Chg.refl _ _).drewN k)
theorem RDx.alloc (h : RDx V w W A n c last R p out q A2 c2) (o : Obj) : RDx V w (W.alloc o) A n c last R p out q A2 c2 := h.call ((Chg.refl _ _).alloc o)
/-- A row that has grown is laid into it. -/
theorem RDx.grow {A3 : Option Addr} {c3 : Nat} {out' : List Nat} (h : RDx V w W A n c last R p out q A2 c2) (hg : W.grownBy W' (Value.slice A2 out.length c2).ownBlock)
    (ho : W'.ownsRow w.heap.size 5 1 (.slice A3 out'.length c3) out'.length (lcells out')) : RDx V w (W'.setCell ⟨R, 1, none⟩ (.slice A3 out'.length c3)) A n c last R p out' q A3 c3 := by
  have hb : Blk W' R 58 (rcl q A2 out.length c2 A n c p last) := h.blk.grown hg h.neq.symm
  have hne : (Value.slice A3 out'.length c3).ownBlock ≠ some R := own_ne_blk ho hb (by decide)
  refine ⟨hb.set_ 1 _, h.used, own_kept ho hne, ?_, h.new, (h.kb.grown h.own hg).set _ _⟩
  exact (h.chg.grown hg (fun k hk e => absurd e (Nat.not_lt.2 (h.own.lt k hk).1))).setCell (p := ⟨R, 1, none⟩) (fun e => absurd e (Nat.not_lt.2 h.new)) _
theorem RDx.at_cells (h : RDx V w W A n c last R p out q A2 c2) (hg : W.grownBy W' (Value.slice A2 out.length c2).ownBlock) : W'.cell? ⟨R, 0, none⟩ = some q ∧ W'.cell? ⟨R, 1, none⟩ = some (.slice A2 out.length c2) ∧ W'.frozen? ⟨R, 1, none⟩ = false := by
  have hb : Blk W' R 58 (rcl q A2 out.length c2 A n c p last) := h.blk.grown hg h.neq.symm
  exact ⟨by rw [hb.cell]; rfl, by rw [hb.cell]; rfl, hb.frozen 1⟩
theorem RDx.rd (h : RDx V w W A n c last R p out q A2 c2) : RD V w W A n c last R p out := ⟨_, _, _, h⟩
theorem RD.chg (h : RD V w W A n c last R p out) : Chg NoS w W := by
  obtain ⟨_, _, _, h⟩ := h
  exact h.chg
theorem RD.new (h : RD V w W A n c last R p out) : w.heap.size ≤ R := by
  obtain ⟨_, _, _, h⟩ := h
  exact h.new
theorem RD.call (h : RD V w W A n c last R p out) (hc : Chg NoS W W') : RD V w W' A n c last R p out := by
  obtain ⟨_, _, _, h⟩ := h
  exact ⟨_, _, _, h.call hc⟩
theorem RD.drew (h : RD V w W A n c last R p out) : RD V w W.drew A n c last R p out := h.call ((Chg.refl _ _).drew)
theorem RD.drewN (h : RD V w W A n c last R p out) (k : Nat) : RD V w (W.drewN k) A n c last R p out := h.call ((Chg.refl _ _).drewN k)
theorem RD.alloc (h : RD V w W A n c last R p out) (o : Obj) : RD V w (W.alloc o) A n c last R p out := h.call ((Chg.refl _ _).alloc o)
theorem RD.at_ (h : RD V w W A n c last R p out) (p' : Nat) : RD V w (W.setCell ⟨R, 3, none⟩ (.int .i64 (p' : Nat))) A n c last R p' out := by
  obtain ⟨_, _, _, h⟩ := h
  exact ⟨_, _, _, h.at_ p'⟩
theorem RD.cells (h : RD V w W A n c last R p out) : W.cell? ⟨R, 2, none⟩ = some (.slice A n c) ∧ W.cell? ⟨R, 3, none⟩ = some (.int .i64 (p : Nat)) ∧ W.cell? ⟨R, 4, none⟩ = some (.bool last) ∧ W.frozen? ⟨R, 3, none⟩ = false := by
  obtain ⟨_, _, _, h⟩ := h
  exact ⟨h.cells.2.2.1, h.cells.2.2.2.1, h.cells.2.2.2.2, h.frozen 3⟩
theorem RD.kb (h : RD V w W A n c last R p out) : KB R V W := by
  obtain ⟨_, _, _, h⟩ := h
  exact h.kb
theorem RD.base {V' : World} (h : RD V w W A n c last R p out) (k : KB R V' W) : RD V' w W A n c last R p out := by
  obtain ⟨_, _, _, h⟩ := h
  exact ⟨_, _, _, h.blk, h.used, h.own, h.chg, h.new, k⟩
/-- From the world as it is on. -/
theorem RD.here (h : RD V w W A n c last R p out) : RD W w W A n c last R p out := h.base (KB.refl _ _)
theorem RD.lt (h : RD V w W A n c last R p out) : R < W.heap.size := by
  obtain ⟨_, _, _, h⟩ := h
  exact h.blk.lt
end

/-- What is left of it at the end: its place. -/
structure RE (V w W : World) (R p : Nat) : Prop where
  cell : W.cell? ⟨R, 3, none⟩ = some (.int .i64 (p : Nat))
  chg : Chg NoS w W
  kb : KB R V W

theorem RD.re {V w W : World} {A : Option Addr} {n c R p : Nat} {last : Bool} {out : List Nat} (h : RD V w W A n c last R p out) : RE V w W R p := ⟨h.cells.2.1, h.chg, h.kb⟩

theorem RE.call {V w W W' : World} {R p : Nat} (h : RE V w W R p) (hc : Chg NoS W W') : RE V w W' R p :=
  ⟨(hc.cell (p := ⟨R, 3, none⟩) (cell_lt h.cell) (fun h => h)).trans h.cell, h.chg.trans hc (fun _ _ e => e), h.kb.trans (KB.chg hc)⟩

theorem RE.back {V V' w W : World} {R p : Nat} (h : RE V w W R p) (k : KB R V' V) : RE V' w W R p := ⟨h.cell, h.chg, k.trans h.kb⟩

/-- Bytes that are frozen in a block of the call's own. -/
theorem Chg.freeze {w W : World} (h : Chg NoS w W) {g : Nat} (hg : w.heap.size ≤ g) (n : Nat) : Chg NoS w (W.freeze ⟨g, 0, none⟩ n) := by
  have hb := Lib.below_freeze (B := w.heap.size) h.no_below (p := ⟨g, 0, none⟩) hg n
  exact Chg.of_below hb

theorem freeze_cell {W : World} {g R i : Nat} (hne : R ≠ g) (n : Nat) : (W.freeze ⟨g, 0, none⟩ n).cell? ⟨R, i, none⟩ = W.cell? ⟨R, i, none⟩ := by
  unfold World.freeze
  split
  · rfl
  · simp only [World.cell?]
    rw [Array.getElem?_modify, if_neg (fun e => hne e.symm)]

theorem KB.far {R g : Nat} {V W : World} (h : KB R V W) (hg : V.heap.size ≤ g) (i : Nat) (u : Value) : KB R V (W.setCell ⟨g, i, none⟩ u) :=
  fun k T cs a b c => (h k T cs a b c).far (p := ⟨g, i, none⟩) (Nat.ne_of_lt (Nat.lt_of_lt_of_le c.lt hg)) u

theorem RE.far {V w W : World} {R p g : Nat} (h : RE V w W R p) (hR : g ≠ R) (hV : V.heap.size ≤ g) (hw : w.heap.size ≤ g) (i : Nat) (u : Value) : RE V w (W.setCell ⟨g, i, none⟩ u) R p := by
  refine ⟨?_, h.chg.setCell (p := ⟨g, i, none⟩) (fun e => absurd e (Nat.not_lt.2 hw)) u, h.kb.far hV i u⟩
  have e : (W.setCell ⟨g, i, none⟩ u).heap[R]? = W.heap[R]? := Below.heap_setCell W ⟨g, i, none⟩ u R (fun e => hR e.symm)
  exact (World.cell?_of_block (a := ⟨R, 3, none⟩) e).trans h.cell

theorem RE.set4 {V w W : World} {R p g : Nat} (h : RE V w W R p) (hR : g ≠ R) (hV : V.heap.size ≤ g) (hw : w.heap.size ≤ g) (a b c d : Value) :
    RE V w ((((W.setCell ⟨g, 0, none⟩ a).setCell ⟨g, 1, none⟩ b).setCell ⟨g, 2, none⟩ c).setCell ⟨g, 3, none⟩ d) R p :=
  (((h.far hR hV hw 0 a).far hR hV hw 1 b).far hR hV hw 2 c).far hR hV hw 3 d

theorem RE.set8 {V w W : World} {R p g : Nat} (h : RE V w W R p) (hR : g ≠ R) (hV : V.heap.size ≤ g) (hw : w.heap.size ≤ g) (a0 a1 a2 a3 a4 a5 a6 a7 : Value) :
    RE V w ((((((((W.setCell ⟨g, 0, none⟩ a0).setCell ⟨g, 1, none⟩ a1).setCell ⟨g, 2, none⟩ a2).setCell ⟨g, 3, none⟩ a3).setCell ⟨g, 4, none⟩ a4).setCell ⟨g, 5, none⟩ a5).setCell ⟨g, 6, none⟩ a6).setCell ⟨g, 7, none⟩ a7) R p :=
  (((((((h.far hR hV hw 0 a0).far hR hV hw 1 a1).far hR hV hw 2 a2).far hR hV hw 3 a3).far hR hV hw 4 a4).far hR hV hw 5 a5).far hR hV hw 6 a6).far hR hV hw 7 a7

/-- A block of the call's own whose four, or eight, cells are told. -/
structure Cl4 (W : World) (g : Nat) (T : TypeId) (a b c d : Value) : Prop where
  c0 : W.cell? ⟨g, 0, none⟩ = some a
  c1 : W.cell? ⟨g, 1, none⟩ = some b
  c2 : W.cell? ⟨g, 2, none⟩ = some c
  c3 : W.cell? ⟨g, 3, none⟩ = some d
  f0 : W.frozen? ⟨g, 0, none⟩ = false
  f1 : W.frozen? ⟨g, 1, none⟩ = false
  f2 : W.frozen? ⟨g, 2, none⟩ = false
  f3 : W.frozen? ⟨g, 3, none⟩ = false

theorem Blk.cl4 {W : World} {g : Nat} {T : TypeId} {a b c d : Value} (h : Blk W g T #[a, b, c, d]) : Cl4 W g T a b c d :=
  ⟨(h.cell 0).trans rfl, (h.cell 1).trans rfl, (h.cell 2).trans rfl, (h.cell 3).trans rfl, h.frozen 0, h.frozen 1, h.frozen 2, h.frozen 3⟩

structure Cl8 (W : World) (g : Nat) (T : TypeId) (a0 a1 a2 a3 a4 a5 a6 a7 : Value) : Prop where
  c0 : W.cell? ⟨g, 0, none⟩ = some a0
  c1 : W.cell? ⟨g, 1, none⟩ = some a1
  c2 : W.cell? ⟨g, 2, none⟩ = some a2
  c3 : W.cell? ⟨g, 3, none⟩ = some a3
  c4 : W.cell? ⟨g, 4, none⟩ = some a4
  c5 : W.cell? ⟨g, 5, none⟩ = some a5
  c6 : W.cell? ⟨g, 6, none⟩ = some a6
  c7 : W.cell? ⟨g, 7, none⟩ = some a7
  f0 : W.frozen? ⟨g, 0, none⟩ = false
  f1 : W.frozen? ⟨g, 1, none⟩ = false
  f2 : W.frozen? ⟨g, 2, none⟩ = false
  f3 : W.frozen? ⟨g, 3, none⟩ = false
  f4 : W.frozen? ⟨g, 4, none⟩ = false
  f5 : W.frozen? ⟨g, 5, none⟩ = false
  f6 : W.frozen? ⟨g, 6, none⟩ = false
  f7 : W.frozen? ⟨g, 7, none⟩ = false

theorem Blk.cl8 {W : World} {g : Nat} {T : TypeId} {a0 a1 a2 a3 a4 a5 a6 a7 : Value} (h : Blk W g T #[a0, a1, a2, a3, a4, a5, a6, a7]) : Cl8 W g T a0 a1 a2 a3 a4 a5 a6 a7 :=
  ⟨(h.cell 0).trans rfl, (h.cell 1).trans rfl, (h.cell 2).trans rfl, (h.cell 3).trans rfl, (h.cell 4).trans rfl, (h.cell 5).trans rfl, (h.cell 6).trans rfl, (h.cell 7).trans rfl, h.frozen 0, h.frozen 1, h.frozen 2, h.frozen 3, h.frozen 4, h.frozen 5, h.frozen 6, h.frozen 7⟩

theorem KB.freeze {R : Nat} {V W : World} (h : KB R V W) {g : Nat} {cs : Array Value} {fz : Nat × Nat} (hg : W.heap[g]? = some (.cells cs 5 fz)) (n : Nat) : KB R V (W.freeze ⟨g, 0, none⟩ n) := by
  intro k T cs' a b c
  have h1 := h k T cs' a b c
  have hne : g ≠ k := by
    rintro rfl
    have h2 : W.heap[g]? = some (.cells cs' T (0, 0)) := h1
    rw [hg] at h2
    simp only [Option.some.injEq, Obj.cells.injEq] at h2
    exact b h2.2.1.symm
  have h2 : W.heap[k]? = some (.cells cs' T (0, 0)) := h1
  unfold World.freeze
  split
  · exact h1
  · show (W.heap.modify g _)[k]? = _
    rw [Array.getElem?_modify, if_neg hne]
    exact h2

end Go.Proofs.Ytaababegolfjeaa

/- The program's own small functions of words of a file: space, delimiters, digits to the base 16, what a byte behind a backslash is. -/
namespace Go.Proofs.Ytaababegolfjeaa
open Go.RowKit
set_option linter.unusedVariables false
set_option linter.unusedSimpArgs false

theorem pspace_any (c : Nat) (w : World) : Calls Try.prog 30 #[.int .u8 (c : Nat)] w fun e w' => e = .returned (.bool (isSp c)) ∧ w = w' := by
  by_cases h : c = 0 ∨ c = 9 ∨ c = 10 ∨ c = 12 ∨ c = 13 ∨ c = 32
  · rcases h with rfl | rfl | rfl | rfl | rfl | rfl
    all_goals
      go_enter Try.func30, Try.ntmps30
      go_wp2_with fail
      go_ret
      exact ⟨rfl, rfl⟩
  · have HS := keepf (isSp_no (c := c) (by omega) (by omega) (by omega) (by omega) (by omega) (by omega))
    have e0 : ((c : Int) == 0) = false := by simp; omega
    have e1 : ((c : Int) == 9) = false := by simp; omega
    have e2 : ((c : Int) == 10) = false := by simp; omega
    have e3 : ((c : Int) == 12) = false := by simp; omega
    have e4 : ((c : Int) == 13) = false := by simp; omega
    have e5 : ((c : Int) == 32) = false := by simp; omega
    clear h
    go_enter Try.func30, Try.ntmps30
    go_wp2_with fail
    go_ret
    exact ⟨by rw [HS.out]; rfl, rfl⟩

theorem pdelim_any (c : Nat) (w : World) : Calls Try.prog 64 #[.int .u8 (c : Nat)] w fun e w' => e = .returned (.bool (isDl c)) ∧ w = w' := by
  by_cases h : c = 40 ∨ c = 41 ∨ c = 60 ∨ c = 62 ∨ c = 91 ∨ c = 93 ∨ c = 123 ∨ c = 125 ∨ c = 47 ∨ c = 37
  · rcases h with rfl | rfl | rfl | rfl | rfl | rfl | rfl | rfl | rfl | rfl
    all_goals
      go_enter Try.func64, Try.ntmps64
      go_wp2_with fail
      go_ret
      exact ⟨rfl, rfl⟩
  · have HS := keepf (isDl_no (c := c) (by omega) (by omega) (by omega) (by omega) (by omega) (by omega) (by omega) (by omega) (by omega) (by omega))
    have e0 : ((c : Int) == 40) = false := by simp; omega
    have e1 : ((c : Int) == 41) = false := by simp; omega
    have e2 : ((c : Int) == 60) = false := by simp; omega
    have e3 : ((c : Int) == 62) = false := by simp; omega
    have e4 : ((c : Int) == 91) = false := by simp; omega
    have e5 : ((c : Int) == 93) = false := by simp; omega
    have e6 : ((c : Int) == 123) = false := by simp; omega
    have e7 : ((c : Int) == 125) = false := by simp; omega
    have e8 : ((c : Int) == 47) = false := by simp; omega
    have e9 : ((c : Int) == 37) = false := by simp; omega
    clear h
    go_enter Try.func64, Try.ntmps64
    go_wp2_with fail
    go_ret
    exact ⟨by rw [HS.out]; rfl, rfl⟩

/-- A digit to the base 16, and whether it is one. -/
def hexV (c : Nat) : Nat := (hexD c).getD 0

theorem hexV_lt (c : Nat) : hexV c < 16 := by
  unfold hexV
  cases h : hexD c with
  | none => decide
  | some d => exact hexD_lt h

theorem pdigit_any (c : Nat) (hc : c < 256) (w : World) : Calls Try.prog 50 #[.int .u8 (c : Nat)] w fun e w' => e = .returned (.tuple #[.int .u8 (hexV c : Nat), .bool (hexD c).isSome]) ∧ w = w' := by
  by_cases h1 : 48 ≤ c ∧ c ≤ 57
  · have HE := keepf (show hexD c = some (c - 48) from by unfold hexD; rw [if_pos h1])
    have HV := keepf (show (hexV c : Int) = (c : Int) - 48 from by unfold hexV; rw [HE.out]; simp only [Option.getD_some]; omega)
    obtain ⟨a, b⟩ := h1
    have d1 : IntKind.u8.wrap ((c : Int) - 48) = (c : Int) - 48 := by rw [IntKind.wrap_u8]; omega
    go_enter Try.func50, Try.ntmps50
    go_wp2_with fail
    go_ret2
    exact ⟨by rw [HE.out, HV.out]; rfl, rfl⟩
  by_cases h2 : 97 ≤ c ∧ c ≤ 102
  · have HE := keepf (show hexD c = some (c - 87) from by unfold hexD; rw [if_neg h1, if_pos h2])
    have HV := keepf (show (hexV c : Int) = (c : Int) - 97 + 10 from by unfold hexV; rw [HE.out]; simp only [Option.getD_some]; omega)
    have g1 : ¬ c ≤ 57 := by omega
    have d1 : IntKind.u8.wrap ((c : Int) - 97) = (c : Int) - 97 := by rw [IntKind.wrap_u8]; omega
    have d2 : IntKind.u8.wrap ((c : Int) - 97 + 10) = (c : Int) - 97 + 10 := by rw [IntKind.wrap_u8]; omega
    obtain ⟨a, b⟩ := h2
    clear h1
    go_enter Try.func50, Try.ntmps50
    go_wp2_with fail
    go_ret2
    exact ⟨by rw [HE.out, HV.out]; rfl, rfl⟩
  by_cases h3 : 65 ≤ c ∧ c ≤ 70
  · have HE := keepf (show hexD c = some (c - 55) from by unfold hexD; rw [if_neg h1, if_neg h2, if_pos h3])
    have HV := keepf (show (hexV c : Int) = (c : Int) - 65 + 10 from by unfold hexV; rw [HE.out]; simp only [Option.getD_some]; omega)
    have g1 : ¬ c ≤ 57 := by omega
    have g2 : ¬ 97 ≤ c := by omega
    have d1 : IntKind.u8.wrap ((c : Int) - 65) = (c : Int) - 65 := by rw [IntKind.wrap_u8]; omega
    have d2 : IntKind.u8.wrap ((c : Int) - 65 + 10) = (c : Int) - 65 + 10 := by rw [IntKind.wrap_u8]; omega
    obtain ⟨a, b⟩ := h3
    clear h1 h2
    go_enter Try.func50, Try.ntmps50
    go_wp2_with fail
    go_ret2
    exact ⟨by rw [HE.out, HV.out]; rfl, rfl⟩
  · have HE := keepf (show hexD c = none from by unfold hexD; rw [if_neg h1, if_neg h2, if_neg h3])
    have HV := keepf (show hexV c = 0 from by unfold hexV; rw [HE.out]; rfl)
    have m1 : (decide ((48 : Int) ≤ c) && decide ((c : Int) ≤ 57)) = false := by simp; omega
    have m2 : (decide ((97 : Int) ≤ c) && decide ((c : Int) ≤ 102)) = false := by simp; omega
    have m3 : (decide ((65 : Int) ≤ c) && decide ((c : Int) ≤ 70)) = false := by simp; omega
    go_enter Try.func50, Try.ntmps50
    by_cases k1 : 48 ≤ c
    · have k2 : ¬ c ≤ 57 := by omega
      by_cases k3 : 97 ≤ c
      · have k4 : ¬ c ≤ 102 := by omega
        have k5 : 65 ≤ c := by omega
        have k6 : ¬ c ≤ 70 := by omega
        clear h1 h2 h3 m1 m2 m3
        go_wp2_with fail
        go_ret2
        exact ⟨by rw [HE.out, HV.out]; rfl, rfl⟩
      · by_cases k5 : 65 ≤ c
        · have k6 : ¬ c ≤ 70 := by omega
          clear h1 h2 h3 m1 m2 m3
          go_wp2_with fail
          go_ret2
          exact ⟨by rw [HE.out, HV.out]; rfl, rfl⟩
        · clear h1 h2 h3 m1 m2 m3
          go_wp2_with fail
          go_ret2
          exact ⟨by rw [HE.out, HV.out]; rfl, rfl⟩
    · have k3 : ¬ 97 ≤ c := by omega
      have k5 : ¬ 65 ≤ c := by omega
      clear h1 h2 h3 m1 m2 m3
      go_wp2_with fail
      go_ret2
      exact ⟨by rw [HE.out, HV.out]; rfl, rfl⟩

/-- What a byte behind a backslash is. -/
def mnt (c : Nat) : Nat := if c = 110 then 10 else if c = 114 then 13 else if c = 116 then 9 else if c = 98 then 8 else if c = 102 then 12 else c

theorem mnt_lt {c : Nat} (h : c < 256) : mnt c < 256 := by
  unfold mnt
  repeat' split
  all_goals omega

theorem pmeant_any (c : Nat) (w : World) : Calls Try.prog 49 #[.int .u8 (c : Nat)] w fun e w' => e = .returned (.int .u8 (mnt c : Nat)) ∧ w = w' := by
  by_cases h : c = 110 ∨ c = 114 ∨ c = 116 ∨ c = 98 ∨ c = 102
  · rcases h with rfl | rfl | rfl | rfl | rfl
    all_goals
      go_enter Try.func49, Try.ntmps49
      go_wp2_with fail
      go_ret
      exact ⟨rfl, rfl⟩
  · have HE := keepf (show mnt c = c from by unfold mnt; rw [if_neg (by omega), if_neg (by omega), if_neg (by omega), if_neg (by omega), if_neg (by omega)])
    have e0 : ((c : Int) == 110) = false := by simp; omega
    have e1 : ((c : Int) == 114) = false := by simp; omega
    have e2 : ((c : Int) == 116) = false := by simp; omega
    have e3 : ((c : Int) == 98) = false := by simp; omega
    have e4 : ((c : Int) == 102) = false := by simp; omega
    clear h
    go_enter Try.func49, Try.ntmps49
    go_wp2_with fail
    go_ret
    exact ⟨by rw [HE.out]; rfl, rfl⟩

end Go.Proofs.Ytaababegolfjeaa

