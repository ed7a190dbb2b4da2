/- Unpacking as a machine of small steps: plain mathematics, no program. -/
import Derived.Test.YtbdnhhhagpgibaaGetH
namespace Go.Proofs.Ytbdnhhhagpgibaa
set_option linter.unusedVariables false
set_option linter.unusedSimpArgs false

/-- The fixed lengths. -/
def fixS : List Int := List.replicate 144 8 ++ (List.replicate 112 9 ++ (List.replicate 24 7 ++ List.replicate 8 8))
def fixD : List Int := List.replicate 30 5
/-- The order of lengths' lengths. -/
def order : List Nat := [16, 17, 18, 0, 8, 7, 9, 6, 10, 5, 11, 4, 12, 3, 13, 2, 14, 1, 15]

/-- A symbol's length, or distance: the number, and how many bits are put to it. -/
def lenOf (s : Nat) : Option (Nat × Nat) := if s < 257 ∨ 285 < s then none else if s < 265 then some (s - 254, 0) else if s = 285 then some (258, 0) else some (3 + (4 + (s - 261) % 4) * 2 ^ ((s - 261) / 4), (s - 261) / 4)
def distOf (s : Nat) : Option (Nat × Nat) := if 29 < s then none else if s < 4 then some (s + 1, 0) else some (1 + (2 + (s - 2) % 2) * 2 ^ ((s - 2) / 2), (s - 2) / 2)

/-- Bytes again, each from so far ahead. -/
def rep (far : Nat) : Nat → List Nat → List Nat
  | 0, out => out
  | n + 1, out => rep far n (out ++ [out.getD (out.length - far) 0])

/-- Where the machine is: at a block's head; in a block of kind 0, at its head, and with so many bytes left; in one of kind 2, at its head, with lengths of lengths to come, with n lengths to come; at a symbol; at a distance. -/
inductive Mode
  | head
  | stored (last : Nat)
  | plain (k last : Nat)
  | own (last : Nat)
  | kinds (todo : List Nat) (l : List Int) (n ns last : Nat)
  | lens (ls l : List Int) (n ns last : Nat)
  | coded (ls ds : List Int) (last : Nat)
  | dist (x : Nat) (ls ds : List Int) (last : Nat)
structure St where
  a : Nat
  out : List Nat
  m : Mode
inductive Res
  | err (k : Int)
  | ok (out : List Nat) (a : Nat)
abbrev Nx := Sum St Res

def stHead (bs : List Nat) (a : Nat) (out : List Nat) : Nx :=
  if 8 * bs.length < a + 3 then .inr (.err 10)
  else if numAt false bs (a + 1) 2 = 0 then .inl ⟨a + 3, out, .stored (numAt false bs a 1)⟩
  else if numAt false bs (a + 1) 2 = 1 then .inl ⟨a + 3, out, .coded fixS fixD (numAt false bs a 1)⟩
  else if numAt false bs (a + 1) 2 = 2 then .inl ⟨a + 3, out, .own (numAt false bs a 1)⟩
  else .inr (.err 11)
def stStored (bs : List Nat) (a : Nat) (out : List Nat) (last : Nat) : Nx :=
  if 8 * bs.length < (a + 7) / 8 * 8 + 32 then .inr (.err 10)
  else if numAt false bs ((a + 7) / 8 * 8 + 16) 16 ≠ numAt false bs ((a + 7) / 8 * 8) 16 ^^^ 65535 then .inr (.err 11)
  else .inl ⟨(a + 7) / 8 * 8 + 32, out, .plain (numAt false bs ((a + 7) / 8 * 8) 16) last⟩
def stPlain (bs : List Nat) (most a : Nat) (out : List Nat) (k last : Nat) : Nx :=
  if k = 0 then (if last = 0 then .inl ⟨a, out, .head⟩ else .inr (.ok out a))
  else if 8 * bs.length < a + 8 then .inr (.err 10)
  else if most ≤ out.length then .inr (.err 3)
  else .inl ⟨a + 8, out ++ [numAt false bs a 8], .plain (k - 1) last⟩
def stOwn (bs : List Nat) (a : Nat) (out : List Nat) (last : Nat) : Nx :=
  if 8 * bs.length < a + 14 then .inr (.err 10)
  else if 286 < 257 + numAt false bs a 5 ∨ 30 < 1 + numAt false bs (a + 5) 5 then .inr (.err 11)
  else .inl ⟨a + 14, out, .kinds (order.take (4 + numAt false bs (a + 10) 4)) (List.replicate 19 0) (257 + numAt false bs a 5 + (1 + numAt false bs (a + 5) 5)) (257 + numAt false bs a 5) last⟩
def stKinds (bs : List Nat) (a : Nat) (out : List Nat) (todo : List Nat) (l : List Int) (n ns last : Nat) : Nx :=
  match todo with
  | [] => if May l then .inl ⟨a, out, .lens l [] n ns last⟩ else .inr (.err 13)
  | s :: r => if 8 * bs.length < a + 3 then .inr (.err 10) else .inl ⟨a + 3, out, .kinds r (l.set s (numAt false bs a 3 : Nat)) n ns last⟩
def stEnd (a : Nat) (out : List Nat) (l : List Int) (ns last : Nat) : Nx :=
  if l.getD 256 0 = 0 then .inr (.err 11)
  else if ¬ May (l.take ns) then .inr (.err 13)
  else if ¬ May (l.drop ns) then .inr (.err 13)
  else .inl ⟨a, out, .coded (l.take ns) (l.drop ns) last⟩
/-- A run of lengths. -/
def stRun (b : Nat) (out : List Nat) (ls l : List Int) (n ns last times : Nat) (v : Int) : Nx :=
  if n - l.length < times then .inr (.err 11) else .inl ⟨b, out, .lens ls (l ++ List.replicate times v) n ns last⟩
def stLens (bs : List Nat) (a : Nat) (out : List Nat) (ls l : List Int) (n ns last s : Nat) (k : Int) : Nx :=
  if k ≠ 0 then .inr (.err k)
  else if s = 16 then (if 8 * bs.length < a + 2 then .inr (.err 10) else if l.length = 0 then .inr (.err 11) else stRun (a + 2) out ls l n ns last (3 + numAt false bs a 2) (l.getD (l.length - 1) 0))
  else if s = 17 then (if 8 * bs.length < a + 3 then .inr (.err 10) else stRun (a + 3) out ls l n ns last (3 + numAt false bs a 3) 0)
  else if s = 18 then (if 8 * bs.length < a + 7 then .inr (.err 10) else stRun (a + 7) out ls l n ns last (11 + numAt false bs a 7) 0)
  else stRun a out ls l n ns last 1 s
def stCoded (bs : List Nat) (most a : Nat) (out : List Nat) (ls ds : List Int) (last s : Nat) (k : Int) : Nx :=
  if k ≠ 0 then .inr (.err k)
  else if s = 256 then .inl ⟨a, out, .plain 0 last⟩
  else if s < 256 then (if most ≤ out.length then .inr (.err 3) else .inl ⟨a, out ++ [s], .coded ls ds last⟩)
  else match lenOf s with
    | none => .inr (.err 11)
    | some (x, n) => if 8 * bs.length < a + n then .inr (.err 10) else .inl ⟨a + n, out, .dist (x + numAt false bs a n) ls ds last⟩
def stDist (bs : List Nat) (most a : Nat) (out : List Nat) (x : Nat) (ls ds : List Int) (last s : Nat) (k : Int) : Nx :=
  if k ≠ 0 then .inr (.err k)
  else match distOf s with
    | none => .inr (.err 11)
    | some (y, n) =>
      if 8 * bs.length < a + n then .inr (.err 10)
      else if out.length < y + numAt false bs a n then .inr (.err 14)
      else if most - out.length < x then .inr (.err 3)
      else .inl ⟨a + n, rep (y + numAt false bs a n) x out, .coded ls ds last⟩

inductive Step (bs : List Nat) (most : Nat) : St → Nx → Prop
  | head {a out r} (e : stHead bs a out = r) : Step bs most ⟨a, out, .head⟩ r
  | stored {a out last r} (e : stStored bs a out last = r) : Step bs most ⟨a, out, .stored last⟩ r
  | plain {a out k last r} (e : stPlain bs most a out k last = r) : Step bs most ⟨a, out, .plain k last⟩ r
  | own {a out last r} (e : stOwn bs a out last = r) : Step bs most ⟨a, out, .own last⟩ r
  | kinds {a out todo l n ns last r} (e : stKinds bs a out todo l n ns last = r) : Step bs most ⟨a, out, .kinds todo l n ns last⟩ r
  | lensEnd {a out ls l n ns last r} (h : n ≤ l.length) (e : stEnd a out l ns last = r) : Step bs most ⟨a, out, .lens ls l n ns last⟩ r
  | lens {a out ls l n ns last s m k r} (h : l.length < n) (o : Out ls (leftBits false bs a) s m k) (e : stLens bs (a + m) out ls l n ns last s k = r) : Step bs most ⟨a, out, .lens ls l n ns last⟩ r
  | coded {a out ls ds last s m k r} (o : Out ls (leftBits false bs a) s m k) (e : stCoded bs most (a + m) out ls ds last s k = r) : Step bs most ⟨a, out, .coded ls ds last⟩ r
  | dist {a out x ls ds last s m k r} (o : Out ds (leftBits false bs a) s m k) (e : stDist bs most (a + m) out x ls ds last s k = r) : Step bs most ⟨a, out, .dist x ls ds last⟩ r

inductive Runs (bs : List Nat) (most : Nat) : St → Res → Prop
  | stop {s r} (h : Step bs most s (.inr r)) : Runs bs most s r
  | go {s t r} (h : Step bs most s (.inl t)) (k : Runs bs most t r) : Runs bs most s r

/-- What comes of t comes of s. -/
def Leads (bs : List Nat) (most : Nat) (s t : St) : Prop := ∀ r, Runs bs most t r → Runs bs most s r

section
variable {bs : List Nat} {most : Nat} {s t u : St} {r r' : Res} {x y : Nx}
theorem Leads.refl (s : St) : Leads bs most s s := fun _ h => h
theorem Leads.trans (h : Leads bs most s t) (k : Leads bs most t u) : Leads bs most s u := fun r hr => h r (k r hr)
theorem Leads.step (h : Step bs most s (.inl t)) : Leads bs most s t := fun _ k => .go h k
theorem Leads.then (h : Leads bs most s t) (k : Step bs most t (.inl u)) : Leads bs most s u := h.trans (.step k)
theorem Leads.stop (h : Leads bs most s t) (k : Step bs most t (.inr r)) : Runs bs most s r := h r (.stop k)

theorem Step.one (h : Step bs most s x) (k : Step bs most s y) : x = y := by
  cases h with
  | head e => cases k with | head e' => exact e.symm.trans e'
  | stored e => cases k with | stored e' => exact e.symm.trans e'
  | plain e => cases k with | plain e' => exact e.symm.trans e'
  | own e => cases k with | own e' => exact e.symm.trans e'
  | kinds e => cases k with | kinds e' => exact e.symm.trans e'
  | lensEnd h e =>
    cases k with
    | lensEnd h' e' => exact e.symm.trans e'
    | lens h' o' e' => omega
  | lens h o e =>
    cases k with
    | lensEnd h' e' => omega
    | lens h' o' e' =>
      obtain ⟨rfl, rfl, rfl⟩ := o.one o'
      exact e.symm.trans e'
  | coded o e =>
    cases k with
    | coded o' e' =>
      obtain ⟨rfl, rfl, rfl⟩ := o.one o'
      exact e.symm.trans e'
  | dist o e =>
    cases k with
    | dist o' e' =>
      obtain ⟨rfl, rfl, rfl⟩ := o.one o'
      exact e.symm.trans e'

theorem Runs.one (h : Runs bs most s r) : ∀ {r'}, Runs bs most s r' → r = r' := by
  induction h with
  | stop h =>
    intro r' k
    cases k with
    | stop h' => exact Sum.inr.inj (h.one h')
    | go h' k' => cases h.one h'
  | go h k ih =>
    intro r' k'
    cases k' with
    | stop h' => cases h.one h'
    | go h' k' =>
      cases h.one h'
      exact ih k'
end

theorem rep_len (far : Nat) : ∀ (n : Nat) (out : List Nat), (rep far n out).length = out.length + n
  | 0, out => rfl
  | n + 1, out => by rw [rep, rep_len far n]; simp; omega

/-- What comes of a step whose state goes on: the place goes on, the bytes become more, and no more than most. -/
theorem Step.mono {bs : List Nat} {most : Nat} {s t : St} (h : Step bs most s (.inl t)) : s.a ≤ t.a ∧ s.out.length ≤ t.out.length ∧ (s.out.length ≤ most → t.out.length ≤ most) := by
  cases h with
  | head e =>
    unfold stHead at e
    repeat' split at e
    all_goals first
      | cases e; done
      | (injection e with e; subst e; exact ⟨by simp, by simp, fun h => h⟩)
  | stored e =>
    unfold stStored at e
    repeat' split at e
    all_goals first
      | cases e; done
      | (injection e with e; subst e; exact ⟨by simp; omega, by simp, fun h => h⟩)
  | plain e =>
    unfold stPlain at e
    repeat' split at e
    all_goals first
      | cases e; done
      | (injection e with e; subst e; exact ⟨by simp, by simp, by simp; try omega⟩)
  | own e =>
    unfold stOwn at e
    repeat' split at e
    all_goals first
      | cases e; done
      | (injection e with e; subst e; exact ⟨by simp, by simp, fun h => h⟩)
  | kinds e =>
    unfold stKinds at e
    repeat' split at e
    all_goals first
      | cases e; done
      | (injection e with e; subst e; exact ⟨by simp, by simp, fun h => h⟩)
  | lensEnd h e =>
    unfold stEnd at e
    repeat' split at e
    all_goals first
      | cases e; done
      | (injection e with e; subst e; exact ⟨by simp, by simp, fun h => h⟩)
  | lens h o e =>
    unfold stLens stRun at e
    repeat' split at e
    all_goals first
      | cases e; done
      | (injection e with e; subst e; exact ⟨by simp; try omega, by simp, fun h => h⟩)
  | coded o e =>
    unfold stCoded at e
    repeat' split at e
    all_goals first
      | cases e; done
      | (injection e with e; subst e; exact ⟨by simp; try omega, by simp, by simp; try omega⟩)
  | dist o e =>
    unfold stDist at e
    repeat' split at e
    all_goals first
      | cases e; done
      | (injection e with e; subst e; exact ⟨by simp; omega, by simp [rep_len], by simp [rep_len]; omega⟩)

theorem Step.last {bs : List Nat} {most : Nat} {s : St} {out : List Nat} {a : Nat} (h : Step bs most s (.inr (.ok out a))) : s.a = a ∧ s.out = out ∧ ∃ l, l ≠ 0 ∧ s.m = .plain 0 l := by
  cases h with
  | head e => unfold stHead at e; repeat' split at e
              all_goals cases e
  | stored e => unfold stStored at e; repeat' split at e
                all_goals cases e
  | plain e =>
    unfold stPlain at e
    repeat' split at e
    all_goals first
      | (rename_i h1 h2; subst h1; cases e; exact ⟨rfl, rfl, _, h2, rfl⟩)
      | cases e
  | own e => unfold stOwn at e; repeat' split at e
             all_goals cases e
  | kinds e => unfold stKinds at e; repeat' split at e
               all_goals cases e
  | lensEnd h e => unfold stEnd at e; repeat' split at e
                   all_goals cases e
  | lens h o e => unfold stLens stRun at e; repeat' split at e
                  all_goals cases e
  | coded o e => unfold stCoded at e; repeat' split at e
                 all_goals cases e
  | dist o e => unfold stDist at e; repeat' split at e
                all_goals cases e

theorem Runs.mono {bs : List Nat} {most : Nat} {s : St} {out : List Nat} {a : Nat} (h : Runs bs most s (.ok out a)) : s.a ≤ a ∧ s.out.length ≤ out.length ∧ (s.out.length ≤ most → out.length ≤ most) := by
  generalize hr : Res.ok out a = r at h
  induction h with
  | stop h =>
    subst hr
    obtain ⟨h1, h2, _⟩ := h.last
    subst h1 h2
    exact ⟨Nat.le_refl _, Nat.le_refl _, fun h => h⟩
  | go h k ih =>
    obtain ⟨h1, h2, h3⟩ := h.mono
    obtain ⟨k1, k2, k3⟩ := ih hr
    exact ⟨by omega, by omega, fun h => k3 (h3 h)⟩

/-- With a greater most the same comes, but where there was too much. -/
theorem Step.more {bs : List Nat} {most most' : Nat} {s : St} {x : Nx} (hm : most ≤ most') (h : Step bs most s x) (hx : x ≠ .inr (.err 3)) : Step bs most' s x := by
  cases h with
  | head e => exact .head e
  | stored e => exact .stored e
  | @plain a out k last _ e =>
    refine .plain ?_
    subst e
    unfold stPlain at hx ⊢
    split
    · rfl
    · rename_i h1
      rw [if_neg h1] at hx
      split
      · rfl
      · rename_i h2
        rw [if_neg h2] at hx
        by_cases h3 : most ≤ out.length
        · rw [if_pos h3] at hx; exact absurd rfl hx
        · rw [if_neg h3, if_neg (by omega)]
  | own e => exact .own e
  | kinds e => exact .kinds e
  | lensEnd h e => exact .lensEnd h e
  | lens h o e => exact .lens h o e
  | @coded a out ls ds last s m k _ o e =>
    refine .coded o ?_
    subst e
    unfold stCoded at hx ⊢
    split
    · rfl
    · split
      · rfl
      · split
        · rename_i h1 h2 h3
          rw [if_neg h1, if_neg h2, if_pos h3] at hx
          by_cases h4 : most ≤ out.length
          · rw [if_pos h4] at hx; exact absurd rfl hx
          · rw [if_neg h4, if_neg (by omega)]
        · rfl
  | @dist a out x ls ds last s m k _ o e =>
    refine .dist o ?_
    subst e
    unfold stDist at hx ⊢
    split
    · rfl
    · rename_i h1
      rw [if_neg h1] at hx
      split
      · rfl
      · rename_i y n h2
        rw [h2] at hx
        simp only at hx ⊢
        split
        · rfl
        · rename_i h3
          rw [if_neg h3] at hx
          split
          · rfl
          · rename_i h4
            rw [if_neg h4] at hx
            by_cases h5 : most - out.length < x
            · rw [if_pos h5] at hx; exact absurd rfl hx
            · rw [if_neg h5, if_neg (by omega)]

theorem Runs.more {bs : List Nat} {most most' : Nat} {s : St} {r : Res} (hm : most ≤ most') (h : Runs bs most s r) (hr : r ≠ .err 3) : Runs bs most' s r := by
  induction h with
  | stop h => exact .stop (h.more hm (fun e => hr (Sum.inr.inj e)))
  | go h k ih => exact .go (h.more hm (fun e => by cases e)) (ih hr)

/-- What comes with a greater most, and is no more than a lesser one, comes with that, too. -/
theorem Step.less {bs : List Nat} {most most' : Nat} {s t : St} (hl : t.out.length ≤ most) (hm : most ≤ most') (h : Step bs most' s (.inl t)) : Step bs most s (.inl t) := by
  cases h with
  | head e => exact .head e
  | stored e => exact .stored e
  | plain e =>
    refine .plain ?_
    unfold stPlain at e ⊢
    split
    · rename_i h1; rw [if_pos h1] at e; exact e
    · rename_i h1
      rw [if_neg h1] at e
      split
      · rename_i h2; rw [if_pos h2] at e; exact e
      · rename_i h2
        rw [if_neg h2] at e
        split at e
        · cases e
        · injection e with e
          subst e
          rw [if_neg]
          simp at hl
          omega
  | own e => exact .own e
  | kinds e => exact .kinds e
  | lensEnd h e => exact .lensEnd h e
  | lens h o e => exact .lens h o e
  | coded o e =>
    refine .coded o ?_
    unfold stCoded at e ⊢
    split
    · rename_i h1; rw [if_pos h1] at e; exact e
    · rename_i h1
      rw [if_neg h1] at e
      split
      · rename_i h2; rw [if_pos h2] at e; exact e
      · rename_i h2
        rw [if_neg h2] at e
        split
        · rename_i h3
          rw [if_pos h3] at e
          split at e
          · cases e
          · injection e with e
            subst e
            rw [if_neg]
            simp at hl
            omega
        · rename_i h3; rw [if_neg h3] at e; exact e
  | dist o e =>
    refine .dist o ?_
    unfold stDist at e ⊢
    split
    · rename_i h1; rw [if_pos h1] at e; exact e
    · rename_i h1
      rw [if_neg h1] at e
      split
      · rename_i h2; rw [h2] at e; exact e
      · rename_i y n h2
        rw [h2] at e
        simp only at e ⊢
        split
        · rename_i h3; rw [if_pos h3] at e; exact e
        · rename_i h3
          rw [if_neg h3] at e
          split
          · rename_i h4; rw [if_pos h4] at e; exact e
          · rename_i h4
            rw [if_neg h4] at e
            split at e
            · cases e
            · injection e with e
              subst e
              simp [rep_len] at hl
              rw [if_neg (by omega)]

theorem Runs.less {bs : List Nat} {most most' : Nat} {s : St} {out : List Nat} {a : Nat} (hl : out.length ≤ most) (hm : most ≤ most') (h : Runs bs most' s (.ok out a)) : Runs bs most s (.ok out a) := by
  generalize hr : Res.ok out a = r at h
  induction h with
  | stop h =>
    subst hr
    obtain ⟨rfl, rfl, l, h1, h2⟩ := h.last
    rename_i s
    obtain ⟨a, out, m⟩ := s
    simp only at h2
    subst h2
    refine .stop (.plain ?_)
    simp [stPlain, h1]
  | go h k ih =>
    subst hr
    exact .go (h.less (by have := k.mono.2.1; omega) hm) (ih rfl)

/-- The first A bits of two rows of bytes are the same. -/
structure Agree (bs bs2 : List Nat) (A : Nat) : Prop where
  len : A ≤ 8 * bs.length
  len2 : A ≤ 8 * bs2.length
  bit : ∀ i, i < A → bitAt false bs i = bitAt false bs2 i

section
variable {bs bs2 : List Nat} {A : Nat}
theorem Agree.num (h : Agree bs bs2 A) (a n : Nat) (ha : a + n ≤ A) : numAt false bs a n = numAt false bs2 a n :=
  obf_congr _ _ _ fun p hp => by simp only [cond_false]; exact h.bit _ (by omega)
theorem Agree.take (h : Agree bs bs2 A) (a : Nat) : ∀ n, a + n ≤ A → (leftBits false bs a).take n = (leftBits false bs2 a).take n
  | 0, _ => by simp
  | n + 1, hn => by
    have := h.len
    have := h.len2
    rw [leftBits_next _ _ _ _ (by omega), leftBits_next _ _ _ _ (by omega), h.take a n (by omega), h.bit _ (by omega)]
theorem Agree.hit (h : Agree bs bs2 A) {ls : List Int} {a n s : Nat} (hn : a + n ≤ A) (hh : Hit ls (leftBits false bs a) n s) : Hit ls (leftBits false bs2 a) n s :=
  ⟨hh.1, by rw [leftBits_len]; have := h.len2; omega, hh.2.2.1, by rw [← h.take a n hn]; exact hh.2.2.2⟩
theorem Agree.symm (h : Agree bs bs2 A) : Agree bs2 bs A := ⟨h.len2, h.len, fun i hi => (h.bit i hi).symm⟩
theorem Agree.out (h : Agree bs bs2 A) {ls : List Int} {a n s : Nat} (hn : a + n ≤ A) (ho : Out ls (leftBits false bs a) s n 0) : Out ls (leftBits false bs2 a) s n 0 := by
  generalize hk : (0 : Int) = k at ho
  cases ho with
  | ok _ _ hh h0 => exact .ok n s (h.hit hn hh) (fun m q hm hq => h0 m q hm (h.symm.hit (by omega) hq))
  | cut _ _ => omega
  | code _ _ => omega
end

/-- What comes behind the bits that are looked at changes nothing. -/
theorem Step.behind {bs bs2 : List Nat} {A most : Nat} {s t : St} (hA : Agree bs bs2 A) (ht : t.a ≤ A) (h : Step bs most s (.inl t)) : Step bs2 most s (.inl t) := by
  have hl := hA.len2
  have hle := h.mono.1
  cases h with
  | @head a out _ e =>
    refine .head ?_
    unfold stHead at e ⊢
    by_cases h0 : 8 * bs.length < a + 3
    · rw [if_pos h0] at e; cases e
    · rw [if_neg h0] at e
      have h3 : t.a = a + 3 := by
        repeat' split at e
        all_goals first
          | (injection e with e; rw [← e]; done)
          | cases e
      rw [hA.num _ _ (by omega), hA.num _ _ (by omega)] at e
      rw [if_neg (by omega)]
      exact e
  | @stored a out last _ e =>
    refine .stored ?_
    unfold stStored at e ⊢
    by_cases h0 : 8 * bs.length < (a + 7) / 8 * 8 + 32
    · rw [if_pos h0] at e; cases e
    · rw [if_neg h0] at e
      have h3 : t.a = (a + 7) / 8 * 8 + 32 := by
        repeat' split at e
        all_goals first
          | (injection e with e; rw [← e]; done)
          | cases e
      rw [hA.num _ _ (by omega), hA.num _ _ (by omega)] at e
      rw [if_neg (by omega)]
      exact e
  | @plain a out k last _ e =>
    refine .plain ?_
    unfold stPlain at e ⊢
    by_cases h1 : k = 0
    · rw [if_pos h1] at e ⊢; exact e
    · rw [if_neg h1] at e ⊢
      by_cases h2 : 8 * bs.length < a + 8
      · rw [if_pos h2] at e; cases e
      · rw [if_neg h2] at e
        by_cases h3 : most ≤ out.length
        · rw [if_pos h3] at e; cases e
        · rw [if_neg h3] at e
          injection e with e
          subst e
          simp only at ht
          rw [if_neg (by omega), if_neg h3, hA.num _ _ (by omega)]
  | @own a out last _ e =>
    refine .own ?_
    unfold stOwn at e ⊢
    by_cases h0 : 8 * bs.length < a + 14
    · rw [if_pos h0] at e; cases e
    · rw [if_neg h0] at e
      by_cases h1 : 286 < 257 + numAt false bs a 5 ∨ 30 < 1 + numAt false bs (a + 5) 5
      · rw [if_pos h1] at e; cases e
      · rw [if_neg h1] at e
        injection e with e
        subst e
        simp only at ht
        rw [hA.num a 5 (by omega), hA.num (a + 5) 5 (by omega)] at h1
        rw [if_neg (by omega), if_neg h1, hA.num a 5 (by omega), hA.num (a + 5) 5 (by omega), hA.num (a + 10) 4 (by omega)]
  | @kinds a out todo l n ns last _ e =>
    refine .kinds ?_
    cases todo with
    | nil => exact e
    | cons s r =>
      simp only [stKinds] at e ⊢
      by_cases h0 : 8 * bs.length < a + 3
      · rw [if_pos h0] at e; cases e
      · rw [if_neg h0] at e
        injection e with e
        subst e
        simp only at ht
        rw [if_neg (by omega), hA.num _ _ (by omega)]
  | lensEnd h e => exact .lensEnd h e
  | @lens a out ls l n ns last s m k _ h o e =>
    by_cases hk : k = 0
    · subst hk
      have hat : a + m ≤ t.a := by
        unfold stLens stRun at e
        repeat' split at e
        all_goals first
          | cases e; done
          | (injection e with e; subst e; simp; try omega)
      refine .lens h (hA.out (by omega) o) ?_
      unfold stLens stRun at e ⊢
      rw [if_neg (by simp)] at e ⊢
      by_cases h1 : s = 16
      · rw [if_pos h1] at e ⊢
        by_cases h2 : 8 * bs.length < a + m + 2
        · rw [if_pos h2] at e; cases e
        · rw [if_neg h2] at e
          have h3 : t.a = a + m + 2 := by
            repeat' split at e
            all_goals first
              | (injection e with e; rw [← e]; done)
              | cases e
          rw [hA.num _ _ (by omega)] at e
          rw [if_neg (by omega)]
          exact e
      · rw [if_neg h1] at e ⊢
        by_cases h4 : s = 17
        · rw [if_pos h4] at e ⊢
          by_cases h2 : 8 * bs.length < a + m + 3
          · rw [if_pos h2] at e; cases e
          · rw [if_neg h2] at e
            have h3 : t.a = a + m + 3 := by
              repeat' split at e
              all_goals first
                | (injection e with e; rw [← e]; done)
                | cases e
            rw [hA.num _ _ (by omega)] at e
            rw [if_neg (by omega)]
            exact e
        · rw [if_neg h4] at e ⊢
          by_cases h5 : s = 18
          · rw [if_pos h5] at e ⊢
            by_cases h2 : 8 * bs.length < a + m + 7
            · rw [if_pos h2] at e; cases e
            · rw [if_neg h2] at e
              have h3 : t.a = a + m + 7 := by
                repeat' split at e
                all_goals first
                  | (injection e with e; rw [← e]; done)
                  | cases e
              rw [hA.num _ _ (by omega)] at e
              rw [if_neg (by omega)]
              exact e
          · rw [if_neg h5] at e ⊢
            exact e
    · unfold stLens at e
      rw [if_pos hk] at e
      cases e
  | @coded a out ls ds last s m k _ o e =>
    by_cases hk : k = 0
    · subst hk
      have hat : a + m ≤ t.a := by
        unfold stCoded at e
        repeat' split at e
        all_goals first
          | cases e; done
          | (injection e with e; subst e; simp; try omega)
      refine .coded (hA.out (by omega) o) ?_
      unfold stCoded at e ⊢
      rw [if_neg (by simp)] at e ⊢
      by_cases h1 : s = 256
      · rw [if_pos h1] at e ⊢; exact e
      · rw [if_neg h1] at e ⊢
        by_cases h2 : s < 256
        · rw [if_pos h2] at e ⊢; exact e
        · rw [if_neg h2] at e ⊢
          cases h3 : lenOf s with
          | none => rw [h3] at e; cases e
          | some xn =>
            obtain ⟨x, n⟩ := xn
            rw [h3] at e
            simp only at e ⊢
            by_cases h4 : 8 * bs.length < a + m + n
            · rw [if_pos h4] at e; cases e
            · rw [if_neg h4] at e
              injection e with e
              subst e
              simp only at ht
              rw [if_neg (by omega), hA.num _ _ (by omega)]
    · unfold stCoded at e
      rw [if_pos hk] at e
      cases e
  | @dist a out x ls ds last s m k _ o e =>
    by_cases hk : k = 0
    · subst hk
      have hat : a + m ≤ t.a := by
        unfold stDist at e
        repeat' split at e
        all_goals first
          | cases e; done
          | (injection e with e; subst e; simp; try omega)
      refine .dist (hA.out (by omega) o) ?_
      unfold stDist at e ⊢
      rw [if_neg (by simp)] at e ⊢
      cases h3 : distOf s with
      | none => rw [h3] at e; cases e
      | some yn =>
        obtain ⟨y, n⟩ := yn
        rw [h3] at e
        simp only at e ⊢
        by_cases h4 : 8 * bs.length < a + m + n
        · rw [if_pos h4] at e; cases e
        · rw [if_neg h4] at e
          have h5 : t.a = a + m + n := by
            repeat' split at e
            all_goals first
              | (injection e with e; rw [← e]; done)
              | cases e
          rw [hA.num _ _ (by omega)] at e
          rw [if_neg (by omega)]
          exact e
    · unfold stDist at e
      rw [if_pos hk] at e
      cases e

theorem Runs.behind {bs bs2 : List Nat} {A most : Nat} {s : St} {out : List Nat} {a : Nat} (hA : Agree bs bs2 A) (ha : a ≤ A) (h : Runs bs most s (.ok out a)) : Runs bs2 most s (.ok out a) := by
  generalize hr : Res.ok out a = r at h
  induction h with
  | stop h =>
    subst hr
    obtain ⟨rfl, rfl, l, h1, h2⟩ := h.last
    rename_i s
    obtain ⟨a, out, m⟩ := s
    simp only at h2
    subst h2
    refine .stop (.plain ?_)
    simp [stPlain, h1]
  | go h k ih =>
    subst hr
    exact .go (h.behind hA (by have := k.mono.1; omega)) (ih rfl)
end Go.Proofs.Ytbdnhhhagpgibaa
