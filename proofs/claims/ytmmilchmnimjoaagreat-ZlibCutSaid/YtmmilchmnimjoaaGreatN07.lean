/- Merged by program: Machine Pack PutP RepP. -/
import Derived.Test.YtmmilchmnimjoaaGreatN02
import Derived.BigRegion
import Derived.Deep.AppendLies
/- Unpacking as a machine of small steps: plain mathematics, no program. -/
namespace Go.Proofs.YtmmilchmnimjoaaGreat
set_option linter.unusedVariables false
set_option linter.unusedSimpArgs false
def fixS : List Int := List.replicate 144 8 ++ (List.replicate 112 9 ++ (List.replicate 24 7 ++ List.replicate 8 8))
def fixD : List Int := List.replicate 30 5
def order : List Nat := [16, 17, 18, 0, 8, 7, 9, 6, 10, 5, 11, 4, 12, 3, 13, 2, 14, 1, 15]
def lenOf (s : Nat) : Option (Nat × Nat) := if s < 257 ∨ 285 < s then none else if s < 265 then some (s - 254, 0) else if s = 285 then some (258, 0) else some (3 + (4 + (s - 261) % 4) * 2 ^ ((s - 261) / 4), (s - 261) / 4)
def distOf (s : Nat) : Option (Nat × Nat) := if 29 < s then none else if s < 4 then some (s + 1, 0) else some (1 + (2 + (s - 2) % 2) * 2 ^ ((s - 2) / 2), (s - 2) / 2)
def rep (far : Nat) : Nat → List Nat → List Nat
  | 0, out => out
  | n + 1, out => rep far n (out ++ [out.getD (out.length - far) 0])
inductive Mode
  | head
  | stored (last : Nat)
  | plain (k last : Nat)
  | own (last : Nat)
  | kinds (todo : List Nat) (l : List Int) (n ns last : Nat)
  | lens (ls l : List Int) (n ns last : Nat)
  | coded (ls ds : List Int) (last : Nat)
  | dist (x : Nat) (ls ds : List Int) (last : Nat)
structure St where
  a : Nat
  out : List Nat
  m : Mode
inductive Res
  | err (k : Int)
  | ok (out : List Nat) (a : Nat)
abbrev Nx := Sum St Res
def stHead (bs : List Nat) (a : Nat) (out : List Nat) : Nx :=
  if 8 * bs.length < a + 3 then .inr (.err 10)
  else if numAt false bs (a + 1) 2 = 0 then .inl ⟨a + 3, out, .stored (numAt false bs a 1)⟩
  else if numAt false bs (a + 1) 2 = 1 then .inl ⟨a + 3, out, .coded fixS fixD (numAt false bs a 1)⟩
  else if numAt false bs (a + 1) 2 = 2 then .inl ⟨a + 3, out, .own (numAt false bs a 1)⟩
  else .inr (.err 11)
def stStored (bs : List Nat) (a : Nat) (out : List Nat) (last : Nat) : Nx :=
  if 8 * bs.length < (a + 7) / 8 * 8 + 32 then .inr (.err 10)
  else if numAt false bs ((a + 7) / 8 * 8 + 16) 16 ≠ numAt false bs ((a + 7) / 8 * 8) 16 ^^^ 65535 then .inr (.err 11)
  else .inl ⟨(a + 7) / 8 * 8 + 32, out, .plain (numAt false bs ((a + 7) / 8 * 8) 16) last⟩
def stPlain (bs : List Nat) (most a : Nat) (out : List Nat) (k last : Nat) : Nx :=
  if k = 0 then (if last = 0 then .inl ⟨a, out, .head⟩ else .inr (.ok out a))
  else if 8 * bs.length < a + 8 then .inr (.err 10)
  else if most ≤ out.length then .inr (.err 3)
  else .inl ⟨a + 8, out ++ [numAt false bs a 8], .plain (k - 1) last⟩
def stOwn (bs : List Nat) (a : Nat) (out : List Nat) (last : Nat) : Nx :=
  if 8 * bs.length < a + 14 then .inr (.err 10)
  else if 286 < 257 + numAt false bs a 5 ∨ 30 < 1 + numAt false bs (a + 5) 5 then .inr (.err 11)
  else .inl ⟨a + 14, out, .kinds (order.take (4 + numAt false bs (a + 10) 4)) (List.replicate 19 0) (257 + numAt false bs a 5 + (1 + numAt false bs (a + 5) 5)) (257 + numAt false bs a 5) last⟩
def stKinds (bs : List Nat) (a : Nat) (out : List Nat) (todo : List Nat) (l : List Int) (n ns last : Nat) : Nx :=
  match todo with
  | [] => if May l then .inl ⟨a, out, .lens l [] n ns last⟩ else .inr (.err 13)
  | s :: r => if 8 * bs.length < a + 3 then .inr (.err 10) else .inl ⟨a + 3, out, .kinds r (l.set s (numAt false bs a 3 : Nat)) n ns last⟩
def stEnd (a : Nat) (out : List Nat) (l : List Int) (ns last : Nat) : Nx :=
  if l.getD 256 0 = 0 then .inr (.err 11)
  else if ¬ May (l.take ns) then .inr (.err 13)
  else if ¬ May (l.drop ns) then .inr (.err 13)
  else .inl ⟨a, out, .coded (l.take ns) (l.drop ns) last⟩
def stRun (b : Nat) (out : List Nat) (ls l : List Int) (n ns last times : Nat) (v : Int) : Nx :=
  if n - l.length < times then .inr (.err 11) else .inl ⟨b, out, .lens ls (l ++ List.replicate times v) n ns last⟩
def stLens (bs : List Nat) (a : Nat) (out : List Nat) (ls l : List Int) (n ns last s : Nat) (k : Int) : Nx :=
  if k ≠ 0 then .inr (.err k)
  else if s = 16 then (if 8 * bs.length < a + 2 then .inr (.err 10) else if l.length = 0 then .inr (.err 11) else stRun (a + 2) out ls l n ns last (3 + numAt false bs a 2) (l.getD (l.length - 1) 0))
  else if s = 17 then (if 8 * bs.length < a + 3 then .inr (.err 10) else stRun (a + 3) out ls l n ns last (3 + numAt false bs a 3) 0)
  else if s = 18 then (if 8 * bs.length < a + 7 then .inr (.err 10) else stRun (a + 7) out ls l n ns last (11 + numAt false bs a 7) 0)
  else stRun a out ls l n ns last 1 s
def stCoded (bs : List Nat) (most a : Nat) (out : List Nat) (ls ds : List Int) (last s : Nat) (k : Int) : Nx :=
  if k ≠ 0 then .inr (.err k)
  else if s = 256 then .inl ⟨a, out, .plain 0 last⟩
  else if s < 256 then (if most ≤ out.length then .inr (.err 3) else .inl ⟨a, out ++ [s], .coded ls ds last⟩)
  else match lenOf s with
    | none => .inr (.err 11)
    | some (x, n) => if 8 * bs.length < a + n then .inr (.err 10) else .inl ⟨a + n, out, .dist (x + numAt false bs a n) ls ds last⟩
def stDist (bs : List Nat) (most a : Nat) (out : List Nat) (x : Nat) (ls ds : List Int) (last s : Nat) (k : Int) : Nx :=
  if k ≠ 0 then .inr (.err k)
  else match distOf s with
    | none => .inr (.err 11)
    | some (y, n) =>
      if 8 * bs.length < a + n then .inr (.err 10)
      else if out.length < y + numAt false bs a n then .inr (.err 14)
      else if most - out.length < x then .inr (.err 3)
      else .inl ⟨a + n, rep (y + numAt false bs a n) x out, .coded ls ds last⟩
inductive Step (bs : List Nat) (most : Nat) : St → Nx → Prop
  | head {a out r} (e : stHead bs a out = r) : Step bs most ⟨a, out, .head⟩ r
  | stored {a out last r} (e : stStored bs a out last = r) : Step bs most ⟨a, out, .stored last⟩ r
  | plain {a out k last r} (e : stPlain bs most a out k last = r) : Step bs most ⟨a, out, .plain k last⟩ r
  | own {a out last r} (e : stOwn bs a out last = r) : Step bs most ⟨a, out, .own last⟩ r
  | kinds {a out todo l n ns last r} (e : stKinds bs a out todo l n ns last = r) : Step bs most ⟨a, out, .kinds todo l n ns last⟩ r
  | lensEnd {a out ls l n ns last r} (h : n ≤ l.length) (e : stEnd a out l ns last = r) : Step bs most ⟨a, out, .lens ls l n ns last⟩ r
  | lens {a out ls l n ns last s m k r} (h : l.length < n) (o : Out ls (leftBits false bs a) s m k) (e : stLens bs (a + m) out ls l n ns last s k = r) : Step bs most ⟨a, out, .lens ls l n ns last⟩ r
  | coded {a out ls ds last s m k r} (o : Out ls (leftBits false bs a) s m k) (e : stCoded bs most (a + m) out ls ds last s k = r) : Step bs most ⟨a, out, .coded ls ds last⟩ r
  | dist {a out x ls ds last s m k r} (o : Out ds (leftBits false bs a) s m k) (e : stDist bs most (a + m) out x ls ds last s k = r) : Step bs most ⟨a, out, .dist x ls ds last⟩ r
inductive Runs (bs : List Nat) (most : Nat) : St → Res → Prop
  | stop {s r} (h : Step bs most s (.inr r)) : Runs bs most s r
  | go {s t r} (h : Step bs most s (.inl t)) (k : Runs bs most t r) : Runs bs most s r
def Leads (bs : List Nat) (most : Nat) (s t : St) : Prop := ∀ r, Runs bs most t r → Runs bs most s r
section
variable {bs : List Nat} {most : Nat} {s t u : St} {r r' : Res} {x y : Nx}
theorem Leads.refl (s : St) : Leads bs most s s := fun _ h => h
theorem Leads.trans (h : Leads bs most s t) (k : Leads bs most t u) : Leads bs most s u := fun r hr => h r (k r hr)
theorem Leads.step (h : Step bs most s (.inl t)) : Leads bs most s t := fun _ k => .go h k
theorem Leads.then (h : Leads bs most s t) (k : Step bs most t (.inl u)) : Leads bs most s u := h.trans (.step k)
theorem Leads.stop (h : Leads bs most s t) (k : Step bs most t (.inr r)) : Runs bs most s r := h r (.stop k)
theorem Step.one (h : Step bs most s x) (k : Step bs most s y) : x = y := by
  cases h with
  | head e => cases k with | head e' => exact e.symm.trans e'
  | stored e => cases k with | stored e' => exact e.symm.trans e'
  | plain e => cases k with | plain e' => exact e.symm.trans e'
  | own e => cases k with | own e' => exact e.symm.trans e'
  | kinds e => cases k with | kinds e' => exact e.symm.trans e'
  | lensEnd h e =>
    cases k with
    | lensEnd h' e' => exact e.symm.trans e'
    | lens h' o' e' => omega
  | lens h o e =>
    cases k with
    | lensEnd h' e' => omega
    | lens h' o' e' =>
      obtain ⟨rfl, rfl, rfl⟩ := o.one o'
      exact e.symm.trans e'
  | coded o e =>
    cases k with
    | coded o' e' =>
      obtain ⟨rfl, rfl, rfl⟩ := o.one o'
      exact e.symm.trans e'
  | dist o e =>
    cases k with
    | dist o' e' =>
      obtain ⟨rfl, rfl, rfl⟩ := o.one o'
      exact e.symm.trans e'
theorem Runs.one (h : Runs bs most s r) : ∀ {r'}, Runs bs most s r' → r = r' := by
  induction h with
  | stop h =>
    intro r' k
    cases k with
    | stop h' => exact Sum.inr.inj (h.one h')
    | go h' k' => cases h.one h'
  | go h k ih =>
    intro r' k'
    cases k' with
    | stop h' => cases h.one h'
    | go h' k' =>
      cases h.one h'
      exact ih k'
end
theorem rep_len (far : Nat) : ∀ (n : Nat) (out : List Nat), (rep far n out).length = out.length + n
  | 0, out => rfl
  | n + 1, out => by rw [rep, rep_len far n]; simp; omega
theorem Step.mono {bs : List Nat} {most : Nat} {s t : St} (h : Step bs most s (.inl t)) : s.a ≤ t.a ∧ s.out.length ≤ t.out.length ∧ (s.out.length ≤ most → t.out.length ≤ most) := by
  cases h with
  | head e =>
    unfold stHead at e
    repeat' split at e
    all_goals first
      | cases e; done
      | (injection e with e; subst e; exact ⟨by simp, by simp, fun h => h⟩)
  | stored e =>
    unfold stStored at e
    repeat' split at e
    all_goals first
      | cases e; done
      | (injection e with e; subst e; exact ⟨by simp; omega, by simp, fun h => h⟩)
  | plain e =>
    unfold stPlain at e
    repeat' split at e
    all_goals first
      | cases e; done
      | (injection e with e; subst e; exact ⟨by simp, by simp, by simp; try omega⟩)
  | own e =>
    unfold stOwn at e
    repeat' split at e
    all_goals first
      | cases e; done
      | (injection e with e; subst e; exact ⟨by simp, by simp, fun h => h⟩)
  | kinds e =>
    unfold stKinds at e
    repeat' split at e
    all_goals first
      | cases e; done
      | (injection e with e; subst e; exact ⟨by simp, by simp, fun h => h⟩)
  | lensEnd h e =>
    unfold stEnd at e
    repeat' split at e
    all_goals first
      | cases e; done
      | (injection e with e; subst e; exact ⟨by simp, by simp, fun h => h⟩)
  | lens h o e =>
    unfold stLens stRun at e
    repeat' split at e
    all_goals first
      | cases e; done
      | (injection e with e; subst e; exact ⟨by simp; try omega, by simp, fun h => h⟩)
  | coded o e =>
    unfold stCoded at e
    repeat' split at e
    all_goals first
      | cases e; done
      | (injection e with e; subst e; exact ⟨by simp; try omega, by simp, by simp; try omega⟩)
  | dist o e =>
    unfold stDist at e
    repeat' split at e
    all_goals first
      | cases e; done
      | (injection e with e; subst e; exact ⟨by simp; omega, by simp [rep_len], by simp [rep_len]; omega⟩)
theorem Step.last {bs : List Nat} {most : Nat} {s : St} {out : List Nat} {a : Nat} (h : Step bs most s (.inr (.ok out a))) : s.a = a ∧ s.out = out ∧ ∃ l, l ≠ 0 ∧ s.m = .plain 0 l := by
  cases h with
  | head e => unfold stHead at e; repeat' split at e
              all_goals cases e
  | stored e => unfold stStored at e; repeat' split at e
                all_goals cases e
  | plain e =>
    unfold stPlain at e
    repeat' split at e
    all_goals first
      | (rename_i h1 h2; subst h1; cases e; exact ⟨rfl, rfl, _, h2, rfl⟩)
      | cases e
  | own e => unfold stOwn at e; repeat' split at e
             all_goals cases e
  | kinds e => unfold stKinds at e; repeat' split at e
               all_goals cases e
  | lensEnd h e => unfold stEnd at e; repeat' split at e
                   all_goals cases e
  | lens h o e => unfold stLens stRun at e; repeat' split at e
                  all_goals cases e
  | coded o e => unfold stCoded at e; repeat' split at e
                 all_goals cases e
  | dist o e => unfold stDist at e; repeat' split at e
                all_goals cases e
theorem Runs.mono {bs : List Nat} {most : Nat} {s : St} {out : List Nat} {a : Nat} (h : Runs bs most s (.ok out a)) : s.a ≤ a ∧ s.out.length ≤ out.length ∧ (s.out.length ≤ most → out.length ≤ most) := by
  generalize hr : Res.ok out a = r at h
  induction h with
  | stop h =>
    subst hr
    obtain ⟨h1, h2, _⟩ := h.last
    subst h1 h2
    exact ⟨Nat.le_refl _, Nat.le_refl _, fun h => h⟩
  | go h k ih =>
    obtain ⟨h1, h2, h3⟩ := h.mono
    obtain ⟨k1, k2, k3⟩ := ih hr
    exact ⟨by omega, by omega, fun h => k3 (h3 h)⟩
theorem Step.more {bs : List Nat} {most most' : Nat} {s : St} {x : Nx} (hm : most ≤ most') (h : Step bs most s x) (hx : x ≠ .inr (.err 3)) : Step bs most' s x := by
  cases h with
  | head e => exact .head e
  | stored e => exact .stored e
  | @plain a out k last _ e =>
    refine .plain ?_
    subst e
    unfold stPlain at hx ⊢
    split
    · rfl
    · rename_i h1
      rw [if_neg h1] at hx
      split
      · rfl
      · rename_i h2
        rw [if_neg h2] at hx
        by_cases h3 : most ≤ out.length
        · rw [if_pos h3] at hx; exact absurd rfl hx
        · rw [if_neg h3, if_neg (by omega)]
  | own e => exact .own e
  | kinds e => exact .kinds e
  | lensEnd h e => exact .lensEnd h e
  | lens h o e => exact .lens h o e
  | @coded a out ls ds last s m k _ o e =>
    refine .coded o ?_
    subst e
    unfold stCoded at hx ⊢
    split
    · rfl
    · split
      · rfl
      · split
        · rename_i h1 h2 h3
          rw [if_neg h1, if_neg h2, if_pos h3] at hx
          by_cases h4 : most ≤ out.length
          · rw [if_pos h4] at hx; exact absurd rfl hx
          · rw [if_neg h4, if_neg (by omega)]
        · rfl
  | @dist a out x ls ds last s m k _ o e =>
    refine .dist o ?_
    subst e
    unfold stDist at hx ⊢
    split
    · rfl
    · rename_i h1
      rw [if_neg h1] at hx
      split
      · rfl
      · rename_i y n h2
        rw [h2] at hx
        simp only at hx ⊢
        split
        · rfl
        · rename_i h3
          rw [if_neg h3] at hx
          split
          · rfl
          · rename_i h4
            rw [if_neg h4] at hx
            by_cases h5 : most - out.length < x
            · rw [if_pos h5] at hx; exact absurd rfl hx
            · rw [if_neg h5, if_neg (by omega)]
theorem Runs.more {bs : List Nat} {most most' : Nat} {s : St} {r : Res} (hm : most ≤ most') (h : Runs bs most s r) (hr : r ≠ .err 3) : Runs bs most' s r := by
  induction h with
  | stop h => exact .stop (h.more hm (fun e => hr (Sum.inr.inj e)))
  | go h k ih => exact .go (h.more hm (fun e => by cases e)) (ih hr)
structure Agree (bs bs2 : List Nat) (A : Nat) : Prop where
  len : A ≤ 8 * bs.length
  len2 : A ≤ 8 * bs2.length
  bit : ∀ i, i < A → bitAt false bs i = bitAt false bs2 i
section
variable {bs bs2 : List Nat} {A : Nat}
theorem Agree.num (h : Agree bs bs2 A) (a n : Nat) (ha : a + n ≤ A) : numAt false bs a n = numAt false bs2 a n :=
  obf_congr _ _ _ fun p hp => by simp only [cond_false]; exact h.bit _ (by omega)
theorem Agree.take (h : Agree bs bs2 A) (a : Nat) : ∀ n, a + n ≤ A → (leftBits false bs a).take n = (leftBits false bs2 a).take n
  | 0, _ => by simp
  | n + 1, hn => by
    have := h.len
    have := h.len2
    rw [leftBits_next _ _ _ _ (by omega), leftBits_next _ _ _ _ (by omega), h.take a n (by omega), h.bit _ (by omega)]
theorem Agree.hit (h : Agree bs bs2 A) {ls : List Int} {a n s : Nat} (hn : a + n ≤ A) (hh : Hit ls (leftBits false bs a) n s) : Hit ls (leftBits false bs2 a) n s :=
  ⟨hh.1, by rw [leftBits_len]; have := h.len2; omega, hh.2.2.1, by rw [← h.take a n hn]; exact hh.2.2.2⟩
theorem Agree.symm (h : Agree bs bs2 A) : Agree bs2 bs A := ⟨h.len2, h.len, fun i hi => (h.bit i hi).symm⟩
theorem Agree.out (h : Agree bs bs2 A) {ls : List Int} {a n s : Nat} (hn : a + n ≤ A) (ho : Out ls (leftBits false bs a) s n 0) : Out ls (leftBits false bs2 a) s n 0 := by
  generalize hk : (0 : Int) = k at ho
  cases ho with
  | ok _ _ hh h0 => exact .ok n s (h.hit hn hh) (fun m q hm hq => h0 m q hm (h.symm.hit (by omega) hq))
  | cut _ _ => omega
  | code _ _ => omega
end
theorem Step.behind {bs bs2 : List Nat} {A most : Nat} {s t : St} (hA : Agree bs bs2 A) (ht : t.a ≤ A) (h : Step bs most s (.inl t)) : Step bs2 most s (.inl t) := by
  have hl := hA.len2
  have hle := h.mono.1
  cases h with
  | @head a out _ e =>
    refine .head ?_
    unfold stHead at e ⊢
    by_cases h0 : 8 * bs.length < a + 3
    · rw [if_pos h0] at e; cases e
    · rw [if_neg h0] at e
      have h3 : t.a = a + 3 := by
        repeat' split at e
        all_goals first
          | (injection e with e; rw [← e]; done)
          | cases e
      rw [hA.num _ _ (by omega), hA.num _ _ (by omega)] at e
      rw [if_neg (by omega)]
      exact e
  | @stored a out last _ e =>
    refine .stored ?_
    unfold stStored at e ⊢
    by_cases h0 : 8 * bs.length < (a + 7) / 8 * 8 + 32
    · rw [if_pos h0] at e; cases e
    · rw [if_neg h0] at e
      have h3 : t.a = (a + 7) / 8 * 8 + 32 := by
        repeat' split at e
        all_goals first
          | (injection e with e; rw [← e]; done)
          | cases e
      rw [hA.num _ _ (by omega), hA.num _ _ (by omega)] at e
      rw [if_neg (by omega)]
      exact e
  | @plain a out k last _ e =>
    refine .plain ?_
    unfold stPlain at e ⊢
    by_cases h1 : k = 0
    · rw [if_pos h1] at e ⊢; exact e
    · rw [if_neg h1] at e ⊢
      by_cases h2 : 8 * bs.length < a + 8
      · rw [if_pos h2] at e; cases e
      · rw [if_neg h2] at e
        by_cases h3 : most ≤ out.length
        · rw [if_pos h3] at e; cases e
        · rw [if_neg h3] at e
          injection e with e
          subst e
          simp only at ht
          rw [if_neg (by omega), if_neg h3, hA.num _ _ (by omega)]
  | @own a out last _ e =>
    refine .own ?_
    unfold stOwn at e ⊢
    by_cases h0 : 8 * bs.length < a + 14
    · rw [if_pos h0] at e; cases e
    · rw [if_neg h0] at e
      by_cases h1 : 286 < 257 + numAt false bs a 5 ∨ 30 < 1 + numAt false bs (a + 5) 5
      · rw [if_pos h1] at e; cases e
      · rw [if_neg h1] at e
        injection e with e
        subst e
        simp only at ht
        rw [hA.num a 5 (by omega), hA.num (a + 5) 5 (by omega)] at h1
        rw [if_neg (by omega), if_neg h1, hA.num a 5 (by omega), hA.num (a + 5) 5 (by omega), hA.num (a + 10) 4 (by omega)]
  | @kinds a out todo l n ns last _ e =>
    refine .kinds ?_
    cases todo with
    | nil => exact e
    | cons s r =>
      simp only [stKinds] at e ⊢
      by_cases h0 : 8 * bs.length < a + 3
      · rw [if_pos h0] at e; cases e
      · rw [if_neg h0] at e
        injection e with e
        subst e
        simp only at ht
        rw [if_neg (by omega), hA.num _ _ (by omega)]
  | lensEnd h e => exact .lensEnd h e
  | @lens a out ls l n ns last s m k _ h o e =>
    by_cases hk : k = 0
    · subst hk
      have hat : a + m ≤ t.a := by
        unfold stLens stRun at e
        repeat' split at e
        all_goals first
          | cases e; done
          | (injection e with e; subst e; simp; try omega)
      refine .lens h (hA.out (by omega) o) ?_
      unfold stLens stRun at e ⊢
      rw [if_neg (by simp)] at e ⊢
      by_cases h1 : s = 16
      · rw [if_pos h1] at e ⊢
        by_cases h2 : 8 * bs.length < a + m + 2
        · rw [if_pos h2] at e; cases e
        · rw [if_neg h2] at e
          have h3 : t.a = a + m + 2 := by
            repeat' split at e
            all_goals first
              | (injection e with e; rw [← e]; done)
              | cases e
          rw [hA.num _ _ (by omega)] at e
          rw [if_neg (by omega)]
          exact e
      · rw [if_neg h1] at e ⊢
        by_cases h4 : s = 17
        · rw [if_pos h4] at e ⊢
          by_cases h2 : 8 * bs.length < a + m + 3
          · rw [if_pos h2] at e; cases e
          · rw [if_neg h2] at e
            have h3 : t.a = a + m + 3 := by
              repeat' split at e
              all_goals first
                | (injection e with e; rw [← e]; done)
                | cases e
            rw [hA.num _ _ (by omega)] at e
            rw [if_neg (by omega)]
            exact e
        · rw [if_neg h4] at e ⊢
          by_cases h5 : s = 18
          · rw [if_pos h5] at e ⊢
            by_cases h2 : 8 * bs.length < a + m + 7
            · rw [if_pos h2] at e; cases e
            · rw [if_neg h2] at e
              have h3 : t.a = a + m + 7 := by
                repeat' split at e
                all_goals first
                  | (injection e with e; rw [← e]; done)
                  | cases e
              rw [hA.num _ _ (by omega)] at e
              rw [if_neg (by omega)]
              exact e
          · rw [if_neg h5] at e ⊢
            exact e
    · unfold stLens at e
      rw [if_pos hk] at e
      cases e
  | @coded a out ls ds last s m k _ o e =>
    by_cases hk : k = 0
    · subst hk
      have hat : a + m ≤ t.a := by
        unfold stCoded at e
        repeat' split at e
        all_goals first
          | cases e; done
          | (injection e with e; subst e; simp; try omega)
      refine .coded (hA.out (by omega) o) ?_
      unfold stCoded at e ⊢
      rw [if_neg (by simp)] at e ⊢
      by_cases h1 : s = 256
      · rw [if_pos h1] at e ⊢; exact e
      · rw [if_neg h1] at e ⊢
        by_cases h2 : s < 256
        · rw [if_pos h2] at e ⊢; exact e
        · rw [if_neg h2] at e ⊢
          cases h3 : lenOf s with
          | none => rw [h3] at e; cases e
          | some xn =>
            obtain ⟨x, n⟩ := xn
            rw [h3] at e
            simp only at e ⊢
            by_cases h4 : 8 * bs.length < a + m + n
            · rw [if_pos h4] at e; cases e
            · rw [if_neg h4] at e
              injection e with e
              subst e
              simp only at ht
              rw [if_neg (by omega), hA.num _ _ (by omega)]
    · unfold stCoded at e
      rw [if_pos hk] at e
      cases e
  | @dist a out x ls ds last s m k _ o e =>
    by_cases hk : k = 0
    · subst hk
      have hat : a + m ≤ t.a := by
        unfold stDist at e
        repeat' split at e
        all_goals first
          | cases e; done
          | (injection e with e; subst e; simp; try omega)
      refine .dist (hA.out (by omega) o) ?_
      unfold stDist at e ⊢
      rw [if_neg (by simp)] at e ⊢
      cases h3 : distOf s with
      | none => rw [h3] at e; cases e
      | some yn =>
        obtain ⟨y, n⟩ := yn
        rw [h3] at e
        simp only at e ⊢
        by_cases h4 : 8 * bs.length < a + m + n
        · rw [if_pos h4] at e; cases e
        · rw [if_neg h4] at e
          have h5 : t.a = a + m + n := by
            repeat' split at e
            all_goals first
              | (injection e with e; rw [← e]; done)
              | cases e
          rw [hA.num _ _ (by omega)] at e
          rw [if_neg (by omega)]
          exact e
    · unfold stDist at e
      rw [if_pos hk] at e
      cases e
theorem Runs.behind {bs bs2 : List Nat} {A most : Nat} {s : St} {out : List Nat} {a : Nat} (hA : Agree bs bs2 A) (ha : a ≤ A) (h : Runs bs most s (.ok out a)) : Runs bs2 most s (.ok out a) := by
  generalize hr : Res.ok out a = r at h
  induction h with
  | stop h =>
    subst hr
    obtain ⟨rfl, rfl, l, h1, h2⟩ := h.last
    rename_i s
    obtain ⟨a, out, m⟩ := s
    simp only at h2
    subst h2
    refine .stop (.plain ?_)
    simp [stPlain, h1]
  | go h k ih =>
    subst hr
    exact .go (h.behind hA (by have := k.mono.1; omega)) (ih rfl)
end Go.Proofs.YtmmilchmnimjoaaGreat
/- What is read, and the bytes that came of it: its blocks; bits, and numbers with bits, that are read. -/
namespace Go.Proofs.YtmmilchmnimjoaaGreat
open Go.RowKit
set_option linter.unusedVariables false
set_option linter.unusedSimpArgs false
def Cd (w : World) (c : Nat) (ls ds : List Int) : Prop :=
  ∃ gs gd, Blk w c 124 #[.pointer (some ⟨gs, 0, none⟩), .pointer (some ⟨gd, 0, none⟩)] ∧ Tb w gs ls ∧ Tb w gd ds ∧ May ls ∧ May ds
structure Pk (w : World) (g gr : Nat) (bs : List Nat) (a : Nat) (S : Value) (most : Nat) (out : List Nat) (So fx : Value) : Prop where
  blk : Blk w g 52 #[.pointer (some ⟨gr, 0, none⟩), .int .i64 most, So, fx]
  rd : Rd w gr false bs a S
  own : w.ownsRow 0 5 1 So out.length (ucells out)
  sep : ∀ i, S.ownBlock = some i → So.ownBlock ≠ some i
  fix : fx = .pointer none ∨ ∃ c, fx = .pointer (some ⟨c, 0, none⟩) ∧ Cd w c fixS fixD
  le : a ≤ 8 * bs.length
  len : bs.length ≤ 100000
  byt : ∀ b ∈ bs, b < 256
  mst : most ≤ 16777216
  ole : out.length ≤ most
def KP (g gr : Nat) (So : Value) : Nat → Prop := fun i => i = g ∨ i = gr ∨ So.ownBlock = some i
def Mv (g gr : Nat) (w : World) (So : Value) (w' : World) (So' : Value) : Prop :=
  Chg (KP g gr So) w w' ∧ ∀ i, i < w.heap.size → So'.ownBlock = some i → So.ownBlock = some i
theorem Mv.refl (g gr : Nat) (w : World) (So : Value) : Mv g gr w So w So := ⟨Chg.refl _ _, fun _ _ h => h⟩
theorem Mv.trans {g gr : Nat} {w w' w2 : World} {So So' So2 : Value} (h : Mv g gr w So w' So') (k : Mv g gr w' So' w2 So2) : Mv g gr w So w2 So2 := by
  refine ⟨h.1.trans k.1 ?_, fun i hi e => h.2 i hi (k.2 i (by have := h.1.size; omega) e)⟩
  rintro i hi (rfl | rfl | e)
  · exact .inl rfl
  · exact .inr (.inl rfl)
  · exact .inr (.inr (h.2 i hi e))
theorem Mv.of {g gr : Nat} {w w' : World} {So : Value} (h : Chg (KP g gr So) w w') : Mv g gr w So w' So := ⟨h, fun _ _ h => h⟩
theorem Mv.news {g gr : Nat} {w w' w2 : World} {So So' : Value} (h : Mv g gr w So w' So') (k : Chg NoS w' w2) : Mv g gr w So w2 So' := h.trans (Mv.of (k.mono (fun _ _ e => e.elim)))
theorem Mv.drewN {g gr : Nat} {w w' : World} {So So' : Value} (h : Mv g gr w So w' So') (n : Nat) : Mv g gr w So (w'.drewN n) So' := ⟨h.1.drewN n, h.2⟩
theorem Tb.ne_blk {w : World} {c g : Nat} {ls : List Int} {t : TypeId} {cs : Array Value} (h : Tb w c ls) (hg : Blk w g t cs) (ht : 158 ≠ t) : c ≠ g := by
  obtain ⟨T, _, h1, _⟩ := h
  exact Blk.ne_ h1 hg ht
theorem Tb.ne_own {w : World} {c n base size : Nat} {ls : List Int} {v : Value} {e : TypeId} {xs : List Value} (h : Tb w c ls) (ho : w.ownsRow base e size v n xs) (ht : e ≠ 158) : v.ownBlock ≠ some c := by
  obtain ⟨T, _, h1, _⟩ := h
  exact own_ne_blk ho h1 ht
section
variable {w w' : World} {g gr a most : Nat} {bs out : List Nat} {S So fx : Value}
theorem Pk.no_tb (h : Pk w g gr bs a S most out So fx) {c : Nat} {ls : List Int} (hT : Tb w c ls) : ¬ KP g gr So c := by
  rintro (e | e | e)
  · exact hT.ne_blk h.blk (by decide) e
  · exact hT.ne_blk h.rd.1 (by decide) e
  · exact hT.ne_own h.own (by decide) e
theorem Pk.no_blk (h : Pk w g gr bs a S most out So fx) {c : Nat} {t : TypeId} {cs : Array Value} (hB : Blk w c t cs) (h1 : t ≠ 52) (h2 : t ≠ 88) (h3 : 5 ≠ t) : ¬ KP g gr So c := by
  rintro (e | e | e)
  · exact Blk.ne_ hB h.blk h1 e
  · exact Blk.ne_ hB h.rd.1 h2 e
  · exact own_ne_blk h.own hB h3 e
theorem Pk.no_own (h : Pk w g gr bs a S most out So fx) {base size n : Nat} {v : Value} {e : TypeId} {xs : List Value} (ho : w.ownsRow base e size v n xs) (h1 : e ≠ 52) (h2 : e ≠ 88) (h3 : 5 ≠ e) : ∀ i, v.ownBlock = some i → ¬ KP g gr So i := by
  intro i hi
  rcases ho.2 with ⟨rfl, _⟩ | ⟨g', cap, cur, rfl, hb, hh, _⟩
  · simp [Value.ownBlock] at hi
  · have e1 : g' = i := by simpa [Value.ownBlock] using hi
    subst e1
    exact h.no_blk (t := e) hh h1 h2 h3
theorem Pk.tb (h : Pk w g gr bs a S most out So fx) {c : Nat} {ls : List Int} (hT : Tb w c ls) (hc : Chg (KP g gr So) w w') : Tb w' c ls := hT.chg hc (h.no_tb hT)
theorem Pk.cd (h : Pk w g gr bs a S most out So fx) {c : Nat} {ls ds : List Int} (hT : Cd w c ls ds) (hc : Chg (KP g gr So) w w') : Cd w' c ls ds := by
  obtain ⟨gs, gd, h1, h2, h3, h4, h5⟩ := hT
  exact ⟨gs, gd, h1.chg hc (h.no_blk h1 (by decide) (by decide) (by decide)), h.tb h2 hc, h.tb h3 hc, h4, h5⟩
theorem Pk.row (h : Pk w g gr bs a S most out So fx) {base size n : Nat} {v : Value} {e : TypeId} {xs : List Value} (ho : w.ownsRow base e size v n xs) (h1 : e ≠ 52) (h2 : e ≠ 88) (h3 : 5 ≠ e) (hc : Chg (KP g gr So) w w') : w'.ownsRow base e size v n xs :=
  own_chg ho hc (h.no_own ho h1 h2 h3)
theorem Cd.news {c : Nat} {ls ds : List Int} (hT : Cd w c ls ds) (hc : Chg NoS w w') : Cd w' c ls ds := by
  obtain ⟨gs, gd, h1, h2, h3, h4, h5⟩ := hT
  exact ⟨gs, gd, h1.chg hc (fun h => h), h2.chg hc (fun h => h), h3.chg hc (fun h => h), h4, h5⟩
theorem Pk.news (h : Pk w g gr bs a S most out So fx) (hc : Chg NoS w w') : Pk w' g gr bs a S most out So fx where
  blk := h.blk.chg hc (fun h => h)
  rd := ⟨h.rd.1.chg hc (fun h => h), own_chg h.rd.2 hc (fun _ _ h => h)⟩
  own := own_chg h.own hc (fun _ _ h => h)
  sep := h.sep
  fix := h.fix.imp id (fun ⟨c, h1, h2⟩ => ⟨c, h1, h2.news hc⟩)
  le := h.le
  len := h.len
  byt := h.byt
  mst := h.mst
  ole := h.ole
theorem Pk.drewN (h : Pk w g gr bs a S most out So fx) (n : Nat) : Pk (w.drewN n) g gr bs a S most out So fx := h.news ((Chg.refl _ _).drewN n)
theorem Pk.ne (h : Pk w g gr bs a S most out So fx) : g ≠ gr := Blk.ne_ h.blk h.rd.1 (by decide)
theorem Pk.c0 (h : Pk w g gr bs a S most out So fx) : w.cell? ⟨g, 0, none⟩ = some (.pointer (some ⟨gr, 0, none⟩)) := h.blk.cell 0
theorem Pk.c1 (h : Pk w g gr bs a S most out So fx) : w.cell? ⟨g, 1, none⟩ = some (.int .i64 most) := h.blk.cell 1
theorem Pk.c2 (h : Pk w g gr bs a S most out So fx) : w.cell? ⟨g, 2, none⟩ = some So := h.blk.cell 2
theorem Pk.c3 (h : Pk w g gr bs a S most out So fx) : w.cell? ⟨g, 3, none⟩ = some fx := h.blk.cell 3
theorem Pk.go (h : Pk w g gr bs a S most out So fx) {b : Nat} (hb : b ≤ 8 * bs.length) (hr : Rd w' gr false bs b S) (hc : Chg (fun i => i = gr) w w') : Pk w' g gr bs b S most out So fx where
  blk := h.blk.chg hc (fun e => h.ne e)
  rd := hr
  own := own_chg h.own hc (fun i hi e => own_ne_blk h.own h.rd.1 (by decide) (by rw [hi, e]))
  sep := h.sep
  fix := h.fix.imp id (fun ⟨c, h1, h2⟩ => ⟨c, h1, h.cd h2 (hc.mono (fun _ _ e => .inr (.inl e)))⟩)
  le := hb
  len := h.len
  byt := h.byt
  mst := h.mst
  ole := h.ole
theorem mv_gr {g gr : Nat} {So : Value} (hc : Chg (fun i => i = gr) w w') : Chg (KP g gr So) w w' := hc.mono (fun _ _ e => .inr (.inl e))
end
def GotN (w : World) (g gr : Nat) (bs : List Nat) (a : Nat) (S : Value) (most : Nat) (out : List Nat) (So fx : Value) (n : Nat) (e : Ending) (w' : World) : Prop :=
  ∃ (x b : Nat) (k : Int), e = .returned (.tuple #[.int .u32 (x : Nat), .int .i64 k]) ∧ Pk w' g gr bs b S most out So fx ∧ Mv g gr w So w' So ∧ x < 2 ^ n ∧
    ((k = 0 ∧ b = a + n ∧ a + n ≤ 8 * bs.length ∧ x = numAt false bs a n) ∨ (k = 10 ∧ b = a ∧ x = 0 ∧ 8 * bs.length < a + n))
theorem pget (w : World) (g gr a n most : Nat) (bs out : List Nat) (S So fx : Value) (hP : Pk w g gr bs a S most out So fx) (hn : n ≤ 32) :
    Calls Tryz.prog 46 #[.pointer (some ⟨gr, 0, none⟩), .int .i64 n] w (GotN w g gr bs a S most out So fx n) := by
  by_cases h : a + n ≤ 8 * bs.length
  · refine (get_ok gr a n false bs S w hP.rd (by have := hP.len; omega) hP.byt hn h).mono ?_
    rintro e w' ⟨rfl, h1, h2⟩
    exact ⟨_, _, 0, rfl, hP.go h h1 h2, Mv.of (mv_gr h2), obf_lt _ _, .inl ⟨rfl, rfl, h, rfl⟩⟩
  · refine (get_cut gr a n false bs S w hP.rd (by have := hP.len; omega) hP.le hn (by have := hP.le; omega)).mono ?_
    rintro e w' ⟨rfl, m, rfl⟩
    exact ⟨0, a, 10, rfl, hP.drewN m, (Mv.refl _ _ _ _).drewN m, Nat.two_pow_pos n, .inr ⟨rfl, rfl, rfl, by omega⟩⟩
def GotS (w : World) (g gr : Nat) (bs : List Nat) (a : Nat) (S : Value) (most : Nat) (out : List Nat) (So fx : Value) (ls : List Int) (e : Ending) (w' : World) : Prop :=
  ∃ (s m : Nat) (k : Int), e = .returned (.tuple #[.int .i64 s, .int .i64 k]) ∧ Out ls (leftBits false bs a) s m k ∧ Pk w' g gr bs (a + m) S most out So fx ∧ Mv g gr w So w' So ∧ s < 320 ∧ (k = 0 → 0 < m ∧ s < ls.length)
theorem psym (w : World) (g gr a most t : Nat) (bs out : List Nat) (ls : List Int) (S So fx : Value) (hP : Pk w g gr bs a S most out So fx) (hM : May ls) (hT : Tb w t ls) :
    Calls Tryz.prog 78 #[.pointer (some ⟨t, 0, none⟩), .pointer (some ⟨gr, 0, none⟩)] w (GotS w g gr bs a S most out So fx ls) := by
  refine (tget_any t gr a false bs ls S w hM hT hP.rd (by have := hP.len; omega) hP.byt hP.le (hT.ne_blk hP.rd.1 (by decide)) (hT.ne_own hP.rd.2 (by decide)) (own_ne_blk hP.rd.2 hP.rd.1 (by decide))).mono ?_
  rintro e w' ⟨s, m, k, rfl, ho, hr, hc⟩
  have hle := ho.le
  rw [leftBits_len] at hle
  have hs : (k = 0 → 0 < m ∧ s < ls.length) ∧ s < 320 := by
    cases ho with
    | ok _ _ h h0 =>
      have h1 := (List.getElem?_eq_some_iff.1 h.2.2.1).1
      have h2 := hM.2.1
      exact ⟨fun _ => ⟨Nat.pos_of_ne_zero h.1, h1⟩, by omega⟩
    | cut _ _ => exact ⟨fun h => (by cases h), by omega⟩
    | code _ _ => exact ⟨fun h => (by cases h), by omega⟩
  exact ⟨s, m, k, rfl, ho, hP.go (by have := hP.le; omega) hr hc, Mv.of (mv_gr hc), hs.2, hs.1⟩
def GotM (w : World) (g gr : Nat) (bs : List Nat) (a : Nat) (S : Value) (most : Nat) (out : List Nat) (So fx : Value) (number n : Nat) (e : Ending) (w' : World) : Prop :=
  ∃ (y b : Nat) (k : Int), e = .returned (.tuple #[.int .i64 y, .int .i64 k]) ∧ Pk w' g gr bs b S most out So fx ∧ Mv g gr w So w' So ∧ y < number + 2 ^ n ∧
    ((k = 0 ∧ b = a + n ∧ a + n ≤ 8 * bs.length ∧ y = number + numAt false bs a n) ∨ (k = 10 ∧ b = a ∧ 8 * bs.length < a + n))
theorem pmore (w : World) (g gr a n number most : Nat) (bs out : List Nat) (S So fx : Value) (hP : Pk w g gr bs a S most out So fx) (hn : n ≤ 16) (hu : number ≤ 100000) :
    Calls Tryz.prog 75 #[.pointer (some ⟨g, 0, none⟩), .int .i64 number, .int .i64 n, .bool true] w (GotM w g gr bs a S most out So fx number n) := by
  have c0 := hP.c0
  have HG := keepf (pget w g gr a n most bs out S So fx hP (by omega))
  have hp : 2 ^ n ≤ 2 ^ 16 := Nat.pow_le_pow_right (by decide) hn
  have HPP := keepf hp
  clear hP hp
  go_enter Tryz.func75, Tryz.ntmps75
  go_wp2_with (go_at_call 46; refine HG.out.mono ?_; rintro e w1 ⟨x, b, k, rfl, hP1, hm1, hx, hk⟩; have hx2 : x < 65536 := (by have := HPP.out; omega); have HX := keepf hx; have HP1 := keepf hP1; have HM1 := keepf hm1; have HK := keepf hk; clear hx hP1 hm1 hk)
  go_ret2
  refine ⟨number + x, b, k, by congr 1, HP1.out, HM1.out, by have := HX.out; omega, ?_⟩
  rcases HK.out with ⟨h1, h2, h3, h4⟩ | ⟨h1, h2, h3, h4⟩
  · exact .inl ⟨h1, h2, h3, by rw [h4]⟩
  · exact .inr ⟨h1, h2, h4⟩
theorem pmore_no (g : Nat) (number n : Int) (w : World) :
    Calls Tryz.prog 75 #[.pointer (some ⟨g, 0, none⟩), .int .i64 number, .int .i64 n, .bool false] w fun e w' => e = .returned (.tuple #[.int .i64 0, .int .i64 11]) ∧ w = w' := by
  go_enter Tryz.func75, Tryz.ntmps75
  go_wp2_with fail
  go_ret2
  exact ⟨rfl, rfl⟩
end Go.Proofs.YtmmilchmnimjoaaGreat
/- A byte more; bytes again. -/
namespace Go.Proofs.YtmmilchmnimjoaaGreat
open Go.RowKit
set_option linter.unusedVariables false
set_option linter.unusedSimpArgs false
theorem put_done {w w2 : World} {g gr a most x : Nat} {bs out : List Nat} {S So S2 fx : Value} {o : Obj} (hP : Pk w g gr bs a S most out So fx) (hlt : out.length < most)
    (ho : w2.ownsRow 0 5 1 S2 (out.length + 1) (ucells out ++ [.int .u8 (x : Nat)])) (hg : (w.alloc o).grownBy w2 So.ownBlock) (hat : S2.ownBlock = So.ownBlock ∨ S2.ownBlock = some (w.alloc o).heap.size) :
    Pk (w2.setCell ⟨g, 2, none⟩ S2) g gr bs a S most (out ++ [x]) S2 fx ∧ Mv g gr w So (w2.setCell ⟨g, 2, none⟩ S2) S2 := by
  have hsz : (w.alloc o).heap.size = w.heap.size + 1 := by simp
  have hlg := hP.blk.lt
  have hne : some g ≠ So.ownBlock := fun e => own_ne_blk hP.own hP.blk (by decide) e.symm
  have hb2 : Blk w2 g 52 _ := (hP.blk.alloc o).grown hg hne
  have hc1 : Chg (fun i => So.ownBlock = some i) w w2 := ((Chg.refl _ w).alloc o).grown hg (fun k e _ => e)
  have hc2 : Chg (fun i => i = g ∨ So.ownBlock = some i) w (w2.setCell ⟨g, 2, none⟩ S2) := (hc1.mono (fun _ _ e => .inr e)).setCell (p := ⟨g, 2, none⟩) (fun _ => .inl rfl) _
  have hne2 := own_ne_blk ho hb2 (by decide)
  have hmv : Mv g gr w So (w2.setCell ⟨g, 2, none⟩ S2) S2 := by
    refine ⟨hc2.mono (fun i _ e => e.imp id .inr), fun i hi e => ?_⟩
    rcases hat with h | h
    · rw [← h]; exact e
    · rw [h] at e; injection e with e; omega
  refine ⟨⟨?_, ⟨hP.rd.1.chg hc2 ?_, own_chg hP.rd.2 hc2 ?_⟩, ?_, ?_, ?_, hP.le, hP.len, hP.byt, hP.mst, by simp; omega⟩, hmv⟩
  · have h := hb2.set_ 2 S2
    simpa using h
  · rintro (e | e)
    · exact hP.ne e.symm
    · exact own_ne_blk hP.own hP.rd.1 (by decide) e
  · rintro i hi (e | e)
    · exact own_ne_blk hP.rd.2 hP.blk (by decide) (by rw [hi, e])
    · exact hP.sep i hi e
  · have h := own_chg (S := fun i => i = g) ho ((Chg.refl (fun i => i = g) _).setCell (p := ⟨g, 2, none⟩) (fun _ => rfl) S2) (fun i hi e => hne2 (by rw [hi, e]))
    simpa [ucells] using h
  · intro i hi e
    rcases hat with h | h
    · exact hP.sep i hi (by rw [← h]; exact e)
    · rw [h] at e
      injection e with e
      have := own_lt hP.rd.2 hi
      omega
  · exact hP.fix.imp id (fun ⟨c, h1, h2⟩ => ⟨c, h1, hP.cd h2 hmv.1⟩)
def PutTo2 (w : World) (g gr : Nat) (bs : List Nat) (a : Nat) (S : Value) (most : Nat) (out out' : List Nat) (So fx : Value) (e : Ending) (w' : World) : Prop :=
  ∃ So', e = .returned (.int .i64 0) ∧ Pk w' g gr bs a S most out' So' fx ∧ Mv g gr w So w' So'
theorem pput_no (w : World) (g gr a most x : Nat) (bs out : List Nat) (S So fx : Value) (hP : Pk w g gr bs a S most out So fx) (h : most ≤ out.length) :
    Calls Tryz.prog 72 #[.pointer (some ⟨g, 0, none⟩), .int .u8 x] w fun e w' => e = .returned (.int .i64 3) ∧ ∃ m, w' = w.drewN m := by
  have c1 := hP.c1
  have c2 := hP.c2
  obtain ⟨A, cap, rfl, hA⟩ := own_slice hP.own
  have d1 : decide ((most : Int) ≤ out.length) = true := by simp; omega
  have d2 : decide (most ≤ out.length) = true := by simp; omega
  have hm := hP.mst
  have hL := hP.ole
  clear hP hA
  go_enter Tryz.func72, Tryz.ntmps72
  go_wp2
  go_quiet (fail)
  go_wp2_with fail
  go_ret
  exact ⟨rfl, _, rfl⟩
set_option maxRecDepth 100000 in
theorem pput (w : World) (g gr a most x : Nat) (bs out : List Nat) (S So fx : Value) (hP : Pk w g gr bs a S most out So fx) (h : out.length < most) :
    Calls Tryz.prog 72 #[.pointer (some ⟨g, 0, none⟩), .int .u8 x] w (PutTo2 w g gr bs a S most out (out ++ [x]) So fx) := by
  have c1 := hP.c1
  have c2 := hP.c2
  have hf := hP.blk.frozen 2
  obtain ⟨A, cap, rfl, hA⟩ := own_slice hP.own
  have d1 : decide ((most : Int) ≤ out.length) = false := by simp; omega
  have d2 : decide (most ≤ out.length) = false := by simp; omega
  have hm := hP.mst
  have hL := hP.ole
  obtain ⟨i0, hi, hz0, hz1, hz2⟩ := info_parts info_u8
  have HP := keepf hP
  have HLT := keepf h
  have HNE := keepf (show some g ≠ (Value.slice A out.length cap).ownBlock from fun e => own_ne_blk hP.own hP.blk (by decide) e.symm)
  clear hP hA h
  go_enter Tryz.func72, Tryz.ntmps72
  go_wp2
  go_quiet (fail)
  go_wp2_with (first
    | (at_builtin; go_loud (refine wpList_append_src rfl (.tmp 19) (.tmp 21) 22 rfl 5 i0 (.int .u8 0) 1 1 Tryz.underlying22 hi hz0 hz1 hz2 rfl (by decide) (.slice A out.length cap) _ _ rfl (own_chg (S := NoS) (own_drewN HP.out.own nq) ((Chg.refl _ _).alloc _) (fun _ _ h => h)) _ _ _ [.int .u8 (x : Nat)] rfl (src_one _ _ _) (by simp [Value.oneCell']) (by unfold maxLen; omega) (by omega) ?_); intro S2 w2 hown2 hgr hat; obtain ⟨A2, c2, rfl, hA2⟩ := own_slice hown2; have hb2 := ((HP.out.blk.drewN nq).alloc _).grown hgr HNE.out; have q2 := hb2.frozen 2; have e2 := hb2.cell 2; have HG := keepf hgr; have HO2 := keepf hown2; have HA2 := keepf hat; clear hgr hown2 hat hA2 hb2))
  go_ret
  obtain ⟨h1, h2⟩ := put_done (HP.out.drewN nq) HLT.out HO2.out HG.out HA2.out
  exact ⟨_, rfl, h1, ⟨h2.1.undrewN, h2.2⟩⟩
end Go.Proofs.YtmmilchmnimjoaaGreat
/- Bytes again. -/
namespace Go.Proofs.YtmmilchmnimjoaaGreat
open Go.RowKit
set_option linter.unusedVariables false
set_option linter.unusedSimpArgs false
theorem rep_snoc (far : Nat) : ∀ (n : Nat) (out : List Nat), rep far (n + 1) out = rep far n out ++ [(rep far n out).getD ((rep far n out).length - far) 0]
  | 0, out => rfl
  | n + 1, out => by
    rw [rep, rep_snoc far n, rep]
theorem prep_far (w : World) (g gr a most length far : Nat) (bs out : List Nat) (S So fx : Value) (hP : Pk w g gr bs a S most out So fx) (hl : length ≤ 100000) (hf : far ≤ 100000) (h : out.length < far) :
    Calls Tryz.prog 81 #[.pointer (some ⟨g, 0, none⟩), .int .i64 length, .int .i64 far] w fun e w' => e = .returned (.int .i64 14) ∧ ∃ m, w' = w.drewN m := by
  have c2 := hP.c2
  obtain ⟨A, cap, rfl, hA⟩ := own_slice hP.own
  have d1 : decide ((out.length : Int) < far) = true := by simp; omega
  have d2 : decide (out.length < far) = true := by simp; omega
  have hm := hP.mst
  have hL := hP.ole
  clear hP hA
  go_enter Tryz.func81, Tryz.ntmps81
  go_wp2_with fail
  go_ret
  exact ⟨rfl, 0, rfl⟩
theorem prep_long (w : World) (g gr a most length far : Nat) (bs out : List Nat) (S So fx : Value) (hP : Pk w g gr bs a S most out So fx) (hl : length ≤ 100000) (hf : far ≤ out.length) (h : most - out.length < length) :
    Calls Tryz.prog 81 #[.pointer (some ⟨g, 0, none⟩), .int .i64 length, .int .i64 far] w fun e w' => e = .returned (.int .i64 3) ∧ ∃ m, w' = w.drewN m := by
  have c1 := hP.c1
  have c2 := hP.c2
  obtain ⟨A, cap, rfl, hA⟩ := own_slice hP.own
  have hm := hP.mst
  have hL := hP.ole
  have d1 : decide ((out.length : Int) < far) = false := by simp; omega
  have d2 : decide (out.length < far) = false := by simp; omega
  have d3 : decide ((most : Int) - out.length < length) = true := by simp; omega
  clear hP hA
  go_enter Tryz.func81, Tryz.ntmps81
  go_upto_region 3 with fail
  go_quiet (fail)
  go_wp2_with fail
  go_ret
  exact ⟨rfl, _, rfl⟩
set_option maxHeartbeats 1000000 in
set_option maxRecDepth 100000 in
theorem prep (w : World) (g gr a most length far : Nat) (bs out : List Nat) (S So fx : Value) (hP : Pk w g gr bs a S most out So fx) (hl : length ≤ 100000) (hf0 : 1 ≤ far) (hf : far ≤ out.length) (h : length ≤ most - out.length) :
    Calls Tryz.prog 81 #[.pointer (some ⟨g, 0, none⟩), .int .i64 length, .int .i64 far] w (PutTo2 w g gr bs a S most out (rep far length out) So fx) := by
  have c1 := hP.c1
  have c2 := hP.c2
  have HP := keepf hP
  have hm := hP.mst
  have hL := hP.ole
  obtain ⟨A, cap, rfl, hA⟩ := own_slice hP.own
  have d1 : decide ((out.length : Int) < far) = false := by simp; omega
  have d2 : decide (out.length < far) = false := by simp; omega
  have d3 : decide ((most : Int) - out.length < length) = false := by simp; omega
  obtain ⟨i0, hi, hz0, hz1, hz2⟩ := info_parts info_u8
  clear hP hA
  go_enter Tryz.func81, Tryz.ntmps81
  go_upto_region 3 with fail
  go_quiet (fail)
  go_wp2_with fail
  clear c1 c2 d1 d2 d3
  go_loopw [27] (fun vb wr => ∃ j : Nat, ∃ So2 : Value, j ≤ length ∧ vb = .int .i64 j ∧ Hid (Pk wr g gr bs a S most (rep far j out) So2 fx) ∧ Hid (Mv g gr w (.slice A out.length cap) wr So2)) (fun vb _ => length - (intOf vb).toNat)
  case atStart => exact ⟨0, _, Nat.zero_le _, rfl, HP.out.drewN nq, (Mv.refl _ _ _ _).drewN nq⟩
  case round =>
    obtain ⟨j, So2, hj, rfl, HP2, HM2⟩ := hrel
    by_cases hlt : j < length
    · have hPj := HP2.out
      have hln := rep_len far j out
      obtain ⟨o, ho⟩ : ∃ o, o = rep far j out := ⟨_, rfl⟩
      rw [← ho] at hPj hln
      obtain ⟨gb, cap2, rfl, hcap1, hcap2⟩ := own_form hPj.own (by omega)
      have e1 := hPj.c2
      have q1 := hPj.blk.frozen 2
      obtain ⟨q, hq⟩ : ∃ q, q = o.length - far := ⟨_, rfl⟩
      have hql : q < o.length := by omega
      obtain ⟨x, hx⟩ : ∃ x, x = o.getD q 0 := ⟨_, rfl⟩
      have e2 := hPj.own.cellAt q (by omega)
      have hx2 : (ucells o)[q]? = some (.int .u8 (x : Nat)) := by
        rw [hx]
        simp [ucells, List.getD_eq_getElem?_getD, hql]
      rw [hx2] at e2
      have lb : gb < wr.heap.size := own_lt hPj.own rfl
      have lg : g < wr.heap.size := hPj.blk.lt
      have ng : g ≠ gb := fun e => own_ne_blk hPj.own hPj.blk (by decide) (by rw [e]; rfl)
      have HO := keepf ho
      have HX := keepf hx
      have HQ := keepf hq
      have HPj := keepf hPj
      have HX2 := keepf hx2
      have HBK := keepf HPj.out.blk
      have HOW := keepf HPj.out.own
      have hN : o.length ≤ 16777216 := by omega
      obtain ⟨n, hn⟩ : ∃ n, n = o.length := ⟨_, rfl⟩
      have HN := keepf hn
      have HLT := keepf (show o.length < most by omega)
      rw [← hn] at e1 hql hcap1 hN hq HPj HOW
      have i0' : IntKind.i64.wrap ((n : Int) - far) = (n : Int) - far := by rw [IntKind.wrap_i64]; omega
      have i1 : (0 : Int) ≤ (n : Int) - far := by omega
      have i2 : (n : Int) - far < n := by omega
      have i3 : ((n : Int) - far).toNat = q := by omega
      have i4 : far ≤ n := by omega
      clear hPj ho hx hx2 hq hln hn
      go_upto_region 7 with fail
      first
        | (go_loud (go_region_law
            (refine step_append_lies _ (by rfl) _ _ _ (by rfl) 0 5 i0 _ 1 1 Tryz.underlying22 hi hz0 hz1 hz2 rfl (by omega) (.slice (some ⟨gb, 0, none⟩) n cap2) n (ucells o) (by rfl) ((own_chg (S := NoS) HOW.out ((Chg.refl _ _).alloc _) (fun _ _ h => h)).drew)
                  ⟨wr.heap.size, 0, none⟩ 1 1 [.int .u8 (x : Nat)] (by rfl) (by rfl) (World.news_of_block (cs := #[.int .u8 (x : Nat)]) (t := 5) (fr := (0, 0)) (heap_alloc_new wr _)) (by intro u hu; simp at hu; subst hu; rfl)
                  (by omega) (by unfold maxLen; omega) (by omega) (Nat.zero_le _) (wr.heap.size + 1) (by simp) ?_; intro gg cap w1 hown1 hgrow hat hlt1; have hb1 := ((HBK.out.alloc _).drew).grown hgrow (by simp [Value.ownBlock]; omega); have q3 := hb1.frozen 2; have e3 := hb1.cell 2; clear hb1)))
        | fail "region"
      all_goals
        have hdone := put_done (w := wr.drew) (x := x) (o := .cells #[.int .u8 (x : Nat)] 5) (HPj.out.news ((Chg.refl NoS _).drew)) HLT.out (by rw [← HN.out]; exact hown1) hgrow (by
          rcases hat with h | h
          · exact .inl h.symm
          · exact .inr (by rw [h]; simp [Value.ownBlock]))
        have hrep : rep far (j + 1) out = o ++ [x] := by rw [rep_snoc, ← HO.out, HX.out, HQ.out]
        have HD := keepf hdone
        have HR := keepf hrep
        clear hdone hrep hown1 hgrow hat hlt1
        go_wp2_with fail
        go_roundw
        case rel => exact ⟨j + 1, .slice (some ⟨gg, 0, none⟩) (n + 1) cap, by omega, by go_num, by rw [HR.out]; exact HD.out.1, HM2.out.trans ⟨HD.out.2.1.undrewN (n := 1), HD.out.2.2⟩⟩
        case measure => simp [intOf]; omega
    · obtain rfl : length = j := by omega
      go_wp2_with fail
      go_ret
      exact ⟨So2, rfl, HP2.out, HM2.out⟩
end Go.Proofs.YtmmilchmnimjoaaGreat
