/- A scope with any number of labels: what holds at each jump to a label, with a number that each pass from a label lowers. Plain laws, no program. -/
import Derived.WalkMore
import Derived.ScopeJumps
namespace Go.Proofs.Ytmmehaghcfdjdaa
open Go

/-- As Q; by a goto to l: K l. -/
def hops (K : Nat → Act → World → Prop) (Q : Exit → Act → World → Prop) : Exit → Act → World → Prop
  | .goto l, a, w => K l a w
  | e, a, w => Q e a w

section
variable {K : Nat → Act → World → Prop} {Q : Exit → Act → World → Prop} {a : Act} {w : World}
@[go_sem] theorem hops_normal : hops K Q .normal a w = Q .normal a w := rfl
@[go_sem] theorem hops_exit (id : Nat) : hops K Q (.exit id) a w = Q (.exit id) a w := rfl
@[go_sem] theorem hops_ret : hops K Q .ret a w = Q .ret a w := rfl
@[go_sem] theorem hops_panic (ch : List PanicEntry) : hops K Q (.panic ch) a w = Q (.panic ch) a w := rfl
theorem hops_goto (l : Nat) : hops K Q (.goto l) a w = K l a w := rfl
end

theorem hops_mono {K K' : Nat → Act → World → Prop} {Q : Exit → Act → World → Prop} (h : ∀ l a w, K l a w → K' l a w) : ∀ e a w, hops K Q e a w → hops K' Q e a w := by
  intro e a w hq
  cases e with
  | goto l' => exact h _ _ _ hq
  | normal => exact hq
  | exit id => exact hq
  | ret => exact hq
  | panic ch => exact hq
  | outgrown => exact hq
theorem wp_skip_seqs {P : Program} {x : Code} {Q : Exit → Act → World → Prop} {a : Act} {w : World} (h : x.wp P Q a w) : (Code.seq .skip x).wp P Q a w :=
  wp_seq (wp_skip h)

theorem wp_scope_all {P : Program} {a : Act} {w : World} {Q : Exit → Act → World → Prop} {c : Code} (X : Nat → Code) (J : Nat → Nat → Act → World → Prop)
    (hf : ∀ n l a w, J l n a w → findLabel c l = some (.seq .skip (X l)))
    (pass : ∀ n l a w, J l n a w → (X l).wp P (hops (fun l' a' w' => ∃ m, m < n ∧ J l' m a' w') Q) a w)
    (first : (∀ n l a w, J l n a w → (X l).wp P (hops (fun l' a' w' => ∃ m, J l' m a' w') Q) a w) → c.wp P (hops (fun l' a' w' => ∃ m, J l' m a' w') Q) a w) :
    (Code.scope c).wp P Q a w := by
  have first := first (fun n l a w h => Code.wp_mono (hops_mono (fun _ _ _ ⟨m, _, hm⟩ => ⟨m, hm⟩)) (pass n l a w h))
  intro b k cs
  have two : ∀ (r : Code) a w (K : Nat → Act → World → Prop), r.wp P (hops K Q) a w →
      (∀ l a1 w1, K l a1 w1 → ∃ x, findLabel c l = some x ∧ ∃ e a' w', Q e a' w' ∧ Arrives P (lone (b.at a1 (.code x :: .inScope c :: k)) cs w1) b k cs e a' w') →
      ∃ e a' w', Q e a' w' ∧ Arrives P (lone (b.at a (.code r :: .inScope c :: k)) cs w) b k cs e a' w' := by
    intro r a w K hr hK
    obtain ⟨e, a₁, w₁, hq, harr⟩ := hr b (.inScope c :: k) cs
    cases e with
    | normal => exact ⟨.normal, a₁, w₁, hq, Steps.trans harr (.one step_inScope)⟩
    | exit id => exact ⟨.exit id, a₁, w₁, hq, fun k' hk => harr k' (by simp [exitTo, hk])⟩
    | goto l' =>
      obtain ⟨x, hx, e₂, a₂, w₂, hq₂, harr₂⟩ := hK l' a₁ w₁ hq
      have hg : gotoIn l' (.inScope c :: k) = some (.code x :: .inScope c :: k) := by simp [gotoIn, hx]
      exact ⟨e₂, a₂, w₂, hq₂, .of_steps (harr _ hg) harr₂⟩
    | ret => exact ⟨_, a₁, w₁, hq, harr⟩
    | panic ch => exact ⟨_, a₁, w₁, hq, harr⟩
    | outgrown => exact ⟨_, a₁, w₁, hq, harr⟩
  have key : ∀ n l a w, J l n a w → ∃ x, findLabel c l = some x ∧ ∃ e a' w', Q e a' w' ∧ Arrives P (lone (b.at a (.code x :: .inScope c :: k)) cs w) b k cs e a' w' := by
    intro n
    induction n using Nat.strongRecOn with
    | _ n ih =>
      intro l a w hJ
      exact ⟨_, hf n l a w hJ, two _ a w _ (wp_skip_seqs (pass n l a w hJ)) (fun l' a1 w1 ⟨m, hm, hJ'⟩ => ih m hm l' a1 w1 hJ')⟩
  obtain ⟨e, a₁, w₁, hq, harr⟩ := two c a w _ first (fun l' a1 w1 ⟨m, hJ'⟩ => key m l' a1 w1 hJ')
  cases e with
  | normal => exact ⟨.normal, a₁, w₁, hq, .head step_scope harr⟩
  | exit id => exact ⟨.exit id, a₁, w₁, hq, fun k' hk => .head step_scope (harr k' hk)⟩
  | goto l => exact ⟨.goto l, a₁, w₁, hq, fun k' hk => .head step_scope (harr k' hk)⟩
  | ret => exact ⟨_, a₁, w₁, hq, .of_steps (.one step_scope) harr⟩
  | panic ch => exact ⟨_, a₁, w₁, hq, .of_steps (.one step_scope) harr⟩
  | outgrown => exact ⟨_, a₁, w₁, hq, .of_steps (.one step_scope) harr⟩

/-- Where a jump to one of three labels leads. -/
def Lab3 (J0 J1 J2 : Nat → Act → World → Prop) (l n : Nat) (a : Act) (w : World) : Prop := (l = 0 ∧ J0 n a w) ∨ (l = 1 ∧ J1 n a w) ∨ (l = 2 ∧ J2 n a w)
theorem wp_scope3 {P : Program} {a : Act} {w : World} {Q : Exit → Act → World → Prop} {c x0 x1 x2 : Code} (J0 J1 J2 : Nat → Act → World → Prop)
    (h0 : findLabel c 0 = some (.seq .skip x0)) (h1 : findLabel c 1 = some (.seq .skip x1)) (h2 : findLabel c 2 = some (.seq .skip x2))
    (pass0 : ∀ n a w, J0 n a w → x0.wp P (hops (fun l' a' w' => ∃ m, m < n ∧ Lab3 J0 J1 J2 l' m a' w') Q) a w)
    (pass1 : ∀ n a w, J1 n a w → x1.wp P (hops (fun l' a' w' => ∃ m, m < n ∧ Lab3 J0 J1 J2 l' m a' w') Q) a w)
    (pass2 : ∀ n a w, J2 n a w → x2.wp P (hops (fun l' a' w' => ∃ m, m < n ∧ Lab3 J0 J1 J2 l' m a' w') Q) a w)
    (first : (∀ n a w, J0 n a w → x0.wp P (hops (fun l' a' w' => ∃ m, Lab3 J0 J1 J2 l' m a' w') Q) a w) → c.wp P (hops (fun l' a' w' => ∃ m, Lab3 J0 J1 J2 l' m a' w') Q) a w) :
    (Code.scope c).wp P Q a w := by
  refine wp_scope_all (fun l => if l = 0 then x0 else if l = 1 then x1 else x2) (Lab3 J0 J1 J2) ?_ ?_ ?_
  · rintro n l a w (⟨rfl, _⟩ | ⟨rfl, _⟩ | ⟨rfl, _⟩)
    · exact h0
    · exact h1
    · exact h2
  · rintro n l a w (⟨rfl, h⟩ | ⟨rfl, h⟩ | ⟨rfl, h⟩)
    · exact pass0 n a w h
    · exact pass1 n a w h
    · exact pass2 n a w h
  · intro hp
    exact first (fun n a w h => hp n 0 a w (.inl ⟨rfl, h⟩))
/-- Where a jump to one of two labels leads. -/
def Lab2 (J0 J1 : Nat → Act → World → Prop) (l n : Nat) (a : Act) (w : World) : Prop := (l = 0 ∧ J0 n a w) ∨ (l = 1 ∧ J1 n a w)
theorem wp_scope2 {P : Program} {a : Act} {w : World} {Q : Exit → Act → World → Prop} {c x0 x1 : Code} (J0 J1 : Nat → Act → World → Prop)
    (h0 : findLabel c 0 = some (.seq .skip x0)) (h1 : findLabel c 1 = some (.seq .skip x1))
    (pass0 : ∀ n a w, J0 n a w → x0.wp P (hops (fun l' a' w' => ∃ m, m < n ∧ Lab2 J0 J1 l' m a' w') Q) a w)
    (pass1 : ∀ n a w, J1 n a w → x1.wp P (hops (fun l' a' w' => ∃ m, m < n ∧ Lab2 J0 J1 l' m a' w') Q) a w)
    (first : (∀ n a w, J0 n a w → x0.wp P (hops (fun l' a' w' => ∃ m, Lab2 J0 J1 l' m a' w') Q) a w) → (∀ n a w, J1 n a w → x1.wp P (hops (fun l' a' w' => ∃ m, Lab2 J0 J1 l' m a' w') Q) a w) → c.wp P (hops (fun l' a' w' => ∃ m, Lab2 J0 J1 l' m a' w') Q) a w) :
    (Code.scope c).wp P Q a w := by
  refine wp_scope_all (fun l => if l = 0 then x0 else x1) (Lab2 J0 J1) ?_ ?_ ?_
  · rintro n l a w (⟨rfl, _⟩ | ⟨rfl, _⟩)
    · exact h0
    · exact h1
  · rintro n l a w (⟨rfl, h⟩ | ⟨rfl, h⟩)
    · exact pass0 n a w h
    · exact pass1 n a w h
  · intro hp
    exact first (fun n a w h => hp n 0 a w (.inl ⟨rfl, h⟩)) (fun n a w h => hp n 1 a w (.inr ⟨rfl, h⟩))
/-- Where a jump to the one label leads. -/
def Lab1 (J0 : Nat → Act → World → Prop) (l n : Nat) (a : Act) (w : World) : Prop := l = 0 ∧ J0 n a w
theorem wp_scope1 {P : Program} {a : Act} {w : World} {Q : Exit → Act → World → Prop} {c x0 : Code} (J0 : Nat → Act → World → Prop)
    (h0 : findLabel c 0 = some (.seq .skip x0))
    (pass0 : ∀ n a w, J0 n a w → x0.wp P (hops (fun l' a' w' => ∃ m, m < n ∧ Lab1 J0 l' m a' w') Q) a w)
    (first : (∀ n a w, J0 n a w → x0.wp P (hops (fun l' a' w' => ∃ m, Lab1 J0 l' m a' w') Q) a w) → c.wp P (hops (fun l' a' w' => ∃ m, Lab1 J0 l' m a' w') Q) a w) :
    (Code.scope c).wp P Q a w := by
  refine wp_scope_all (fun _ => x0) (Lab1 J0) ?_ ?_ ?_
  · rintro n l a w ⟨rfl, _⟩
    exact h0
  · rintro n l a w ⟨rfl, h⟩
    exact pass0 n a w h
  · intro hp
    exact first (fun n a w h => hp n 0 a w ⟨rfl, h⟩)

/-- A row of slots is told by its slots. -/
theorem arr_slots (t : Array Value) (n : Nat) (h : t.size = n) : t = ((List.range n).map (fun i => t.getD i undef)).toArray := by
  apply Array.ext
  · simp [h]
  · intro i h1 h2
    simp [Array.getD, h1]
end Go.Proofs.Ytmmehaghcfdjdaa
