/- A scope with two labels: the run comes back to the first one by jumps, and from there it may jump ahead to the second one. Plain laws, no program. -/
import Derived.WalkMore
import Derived.ScopeJumps
namespace Go.Proofs.Ytbdnhhhagpgibaa
open Go

/-- As Q; by a goto to l0: J; by a goto to l1: what stands behind that label goes on. -/
def hop (P : Program) (l0 l1 : Nat) (x1 : Code) (J : Act → World → Prop) (Q : Exit → Act → World → Prop) : Exit → Act → World → Prop
  | .goto l, a, w => (l = l0 ∧ J a w) ∨ (l = l1 ∧ x1.wp P (Exit.jump l0 J Q) a w)
  | e, a, w => Q e a w

theorem jump_mono {l : Nat} {J J' : Act → World → Prop} {Q : Exit → Act → World → Prop} (h : ∀ a w, J a w → J' a w) : ∀ e a w, Exit.jump l J Q e a w → Exit.jump l J' Q e a w := by
  intro e a w hq
  cases e with
  | goto l' => exact ⟨hq.1, h _ _ hq.2⟩
  | normal => exact hq
  | exit id => exact hq
  | ret => exact hq
  | panic ch => exact hq
  | outgrown => exact hq
theorem hop_mono {P : Program} {l0 l1 : Nat} {x1 : Code} {J J' : Act → World → Prop} {Q : Exit → Act → World → Prop} (h : ∀ a w, J a w → J' a w) : ∀ e a w, hop P l0 l1 x1 J Q e a w → hop P l0 l1 x1 J' Q e a w := by
  intro e a w hq
  cases e with
  | goto l' => exact hq.imp (fun h1 => ⟨h1.1, h _ _ h1.2⟩) (fun h1 => ⟨h1.1, Code.wp_mono (jump_mono h) h1.2⟩)
  | normal => exact hq
  | exit id => exact hq
  | ret => exact hq
  | panic ch => exact hq
  | outgrown => exact hq

theorem hop_back {P : Program} {l0 l1 : Nat} {x1 : Code} {J : Act → World → Prop} {Q : Exit → Act → World → Prop} {a : Act} {w : World} (h : J a w) : hop P l0 l1 x1 J Q (.goto l0) a w := .inl ⟨rfl, h⟩
theorem hop_on {P : Program} {l0 l1 : Nat} {x1 : Code} {J : Act → World → Prop} {Q : Exit → Act → World → Prop} {a : Act} {w : World} (h : x1.wp P (Exit.jump l0 J Q) a w) : hop P l0 l1 x1 J Q (.goto l1) a w := .inr ⟨rfl, h⟩

theorem wp_skip_seq {P : Program} {x : Code} {Q : Exit → Act → World → Prop} {a : Act} {w : World} (h : x.wp P Q a w) : (Code.seq .skip x).wp P Q a w :=
  wp_seq (wp_skip h)

theorem wp_scope_hops {P : Program} {a : Act} {w : World} {Q : Exit → Act → World → Prop} {c x0 x1 : Code} (l0 l1 : Nat) (J : Nat → Act → World → Prop)
    (h0 : findLabel c l0 = some (.seq .skip x0)) (h1 : findLabel c l1 = some (.seq .skip x1))
    (pass : ∀ n a w, J n a w → x0.wp P (hop P l0 l1 x1 (fun a' w' => ∃ m, m < n ∧ J m a' w') Q) a w)
    (first : (∀ n a w, J n a w → x0.wp P (hop P l0 l1 x1 (fun a' w' => ∃ m, J m a' w') Q) a w) → c.wp P (hop P l0 l1 x1 (fun a' w' => ∃ m, J m a' w') Q) a w) :
    (Code.scope c).wp P Q a w := by
  have first := first (fun n a w h => Code.wp_mono (hop_mono (fun _ _ ⟨m, _, hm⟩ => ⟨m, hm⟩)) (pass n a w h))
  intro b k cs
  have hg0 : gotoIn l0 (.inScope c :: k) = some (.code (.seq .skip x0) :: .inScope c :: k) := by simp [gotoIn, h0]
  have hg1 : gotoIn l1 (.inScope c :: k) = some (.code (.seq .skip x1) :: .inScope c :: k) := by simp [gotoIn, h1]
  have one : ∀ (r : Code) a w (K : Act → World → Prop), r.wp P (Exit.jump l0 K Q) a w →
      (∀ a1 w1, K a1 w1 → ∃ e a' w', Q e a' w' ∧ Arrives P (lone (b.at a1 (.code (.seq .skip x0) :: .inScope c :: k)) cs w1) b k cs e a' w') →
      ∃ e a' w', Q e a' w' ∧ Arrives P (lone (b.at a (.code r :: .inScope c :: k)) cs w) b k cs e a' w' := by
    intro r a w K hr hK
    obtain ⟨e, a₁, w₁, hq, harr⟩ := hr b (.inScope c :: k) cs
    cases e with
    | normal => exact ⟨.normal, a₁, w₁, hq, Steps.trans harr (.one step_inScope)⟩
    | exit id => exact ⟨.exit id, a₁, w₁, hq, fun k' hk => harr k' (by simp [exitTo, hk])⟩
    | goto l' =>
      obtain ⟨rfl, hJ'⟩ := hq
      obtain ⟨e₂, a₂, w₂, hq₂, harr₂⟩ := hK a₁ w₁ hJ'
      exact ⟨e₂, a₂, w₂, hq₂, .of_steps (harr _ hg0) harr₂⟩
    | ret => exact ⟨_, a₁, w₁, hq, harr⟩
    | panic ch => exact ⟨_, a₁, w₁, hq, harr⟩
    | outgrown => exact ⟨_, a₁, w₁, hq, harr⟩
  have two : ∀ (r : Code) a w (K : Act → World → Prop), r.wp P (hop P l0 l1 x1 K Q) a w →
      (∀ a1 w1, K a1 w1 → ∃ e a' w', Q e a' w' ∧ Arrives P (lone (b.at a1 (.code (.seq .skip x0) :: .inScope c :: k)) cs w1) b k cs e a' w') →
      ∃ e a' w', Q e a' w' ∧ Arrives P (lone (b.at a (.code r :: .inScope c :: k)) cs w) b k cs e a' w' := by
    intro r a w K hr hK
    obtain ⟨e, a₁, w₁, hq, harr⟩ := hr b (.inScope c :: k) cs
    cases e with
    | normal => exact ⟨.normal, a₁, w₁, hq, Steps.trans harr (.one step_inScope)⟩
    | exit id => exact ⟨.exit id, a₁, w₁, hq, fun k' hk => harr k' (by simp [exitTo, hk])⟩
    | goto l' =>
      rcases hq with ⟨rfl, hJ'⟩ | ⟨rfl, hx⟩
      · obtain ⟨e₂, a₂, w₂, hq₂, harr₂⟩ := hK a₁ w₁ hJ'
        exact ⟨e₂, a₂, w₂, hq₂, .of_steps (harr _ hg0) harr₂⟩
      · obtain ⟨e₂, a₂, w₂, hq₂, harr₂⟩ := one _ a₁ w₁ K (wp_skip_seq hx) hK
        exact ⟨e₂, a₂, w₂, hq₂, .of_steps (harr _ hg1) harr₂⟩
    | ret => exact ⟨_, a₁, w₁, hq, harr⟩
    | panic ch => exact ⟨_, a₁, w₁, hq, harr⟩
    | outgrown => exact ⟨_, a₁, w₁, hq, harr⟩
  have key : ∀ n a w, J n a w → ∃ e a' w', Q e a' w' ∧ Arrives P (lone (b.at a (.code (.seq .skip x0) :: .inScope c :: k)) cs w) b k cs e a' w' := by
    intro n
    induction n using Nat.strongRecOn with
    | _ n ih =>
      intro a w hJ
      exact two _ a w _ (wp_skip_seq (pass n a w hJ)) (fun a1 w1 ⟨m, hm, hJ'⟩ => ih m hm a1 w1 hJ')
  obtain ⟨e, a₁, w₁, hq, harr⟩ := two c a w _ first (fun a1 w1 ⟨m, hJ'⟩ => key m a1 w1 hJ')
  cases e with
  | normal => exact ⟨.normal, a₁, w₁, hq, .head step_scope harr⟩
  | exit id => exact ⟨.exit id, a₁, w₁, hq, fun k' hk => .head step_scope (harr k' hk)⟩
  | goto l => exact ⟨.goto l, a₁, w₁, hq, fun k' hk => .head step_scope (harr k' hk)⟩
  | ret => exact ⟨_, a₁, w₁, hq, .of_steps (.one step_scope) harr⟩
  | panic ch => exact ⟨_, a₁, w₁, hq, .of_steps (.one step_scope) harr⟩
  | outgrown => exact ⟨_, a₁, w₁, hq, .of_steps (.one step_scope) harr⟩

/-- A row of slots is told by its slots. -/
theorem arr_any (t : Array Value) (n : Nat) (h : t.size = n) : t = ((List.range n).map (fun i => t.getD i undef)).toArray := by
  apply Array.ext
  · simp [h]
  · intro i h1 h2
    simp [Array.getD, h1]
end Go.Proofs.Ytbdnhhhagpgibaa
