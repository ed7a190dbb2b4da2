/- A region that draws its order, whose last operation (a store) waits for all others: what is held need not be held behind it. -/
import Derived.Test.YtjbjfoingpnlmaaMem
import Derived.Deep.RegionHeld
import Derived.StillTail
namespace Go.Proofs.Ytjbjfoingpnlmaa
open Go.RowKit
set_option linter.unusedVariables false
set_option linter.unusedSimpArgs false
variable {P : Program} {ops : Array Oper} {Q : Exit → Act → World → Prop} {md : Region.Mode} {S : World → Prop} {z : Nat}

/-- Whatever comes up next: behind it S holds, but for the operation z. -/
def anyZ (P : Program) (md : Region.Mode) (ops : Array Oper) (Q : Exit → Act → World → Prop) (S : World → Prop) (z : Nat) : Nat → Array Bool → Act → World → Prop
  | 0, li, a, w => Region.ready md ops li = [] ∧ Q .normal a w
  | n + 1, li, a, w => (Region.ready md ops li = [] → Q .normal a w) ∧ ∀ i ∈ Region.ready md ops li, wpOp P ops Q i (fun b u => (i ≠ z → S u) ∧ anyZ P md ops Q S z n (li.setIfInBounds i true) b u) a w
theorem any_of_Z : ∀ (n : Nat) (li : Array Bool) (a : Act) (w : World), anyZ P md ops Q S z n li a w → wpAny P md ops Q n li a w
  | 0, _, _, _, h => h
  | n + 1, _, _, _, h => ⟨h.1, fun i hi => wpOp_mono (fun b u k => any_of_Z n _ b u k.2) (h.2 i hi)⟩
theorem ready_un {i : Nat} {li : Array Bool} (h : i ∈ Region.ready md ops li) : li.getD i false = false := by
  have h0 := (mem_ready.1 h).1
  rcases Nat.lt_or_ge i li.size with h1 | h1
  · simpa [h1] using h0
  · simp [Array.getElem?_eq_none h1] at h0
theorem firstZ {i : Nat} {oi : Oper} {v : Value} (hi : ops[i]? = some oi) (hs : Region.noSelect ops = true) (hz : Region.waitsFor md ops z i = true) (hQ : ∀ c a w, Q (.panic c) (a.put oi.dst v) w → Q (.panic c) a w) :
    ∀ (n : Nat) (li : Array Bool) (a : Act) (w : World), (∀ j oj, ops[j]? = some oj → j ≠ i → li.getD j true = false → (∀ e ∈ oj.after, Region.binds md e = true → e.on ≠ i) → oi.apart ops oj = true) →
      i ∈ Region.ready md ops li → YieldsIf P ops S oi v a → S w → anyZ P md ops Q S z n (li.setIfInBounds i true) (a.put oi.dst v) w → anyZ P md ops Q S z (n + 1) li a w := by
  intro n
  induction n with
  | zero =>
    intro li a w _ hr hy hS H
    refine ⟨fun h => (by rw [h] at hr; cases hr), fun j hj => ?_⟩
    rcases Nat.decEq j i with hne | rfl
    · have h1 := ready_mono hj hne
      rw [H.1] at h1
      cases h1
    · exact hy.wpOp hi hS ⟨fun _ => hS, H⟩
  | succ n ih =>
    intro li a w hap hr hy hS H
    refine ⟨fun h => (by rw [h] at hr; cases hr), fun j hj => ?_⟩
    rcases Nat.decEq j i with hne | rfl
    · have hun := ready_un hr
      have waits : ∀ k ok, k ∈ Region.ready md ops li → ops[k]? = some ok → ∀ e ∈ ok.after, Region.binds md e = true → e.on ≠ i := by
        intro k ok hk hok e he hb heq
        obtain ⟨_, o', ho', hall⟩ := mem_ready.1 hk
        rw [hok] at ho'
        cases ho'
        have h2 := hall e he hb
        rw [heq, hun] at h2
        cases h2
      have hjz : j ≠ z := by
        rintro rfl
        obtain ⟨oz, hoz, e, he, hb, heq⟩ := Region.waitsFor_spec hz
        exact waits j oz hj hoz e he hb heq
      obtain ⟨hju, oj, hoj, _⟩ := mem_ready.1 hj
      have h3 := wpOp_putIf hoj (hap j oj hoj hne hju (waits j oj hj hoj)) (fun cs b => Region.noSelect_spec hs i oi cs b hi) (fun cs b => Region.noSelect_spec hs j oj cs b hoj) hQ hy (H.2 j (ready_mono hj hne))
      refine wpOp_mono (fun b u k => ⟨k.2.1, ih (li.setIfInBounds j true) b u (fun q oq hq hqi hqu hno => hap q oq hq hqi ?_ hno) (ready_mono hr (Ne.symm hne)) k.1 (k.2.1 hjz) ?_⟩) h3
      · rcases Nat.decEq j q with hjq | rfl
        · rwa [getD_set_ne true hjq] at hqu
        · exact hju
      · rw [Array.setIfInBounds_comm _ _ hne]
        exact k.2.2
    · exact hy.wpOp hi hS ⟨fun _ => hS, H⟩
/-- Number i is taken first. -/
theorem takeZ {i : Nat} {oi : Oper} {v : Value} {n : Nat} {li : Array Bool} {a : Act} {w : World} (hi : ops[i]? = some oi) (hs : Region.noSelect ops = true) (hz : Region.waitsFor md ops z i = true) (hf : Region.free md ops li i = true) (hr : (Region.ready md ops li).contains i = true)
    (hQ : ∀ c a w, Q (.panic c) (a.put oi.dst v) w → Q (.panic c) a w) (hy : YieldsIf P ops S oi v a) (hS : S w) (h : anyZ P md ops Q S z n (li.setIfInBounds i true) (a.put oi.dst v) w) : anyZ P md ops Q S z (n + 1) li a w :=
  firstZ hi hs hz hQ n li a w (Region.free_spec hi hf) (by simpa using hr) hy hS h
/-- One alone may come up. -/
theorem oneZ {i n : Nat} {o : Oper} {li : Array Bool} {a : Act} {w : World} (hr : Region.ready md ops li = [i]) (ho : ops[i]? = some o) (hne : i ≠ z)
    (h : ∀ K : Act → World → Prop, Hid (∀ a w, S w → (S w → anyZ P md ops Q S z n (li.setIfInBounds i true) a w) → K a w) → if Region.wanted o (yielded ops a.tmps) = true then Oper.wp P o a w K Q else K (a.put o.dst undef) w) : anyZ P md ops Q S z (n + 1) li a w := by
  refine ⟨fun h0 => (by rw [hr] at h0; cases h0), fun j hj => ?_⟩
  rw [hr] at hj
  obtain rfl := List.mem_singleton.1 hj
  exact wpOp_step ho (fun K hK => h K (fun a w hS hW => hK a w ⟨fun _ => hS, hW hS⟩))
/-- Either of two may come up. -/
theorem twoZ {i j n : Nat} {o o' : Oper} {li : Array Bool} {a : Act} {w : World} (hr : Region.ready md ops li = [i, j]) (ho : ops[i]? = some o) (ho' : ops[j]? = some o') (hne : i ≠ z) (hne' : j ≠ z)
    (h : ∀ K : Act → World → Prop, Hid (∀ a w, S w → (S w → anyZ P md ops Q S z n (li.setIfInBounds i true) a w) → K a w) → if Region.wanted o (yielded ops a.tmps) = true then Oper.wp P o a w K Q else K (a.put o.dst undef) w)
    (h' : ∀ K : Act → World → Prop, Hid (∀ a w, S w → (S w → anyZ P md ops Q S z n (li.setIfInBounds j true) a w) → K a w) → if Region.wanted o' (yielded ops a.tmps) = true then Oper.wp P o' a w K Q else K (a.put o'.dst undef) w) : anyZ P md ops Q S z (n + 1) li a w := by
  refine ⟨fun h0 => (by rw [hr] at h0; cases h0), fun k hk => ?_⟩
  rw [hr] at hk
  simp only [List.mem_cons, List.not_mem_nil, or_false] at hk
  rcases hk with rfl | rfl
  · exact wpOp_step ho (fun K hK => h K (fun a w hS hW => hK a w ⟨fun _ => hS, hW hS⟩))
  · exact wpOp_step ho' (fun K hK => h' K (fun a w hS hW => hK a w ⟨fun _ => hS, hW hS⟩))
/-- The last one, z: S is not asked. -/
theorem lastZ {n : Nat} {o : Oper} {li : Array Bool} {a : Act} {w : World} (hr : Region.ready md ops li = [z]) (ho : ops[z]? = some o) (hr2 : Region.ready md ops (li.setIfInBounds z true) = [])
    (h : ∀ K : Act → World → Prop, Hid (∀ a w, Q .normal a w → K a w) → if Region.wanted o (yielded ops a.tmps) = true then Oper.wp P o a w K Q else K (a.put o.dst undef) w) : anyZ P md ops Q S z (n + 1) li a w := by
  refine ⟨fun h0 => (by rw [hr] at h0; cases h0), fun j hj => ?_⟩
  rw [hr] at hj
  obtain rfl := List.mem_singleton.1 hj
  refine wpOp_step ho (fun K hK => h K (fun a w hq => hK a w ⟨fun h => absurd rfl h, ?_⟩))
  cases n with
  | zero => exact ⟨hr2, hq⟩
  | succ n => exact ⟨fun _ => hq, fun i hi => (by rw [hr2] at hi; cases hi)⟩
theorem startZ {id : Nat} {a : Act} {w : World} (S : World → Prop) (z : Nat) (hm : P.follows .mixedOrders = true) (hS : S w.drew) (h : S w.drew → anyZ P .any ops Q S z ops.size (Array.replicate ops.size false) a w.drew) : (Code.region id ops true).wp P Q a w :=
  wp_region_any hm (any_of_Z _ _ _ _ (h hS))
end Go.Proofs.Ytjbjfoingpnlmaa
