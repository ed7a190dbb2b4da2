/- Comparisons by a key, as a function value makes them. -/
import Derived.Test.YtkhhiaggmncehaaSwap
import Derived.Shelf.Abstract
namespace Go.Proofs.Ytkhhiaggmncehaa
open Go.RowKit
set_option linter.unusedVariables false

def cmpv (a b : Int) : Int := if a < b then -1 else if b < a then 1 else 0
theorem cmpv_lt (a b : Int) : decide (cmpv a b < 0) = decide (a < b) := by
  unfold cmpv
  by_cases h : a < b
  · simp [h]
  · rw [if_neg h]
    by_cases h2 : b < a
    · simp [h2, h]
    · simp [h2, h]

/-- The function value compares by a key; it changes nothing. -/
def CmpOf (g : Nat) (lb : Array Value) (key : Int → Int) (N : Int) (blk : Nat) (w0 : World) : Prop :=
  ∀ (x y : Int) (W : World), 0 ≤ x → x < N → 0 ≤ y → y < N → Chg (fun i => i = blk) w0 W → Calls Try.prog g (#[.int .i64 x, .int .i64 y] ++ lb) W fun e w' => e = .returned (.int .i64 (cmpv (key x) (key y))) ∧ ∃ m, w' = W.drewN m
def Good (N : Int) (d : List Int) : Prop := ∀ x ∈ d, 0 ≤ x ∧ x < N
theorem Good.get {N : Int} {d : List Int} (h : Good N d) (i : Nat) (hi : i < d.length) : 0 ≤ d.getD i 0 ∧ d.getD i 0 < N := by
  have e : d.getD i 0 = d[i] := by simp [List.getD_eq_getElem?_getD, hi]
  rw [e]
  exact h _ (List.getElem_mem hi)
theorem Good.same {N : Int} {d d' : List Int} {a b : Nat} (h : Good N d) (k : Same d d' a b) : Good N d' := fun x hx => h x (k.perm.mem_iff.1 hx)

theorem drewN_drewN (w : World) (m n : Nat) : (w.drewN m).drewN n = w.drewN (m + n) := by simp [World.drewN, Nat.add_assoc]
theorem quiet_draw {P : Program} {f : FuncId} {args : Array Value} {w : World} {n : Nat} {v : Value}
    (h : Calls P f args (w.drewN n) fun e w' => e = .returned v ∧ ∃ m, w' = (w.drewN n).drewN m) : Calls P f args (w.drewN n) fun e w'' => e = .returned v ∧ ∃ m, w'' = w.drewN m :=
  h.mono fun _ _ ⟨he, m, hm⟩ => ⟨he, n + m, by rw [hm, drewN_drewN]⟩

end Go.Proofs.Ytkhhiaggmncehaa
