/- The document's own answers: a number's bits, and bits as bytes. -/
import Derived.Test.YtkhhiaggmncehaaParts
namespace Go.Proofs.Ytkhhiaggmncehaa
open Go.RowKit
set_option linter.unusedVariables false

theorem info_bool : (Try.prog.info? 4).map (fun i => (i.zero, i.size, i.bytes)) = some (some (.bool false), 1, 1) := by kernel_rfl

/-- Truths, as cells. -/
def tcells (L : List Bool) : List Value := L.map Value.bool
theorem tcells_one (L : List Bool) : ∀ u ∈ tcells L, u.oneCell' = true := by
  intro u hu
  obtain ⟨_, _, rfl⟩ := List.mem_map.1 hu
  rfl
theorem tcells_len (L : List Bool) : (tcells L).length = L.length := by simp [tcells]
theorem bool_one (b : Bool) : ∀ u ∈ [Value.bool b], u.oneCell' = true := by
  intro u hu
  simp at hu
  subst hu
  rfl

/-- Behind Number, where there is one. -/
def NumTo (w : World) (n : Nat) (L : List Bool) (e : Ending) (w' : World) : Prop :=
  ∃ A cap, e = .returned (.tuple #[.slice A n cap, .bool true]) ∧ w'.ownsRow 0 4 1 (.slice A n cap) n (tcells L) ∧ Chg NoS w w' ∧ (∀ i, i < w.heap.size → (Value.slice A n cap).ownBlock ≠ some i)

/-- A row of truths that grows; nothing that was there has changed. -/
structure Grow (w wr : World) (L : List Bool) (k : Nat) (v : Value) : Prop where
  o : wr.ownsRow 0 4 1 v k (tcells L)
  c : Chg NoS w wr
  n : ∀ i, i < w.heap.size → v.ownBlock ≠ some i

theorem Grow.add {w wr w2 : World} {L M : List Bool} {k m : Nat} {v v2 : Value} {o : Obj} (h : Grow w wr L k v) (hg : (wr.alloc o).grownBy w2 v.ownBlock) (hO : w2.ownsRow 0 4 1 v2 (k + m) (tcells L ++ tcells M)) (hat : v2.ownBlock = v.ownBlock ∨ v2.ownBlock = some (wr.alloc o).heap.size) :
    Grow w w2 (L ++ M) (k + m) v2 := by
  have hc2 : Chg (fun i => v.ownBlock = some i) wr w2 := ((Chg.refl _ wr).alloc o).grown hg (fun i e _ => e)
  refine ⟨by simpa [tcells] using hO, h.c.trans hc2 (fun i h1 h2 => absurd h2 (h.n i h1)), fun i hi he => ?_⟩
  rcases hat with e | e
  · exact h.n i hi (e ▸ he)
  · rw [e] at he
    injection he with he
    have := h.c.size
    simp at he
    omega

theorem take_next (high : Bool) (x n k : Nat) (h : k < n) : (numBits high x n).take (k + 1) = (numBits high x n).take k ++ [x.testBit (bif high then n - 1 - k else k)] := by
  rw [List.take_succ_eq_append_getElem (by rw [numBits_length]; exact h)]
  congr 2
  simp [numBits]
end Go.Proofs.Ytkhhiaggmncehaa
