/- What New, Bytes and Align do. -/
import Derived.Test.YtbdnhhhagpgibaaPut
namespace Go.Proofs.Ytbdnhhhagpgibaa
open Go.RowKit
set_option linter.unusedVariables false

/-- A new slice of the values xs; nothing that was there has changed. -/
def NewRow (w : World) (t : TypeId) (size n : Nat) (xs : List Value) (e : Ending) (w' : World) : Prop :=
  ∃ A cap, e = .returned (.slice A n cap) ∧ w'.ownsRow 0 t size (.slice A n cap) n xs ∧ Chg NoS w w' ∧ (∀ i, i < w.heap.size → (Value.slice A n cap).ownBlock ≠ some i)

theorem bcells_one (high : Bool) (L : List Bool) : ∀ u ∈ bcells high L, u.oneCell' = true := by
  intro u hu
  obtain ⟨_, _, rfl⟩ := List.mem_map.1 hu
  rfl

/-- What fills up the last byte. -/
def padOf (n : Nat) : List Bool := List.replicate ((8 - n % 8) % 8) false

theorem byteAt_pad (high : Bool) (L : List Bool) (i k : Nat) : byteAt high (L ++ List.replicate k false) i = byteAt high L i := by
  apply obf_congr
  intro p _
  rw [getD_append]
  split
  · rfl
  · rename_i h
    simp only [List.getD_eq_getElem?_getD, List.getElem?_replicate]
    rw [List.getElem?_eq_none (by omega)]
    split <;> rfl

theorem bcells_pad (high : Bool) (L : List Bool) : bcells high (L ++ padOf L.length) = bcells high L ∧ nby (L ++ padOf L.length).length = nby L.length := by
  have e : nby (L ++ padOf L.length).length = nby L.length := by
    simp [padOf, nby]
    omega
  refine ⟨?_, e⟩
  rw [bcells, bcells, bytesOf, bytesOf, e]
  congr 2
  funext i
  exact byteAt_pad high L i _
end Go.Proofs.Ytbdnhhhagpgibaa
