/- What New, Bytes and Align do. -/
import Derived.Test.YtkhhiaggmncehaaPut
namespace Go.Proofs.Ytkhhiaggmncehaa
open Go.RowKit
set_option linter.unusedVariables false

theorem new_any (high : Bool) (w : World) :
    Calls Try.prog 20 #[.bool high] w fun e w' => e = .returned (.pointer (some ⟨w.heap.size, 0, none⟩)) ∧ w.alloc (.cells #[.bool true, .bool high, .int .i64 0, .slice none 0 0] 77) = w' := by
  go_enter Try.func20, Try.ntmps20
  go_wp2
  go_ret
  exact ⟨rfl, rfl⟩

theorem wr_new (high : Bool) (w : World) : Wr (w.alloc (.cells #[.bool true, .bool high, .int .i64 0, .slice none 0 0] 77)) w.heap.size high [] (.slice none 0 0) :=
  ⟨Blk.new _ _ _, own_nil _ _ _ _⟩

/-- A writer stays as it is where none of its blocks has changed. -/
theorem Wr.chg {w w' : World} {g : Nat} {high : Bool} {L : List Bool} {S : Value} {T : Nat → Prop} (h : Wr w g high L S) (hc : Chg T w w') (hT : ∀ i, WS g S i → ¬ T i) : Wr w' g high L S :=
  ⟨h.1.chg hc (hT g (.inl rfl)), own_chg h.2 hc (fun i hi => hT i (.inr hi))⟩

theorem Wr.lt {w : World} {g : Nat} {high : Bool} {L : List Bool} {S : Value} (h : Wr w g high L S) (i : Nat) (hi : WS g S i) : i < w.heap.size := by
  rcases hi with rfl | hi
  · exact h.1.lt
  · exact own_lt h.2 hi

/-- A new slice of the values xs; nothing that was there has changed. -/
def NewRow (w : World) (t : TypeId) (size n : Nat) (xs : List Value) (e : Ending) (w' : World) : Prop :=
  ∃ A cap, e = .returned (.slice A n cap) ∧ w'.ownsRow 0 t size (.slice A n cap) n xs ∧ Chg NoS w w' ∧ (∀ i, i < w.heap.size → (Value.slice A n cap).ownBlock ≠ some i)

theorem bcells_one (high : Bool) (L : List Bool) : ∀ u ∈ bcells high L, u.oneCell' = true := by
  intro u hu
  obtain ⟨_, _, rfl⟩ := List.mem_map.1 hu
  rfl

theorem bytes_any (g : Nat) (high : Bool) (L : List Bool) (S : Value) (w : World) (hW : Wr w g high L S) (hL : L.length ≤ 1073741824) :
    Calls Try.prog 22 #[.pointer (some ⟨g, 0, none⟩)] w (NewRow w 5 1 (nby L.length) (bcells high L)) := by
  have h0 := hW.1.cell 0
  have h3 := hW.1.cell 3
  have hown := hW.2
  obtain ⟨A, cap, rfl, hA⟩ := own_slice hown
  simp at h0 h3
  have HO := keepf hown
  have HS := keepf (src_own hown)
  clear hW hown hA
  obtain ⟨i0, hi, hz0, hz1, hz2⟩ := info_parts info_u8
  go_enter Try.func22, Try.ntmps22
  go_wp2_with (first
    | (go_at_call 35; refine (wready_any g _ h0).mono ?_; rintro e w' ⟨rfl, rfl⟩)
    | (at_builtin; refine wpList_append_src rfl (.const (.slice none 0 0)) (.tmp 9) 32 rfl 5 i0 (.int .u8 0) 1 1 Try.underlying32 hi hz0 hz1 hz2 rfl (by decide) (.slice none 0 0) 0 [] rfl (own_nil _ _ _ _) _ _ _ _ rfl HS.out (bcells_one _ _) (by unfold maxLen nby; omega) (by unfold nby; omega) ?_; intro S2 w2 hown2 hgr hat; obtain ⟨A2, c2, rfl, hA2⟩ := own_slice hown2; have HG := keepf hgr; have HO2 := keepf hown2; have HA2 := keepf hat; clear hgr hown2 hat hA2))
  go_ret
  have h1 := HO2.out
  rw [Nat.zero_add, List.nil_append] at h1
  exact ⟨A2, c2, rfl, h1, (Chg.refl NoS w).grown HG.out (fun k e _ => by cases e), fun i hi he => by
    rcases HA2.out with h | h
    · rw [Nat.zero_add] at h; rw [h] at he; cases he
    · rw [Nat.zero_add] at h; rw [h] at he; injection he with he; omega⟩

/-- What fills up the last byte. -/
def padOf (n : Nat) : List Bool := List.replicate ((8 - n % 8) % 8) false

theorem byteAt_pad (high : Bool) (L : List Bool) (i k : Nat) : byteAt high (L ++ List.replicate k false) i = byteAt high L i := by
  apply obf_congr
  intro p _
  rw [getD_append]
  split
  · rfl
  · rename_i h
    simp only [List.getD_eq_getElem?_getD, List.getElem?_replicate]
    rw [List.getElem?_eq_none (by omega)]
    split <;> rfl

theorem bcells_pad (high : Bool) (L : List Bool) : bcells high (L ++ padOf L.length) = bcells high L ∧ nby (L ++ padOf L.length).length = nby L.length := by
  have e : nby (L ++ padOf L.length).length = nby L.length := by
    simp [padOf, nby]
    omega
  refine ⟨?_, e⟩
  rw [bcells, bcells, bytesOf, bytesOf, e]
  congr 2
  funext i
  exact byteAt_pad high L i _

/-- Behind a call that fills up: as PutTo, without a result. -/
def FillTo (w : World) (g : Nat) (high : Bool) (L : List Bool) (S : Value) (e : Ending) (w' : World) : Prop :=
  e = .returned (.tuple #[]) ∧ Wr w' g high L S ∧ Chg (fun i => i = g) w w'

/-- What PutTo leaves, by blocks. -/
theorem PutTo.got {w w' : World} {g : Nat} {high : Bool} {L : List Bool} {S : Value} {e : Ending} (h : PutTo w g high L S e w') :
    e = .returned (.int .i64 0) ∧ ∃ S', Wr w' g high L S' ∧ Chg (WS g S) w w' ∧ (∀ i, WS g S' i → WS g S i ∨ w.heap.size ≤ i) := by
  obtain ⟨he, S', hW, hc, hf⟩ := h
  refine ⟨he, S', hW, hc, fun i hi => ?_⟩
  rcases hi with hi | hi
  · exact .inl (.inl hi)
  · rcases Nat.lt_or_ge i w.heap.size with h1 | h1
    · exact .inl (.inr (hf i h1 hi))
    · exact .inr h1
end Go.Proofs.Ytkhhiaggmncehaa
