/- What Read, Get and Align of a reader do. -/
import Derived.Test.YtbdnhhhagpgibaaWriter
namespace Go.Proofs.Ytbdnhhhagpgibaa
open Go.RowKit
set_option linter.unusedVariables false

/-- The bytes bs, as cells. -/
def ucells (bs : List Nat) : List Value := bs.map fun b => .int .u8 (b : Nat)

/-- A reader of the bytes bs, at the place a. -/
def Rd (w : World) (g : Nat) (high : Bool) (bs : List Nat) (a : Nat) (S : Value) : Prop :=
  Blk w g 62 #[.bool true, .bool high, .int .i64 a, S] ∧ w.ownsRow 0 5 1 S bs.length (ucells bs)

/-- Behind Read: a new reader. -/
def ReadTo (w : World) (high : Bool) (bs : List Nat) (e : Ending) (w' : World) : Prop :=
  ∃ g S, e = .returned (.pointer (some ⟨g, 0, none⟩)) ∧ Rd w' g high bs 0 S ∧ Chg NoS w w' ∧ w.heap.size ≤ g ∧ (∀ i, i < w.heap.size → S.ownBlock ≠ some i)

theorem ucells_one (bs : List Nat) : ∀ u ∈ ucells bs, u.oneCell' = true := by
  intro u hu
  obtain ⟨_, _, rfl⟩ := List.mem_map.1 hu
  rfl

theorem read_any (high : Bool) (bs : List Nat) (A : Option Addr) (c : Nat) (w : World) (hS : Src w 1 A bs.length c (ucells bs)) (hL : bs.length ≤ 140737488355328) :
    Calls Try.prog 19 #[.slice A bs.length c, .bool high] w (ReadTo w high bs) := by
  have HS := keepf hS
  clear hS
  obtain ⟨i0, hi, hz0, hz1, hz2⟩ := info_parts info_u8
  go_enter Try.func19, Try.ntmps19
  go_wp2_with (first
    | (at_builtin; refine wpList_append_src rfl (.const (.slice none 0 0)) (.tmp 7) 22 rfl 5 i0 (.int .u8 0) 1 1 Try.underlying22 hi hz0 hz1 hz2 rfl (by decide) (.slice none 0 0) 0 [] rfl (own_nil _ _ _ _) _ _ _ _ rfl HS.out (ucells_one _) (by unfold maxLen; omega) (by omega) ?_; intro S2 w2 hown2 hgr hat; obtain ⟨A2, c2, rfl, hA2⟩ := own_slice hown2; have HG := keepf hgr; have HO2 := keepf hown2; have HA2 := keepf hat; clear hgr hown2 hat hA2))
  go_ret
  have h1 := HO2.out
  have h2 := HA2.out
  rw [Nat.zero_add, List.nil_append] at h1
  rw [Nat.zero_add] at h2
  have hc := (Chg.refl NoS w).grown HG.out (fun k e _ => by cases e)
  refine ⟨w2.heap.size, _, rfl, ⟨Blk.new _ _ _, own_chg (S := NoS) h1 ((Chg.refl _ _).alloc _) (fun _ _ h => h)⟩, hc.alloc _, hc.size, fun i hi he => ?_⟩
  rcases h2 with h | h
  · rw [h] at he; cases he
  · rw [h] at he; injection he with he; omega
end Go.Proofs.Ytbdnhhhagpgibaa
