/- Trees of spans in memory, and contracts of the small functions over them. -/
import Derived.Test.YtnbjigopgbjneaaMem
import Derived.Test.YtnbjigopgbjneaaSpans
import Derived.Test.YtnbjigopgbjneaaProg
import Derived.WalkKit
import Derived.Deep.QuietTactic
import Derived.BigQuiet
import Derived.Outline
import Derived.WalkLawsBesides
namespace Go.Proofs.Ytnbjigopgbjneaa
open Go.RowKit
set_option linter.unusedVariables false

/-- The tree t lies at v. -/
def At (w : World) : Tr → Option Addr → Prop
  | .leaf, v => v = none
  | .node y l r, v => ∃ b p q, v = some ⟨b, 0, none⟩ ∧ Blk w b 83 #[.int .i64 y.1, .int .i64 y.2, .pointer p, .pointer q] ∧ At w l p ∧ At w r q

/-- None of these blocks is a node's. -/
def NoNode (S : Nat → Prop) (w : World) : Prop := ∀ b cs, S b → ¬ Blk w b 83 cs

theorem noS_node (w : World) : NoNode NoS w := fun _ _ h => h.elim

theorem At.chg {S : Nat → Prop} {w w' : World} (hc : Chg S w w') (hN : NoNode S w) : ∀ {t : Tr} {v : Option Addr}, At w t v → At w' t v
  | .leaf, v, h => h
  | .node y l r, v, ⟨b, p, q, hv, hb, hl, hr⟩ => ⟨b, p, q, hv, hb.chg hc (fun h => hN b _ h hb), At.chg hc hN hl, At.chg hc hN hr⟩

theorem At.no {w w' : World} {t : Tr} {v : Option Addr} (h : At w t v) (hc : Chg NoS w w') : At w' t v := h.chg hc (noS_node w)

theorem ret_bool {a b : Bool} (h : a = b) : Ending.returned (.bool a) = .returned (.bool b) := by rw [h]

theorem ret_i64 {a b : Int} (h : a = b) : Ending.returned (.int .i64 a) = .returned (.int .i64 b) := by rw [h]

/-- A span, as a value. -/
abbrev encS (y : Sp) : Value := .agg #[.int .i64 y.1, .int .i64 y.2]

def emptyB (y : Sp) : Bool := decide (y.1 < 0 ∨ y.2 ≤ y.1)

theorem empty_any (y : Sp) (w : World) :
    Calls Try.prog 33 #[encS y] w fun e w' => e = .returned (.bool (emptyB y)) ∧ Chg NoS w w' := by
  obtain ⟨a, b⟩ := y
  by_cases h1 : a < 0
  · have H := keepf (show emptyB (a, b) = true by simp [emptyB, h1])
    go_enter Try.func33, Try.ntmps33
    go_wp2
    go_ret
    exact ⟨ret_bool H.out.symm, (Chg.refl _ _).alloc _⟩
  · have H := keepf (show emptyB (a, b) = decide (b ≤ a) by simp [emptyB, h1])
    have h2 : decide (a < 0) = false := by simpa using h1
    go_enter Try.func33, Try.ntmps33
    go_wp2
    go_ret
    exact ⟨ret_bool H.out.symm, (Chg.refl _ _).alloc _⟩

/-- Some number, and nothing changed. -/
def SomeU (w : World) (e : Ending) (w' : World) : Prop := ∃ n : Int, e = .returned (.int .u64 n) ∧ w = w'

theorem rank_any (y : Sp) (b : Nat) (p q : Option Addr) (w : World) (hb : Blk w b 83 #[.int .i64 y.1, .int .i64 y.2, .pointer p, .pointer q]) :
    Calls Try.prog 46 #[.pointer (some ⟨b, 0, none⟩)] w (SomeU w) := by
  have h0 := hb.cell 0
  simp at h0
  clear hb
  go_enter Try.func46, Try.ntmps46
  go_wp2
  go_ret
  exact ⟨_, rfl, rfl⟩

theorem between_any (y : Sp) (b : Nat) (p q a c : Option Addr) (w : World) (hb : Blk w b 83 #[.int .i64 y.1, .int .i64 y.2, .pointer p, .pointer q]) :
    Calls Try.prog 47 #[.pointer (some ⟨b, 0, none⟩), .pointer a, .pointer c] w fun e w' => e = .returned (.pointer (some ⟨w.heap.size, 0, none⟩)) ∧ w.alloc (.cells #[.int .i64 y.1, .int .i64 y.2, .pointer a, .pointer c] 83) = w' := by
  have h0 := hb.cell 0
  have h1 := hb.cell 1
  simp at h0 h1
  clear hb
  go_enter Try.func47, Try.ntmps47
  go_wp2
  go_ret
  exact ⟨rfl, rfl⟩

end Go.Proofs.Ytnbjigopgbjneaa
