/- A value's block (api.Value) of the call's own, known whole. -/
import Derived.Test.YtjbjfoingpnlmaaMem
import Derived.Test.YtjbjfoingpnlmaaProg
namespace Go.Proofs.Ytjbjfoingpnlmaa
open Go.RowKit
set_option linter.unusedVariables false

/-- A block of the call's own that is known whole, and that no other block has changed. -/
structure PB (w W : World) (g : Nat) (cs : Array Value) : Prop where
  blk : Blk W g 24 cs
  new : w.heap.size ≤ g
theorem PB.call {w W W' : World} {g : Nat} {cs : Array Value} (h : PB w W g cs) (hc : Chg NoS W W') : PB w W' g cs := ⟨h.blk.chg hc (fun h => h), h.new⟩
theorem PB.alloc {w W : World} {g : Nat} {cs : Array Value} (h : PB w W g cs) (o : Obj) : PB w (W.alloc o) g cs := ⟨h.blk.alloc o, h.new⟩
theorem PB.drew {w W : World} {g : Nat} {cs : Array Value} (h : PB w W g cs) : PB w W.drew g cs := ⟨h.blk.drew, h.new⟩
theorem PB.set {w W : World} {g : Nat} {cs : Array Value} (h : PB w W g cs) (i : Nat) (u : Value) : PB w (W.setCell ⟨g, i, none⟩ u) g (cs.setIfInBounds i u) := ⟨h.blk.set_ i u, h.new⟩
theorem PB.far {w W : World} {g g' : Nat} {cs : Array Value} (h : PB w W g cs) (hg : g ≠ g') (i : Nat) (u : Value) : PB w (W.setCell ⟨g', i, none⟩ u) g cs := ⟨h.blk.far (p := ⟨g', i, none⟩) hg u, h.new⟩
theorem PB.chg {w W : World} {g : Nat} {cs : Array Value} (h : PB w W g cs) (hc : Chg NoS w W) (i : Nat) (u : Value) : Chg NoS w (W.setCell ⟨g, i, none⟩ u) :=
  hc.setCell (p := ⟨g, i, none⟩) (fun h2 => absurd h2 (Nat.not_lt.2 h.new)) u
theorem PB.set4 {w W : World} {g : Nat} {cs : Array Value} {a b c d : Value} (h : PB w W g cs) (hc : Chg NoS w W) (hz : cs.size = 4) :
    PB w ((((W.setCell ⟨g, 0, none⟩ a).setCell ⟨g, 1, none⟩ b).setCell ⟨g, 2, none⟩ c).setCell ⟨g, 3, none⟩ d) g #[a, b, c, d] ∧ Chg NoS w ((((W.setCell ⟨g, 0, none⟩ a).setCell ⟨g, 1, none⟩ b).setCell ⟨g, 2, none⟩ c).setCell ⟨g, 3, none⟩ d) := by
  have h4 := (((h.set 0 a).set 1 b).set 2 c).set 3 d
  refine ⟨?_, ((((h.set 0 a).set 1 b).set 2 c).chg ((((h.set 0 a).set 1 b).chg ((h.set 0 a).chg (h.chg hc 0 a) 1 b) 2 c)) 3 d)⟩
  obtain ⟨l⟩ := cs
  match l, hz with
  | [x0, x1, x2, x3], _ => exact h4
theorem PB.far4 {w W : World} {g g' : Nat} {cs : Array Value} {a b c d : Value} (h : PB w W g cs) (hg : g ≠ g') :
    PB w ((((W.setCell ⟨g', 0, none⟩ a).setCell ⟨g', 1, none⟩ b).setCell ⟨g', 2, none⟩ c).setCell ⟨g', 3, none⟩ d) g cs := (((h.far hg 0 a).far hg 1 b).far hg 2 c).far hg 3 d
end Go.Proofs.Ytjbjfoingpnlmaa
