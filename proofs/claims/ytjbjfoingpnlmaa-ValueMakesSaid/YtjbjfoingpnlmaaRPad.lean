/- The document's own Pad, and Check of a number. -/
import Derived.Test.YtjbjfoingpnlmaaRTxt
namespace Go.Proofs.Ytjbjfoingpnlmaa
open Go.RowKit
set_option linter.unusedVariables false
set_option linter.unusedSimpArgs false

/-- Digits with zeros ahead: the text, and the error. -/
def padOf (n d : Int) : List Nat × Int := if n < 0 ∨ d < 1 ∨ 20 < d ∨ d.toNat < (txt n.toNat d.toNat).length then ([], 2) else (txt n.toNat d.toNat, 0)
theorem pad_bad {n d : Int} (h : n < 0 ∨ d < 1 ∨ 20 < d ∨ d.toNat < (txt n.toNat d.toNat).length) : padOf n d = ([], 2) := if_pos h
theorem sb_nil : sb [] = ⟨#[]⟩ := rfl
end Go.Proofs.Ytjbjfoingpnlmaa
