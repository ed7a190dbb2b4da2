/- The document's own digits of a number, and Pad. -/
import Derived.Test.YtjbjfoingpnlmaaStr9
import Derived.Test.YtjbjfoingpnlmaaProg
import Derived.WalkKit
import Derived.WalkMore
import Derived.Laws.DeepStrings4
namespace Go.Proofs.Ytjbjfoingpnlmaa
open Go.RowKit
set_option linter.unusedVariables false
set_option linter.unusedSimpArgs false

theorem dig_extract : ∀ d, d < 10 → (ByteArray.mk #[48, 49, 50, 51, 52, 53, 54, 55, 56, 57]).extract d (d + 1) = sb [48 + d] := by
  intro d h
  rcases d with _ | _ | _ | _ | _ | _ | _ | _ | _ | _ | d
  all_goals first
    | rfl
    | decide
    | omega
end Go.Proofs.Ytjbjfoingpnlmaa
