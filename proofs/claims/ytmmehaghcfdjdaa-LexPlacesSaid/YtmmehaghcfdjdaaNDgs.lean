/- The program's Digits. -/
import Derived.Test.YtmmehaghcfdjdaaNDig
import Derived.Test.YtmmehaghcfdjdaaRChk
namespace Go.Proofs.Ytmmehaghcfdjdaa
open Go.RowKit
set_option linter.unusedVariables false
set_option linter.unusedSimpArgs false

theorem str_em {s : ByteArray} (h : s.size ≠ 0) : s.toList.isEmpty = false := by
  have h := str_ne h
  cases hl : s.toList with
  | nil => exact absurd hl h
  | cons x l => rfl
end Go.Proofs.Ytmmehaghcfdjdaa
