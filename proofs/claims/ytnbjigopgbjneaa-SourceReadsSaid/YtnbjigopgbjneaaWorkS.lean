/- The small question that every statement of this layer asks. -/
import Derived.Test.YtnbjigopgbjneaaSame
namespace Go.Proofs.Ytnbjigopgbjneaa
open Go.RowKit
set_option linter.unusedVariables false

theorem wk1 : putF (0, 5) [] = [(0, 5)] := by decide

theorem wk2 : putF (5, 9) [(0, 5)] = [(0, 9)] := by decide

theorem wk3 : sumR [(0, 9)] = 9 := by decide

theorem wk4 : uptoL [(0, 9)] 3 = 9 := by decide

theorem wk5 : hasB (2, 9) [(0, 9)] = true := by decide

theorem wk6 : hasB (2, 10) [(0, 9)] = false := by decide

end Go.Proofs.Ytnbjigopgbjneaa
