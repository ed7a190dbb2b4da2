/- Merged by program: Works. -/
import Derived.Test.YtmmilchmnimjoaaGreatN00
import Derived.Laws.BytesArg
/- The small question that every statement asks first: three bits, written and read back. -/
namespace Go.Proofs.YtmmilchmnimjoaaGreat
open Go.RowKit
set_option linter.unusedVariables false
def bstr (bs : List Nat) : ByteArray := strOfNums (bs.map fun b : Nat => (b : Int))
end Go.Proofs.YtmmilchmnimjoaaGreat
