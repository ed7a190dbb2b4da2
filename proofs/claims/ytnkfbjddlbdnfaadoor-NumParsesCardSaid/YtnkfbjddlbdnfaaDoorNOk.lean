/- What the program's functions of numbers answer, as landed. -/
import Derived.Test.YtnkfbjddlbdnfaaDoorNCon
import Derived.Test.YtnkfbjddlbdnfaaDoorNPrs
import Derived.Test.YtnkfbjddlbdnfaaDoorNPrt
namespace Go.Proofs.YtnkfbjddlbdnfaaDoor
open Go.RowKit

theorem num_ok : NumOk where
  parse := fun s w hL h => parse_any s w h hL
  print := fun k n s A len cap w hL => print_any k n s A len cap w hL
  pad := fun n d w hL h0 h1 => pad_any n d w h0 h1 hL
  digits := fun s w h => digits_any s w (Nat.le_trans h (by omega))
  check := fun k n s A len cap w => chk_any k n s A len cap w
end Go.Proofs.YtnkfbjddlbdnfaaDoor
