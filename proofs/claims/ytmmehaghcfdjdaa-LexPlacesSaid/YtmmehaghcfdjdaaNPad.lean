/- The program's digits with zeros ahead (padded), digits without the zeros behind (shortest), and Pad. -/
import Derived.Test.YtmmehaghcfdjdaaNLib
import Derived.Test.YtmmehaghcfdjdaaRPrt
import Derived.Test.YtmmehaghcfdjdaaShelf
import Derived.WalkMore
import Derived.Deep.RegionHeld3
namespace Go.Proofs.Ytmmehaghcfdjdaa
open Go.RowKit
set_option linter.unusedVariables false
set_option linter.unusedSimpArgs false
end Go.Proofs.Ytmmehaghcfdjdaa
