/- A list marked and held, and the walk of the exact law of ParseCosts: it returns true for all texts, and nothing that was there changes. Condition: the library's limit of short texts reads as some number. -/
import Derived.Test.YtonnolpjfjbjpaaDoorParses
import Derived.Test.YtonnolpjfjbjpaaDoorDraw3
namespace Go.Proofs.YtonnolpjfjbjpaaDoor
open Go.RowKit
set_option maxHeartbeats 1000000
set_option linter.unusedVariables false

end Go.Proofs.YtonnolpjfjbjpaaDoor
