/- A drawn cost: it fits its kind; the reader goes on; nothing that was there changes. Condition: at most 10^12 draws. -/
import Derived.Test.YtonnolpjfjbjpaaDoorDraw1
namespace Go.Proofs.YtonnolpjfjbjpaaDoor
open Go.RowKit
set_option maxHeartbeats 1000000
set_option linter.unusedVariables false

end Go.Proofs.YtonnolpjfjbjpaaDoor
