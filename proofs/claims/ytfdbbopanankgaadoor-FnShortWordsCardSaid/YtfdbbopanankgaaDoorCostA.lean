/- Contracts of the cost functions of the program and of its model: each returns the plain function of its arguments; where it makes memory, nothing that was there changes. No condition but that the slices can be read. -/
import Derived.Test.YtfdbbopanankgaaDoorRows
import Derived.Test.YtfdbbopanankgaaDoorPlain
import Derived.Test.YtfdbbopanankgaaDoorCostV
import Derived.WalkKit
import Derived.Lib.Hide
import Derived.Handy
import Derived.BigQuiet
import Derived.Deep.QuietTactic
namespace Go.Proofs.YtfdbbopanankgaaDoor
open Go.RowKit
set_option maxHeartbeats 400000

end Go.Proofs.YtfdbbopanankgaaDoor
