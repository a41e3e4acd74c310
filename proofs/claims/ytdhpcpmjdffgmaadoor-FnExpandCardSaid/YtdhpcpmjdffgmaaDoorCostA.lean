/- Contracts of the cost functions of the program and of its model: each returns the plain function of its arguments; where it makes memory, nothing that was there changes. No condition but that the slices can be read. -/
import Derived.Test.YtdhpcpmjdffgmaaDoorRows
import Derived.Test.YtdhpcpmjdffgmaaDoorPlain
import Derived.Test.YtdhpcpmjdffgmaaDoorCostV
import Derived.WalkKit
import Derived.Lib.Hide
import Derived.Handy
import Derived.BigQuiet
import Derived.Deep.QuietTactic
namespace Go.Proofs.YtdhpcpmjdffgmaaDoor
open Go.RowKit
set_option maxHeartbeats 400000

end Go.Proofs.YtdhpcpmjdffgmaaDoor
