/- The methods of squares of costs: a matrix of one, what a row becomes, products, lesser ones, turned ones: each the plain function of its numbers, in new memory; nothing that was there changes. -/
import Derived.Test.YtocjjclegpbobaaSq
import Derived.Laws.CopyOwn
import Derived.Deep.RegionHeld3
namespace Go.Proofs.Ytocjjclegpbobaa
open Go.RowKit
set_option maxHeartbeats 1000000
set_option linter.unusedVariables false

theorem info_int' : (Try.prog.info? 3).map (fun i => (i.zero, i.size, i.bytes)) = some (some (.int .i64 0), 1, 8) := by kernel_rfl
end Go.Proofs.Ytocjjclegpbobaa
