/- TurnMatrix and MinMatrix, as the model has them: the plain functions of their numbers, in new memory; nothing that was there changes. -/
import Derived.Test.YtimdknlocfnhoaaSpec
import Derived.Deep.RegionHeld3
import Derived.Deep.AppendLies
import Derived.Test.YtimdknlocfnhoaaLastOp
import Derived.Test.YtimdknlocfnhoaaOpen
namespace Go.Proofs.Ytimdknlocfnhoaa
open Go.RowKit
set_option maxHeartbeats 1000000
set_option maxRecDepth 100000
set_option linter.unusedVariables false

theorem i64_small {n : Nat} (h : n < 16) : IntKind.i64.wrap (n : Int) = (n : Int) := IntWalk.i64_in _ (by omega)
end Go.Proofs.Ytimdknlocfnhoaa
