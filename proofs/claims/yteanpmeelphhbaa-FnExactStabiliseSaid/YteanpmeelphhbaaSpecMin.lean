/- MinMatrix, as the model has it: the plain function of its numbers, in new memory; nothing that was there changes. -/
import Derived.Test.YteanpmeelphhbaaSpecTurn
import Derived.Test.YteanpmeelphhbaaFaceMin
namespace Go.Proofs.Yteanpmeelphhbaa
open Go.RowKit
set_option maxHeartbeats 1000000
set_option maxRecDepth 100000
set_option linter.unusedVariables false

end Go.Proofs.Yteanpmeelphhbaa
