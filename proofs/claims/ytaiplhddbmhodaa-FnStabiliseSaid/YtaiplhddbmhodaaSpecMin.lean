/- MinMatrix, as the model has it: the plain function of its numbers, in new memory; nothing that was there changes. -/
import Derived.Test.YtaiplhddbmhodaaSpecTurn
import Derived.Test.YtaiplhddbmhodaaFaceMin
namespace Go.Proofs.Ytaiplhddbmhodaa
open Go.RowKit
set_option maxHeartbeats 1000000
set_option maxRecDepth 100000
set_option linter.unusedVariables false

end Go.Proofs.Ytaiplhddbmhodaa
