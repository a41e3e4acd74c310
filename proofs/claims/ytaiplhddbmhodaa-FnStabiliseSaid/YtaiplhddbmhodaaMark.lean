/- Matrices marked and held, as the laws do it. Condition: at most 2^20 and one numbers. -/
import Derived.Test.YtaiplhddbmhodaaMats
namespace Go.Proofs.Ytaiplhddbmhodaa
open Go.RowKit
set_option maxHeartbeats 1000000
set_option linter.unusedVariables false

end Go.Proofs.Ytaiplhddbmhodaa
