/- The model's reading of a number of at most 17 digits: it returns the number and true, or 0 and false; nothing changes. No condition. -/
import Derived.Test.YtmdddjiegjcekaaDoorRows
import Derived.Test.YtmdddjiegjcekaaDoorDigits
import Derived.WalkLawsBesides
import Derived.WalkSpells
import Derived.Handy
import Derived.Deep.DeepCutAuto
import Derived.BigQuiet
import Derived.Lib.IndexBytes
namespace Go.Proofs.YtmdddjiegjcekaaDoor
open Go.RowKit
set_option maxHeartbeats 1000000
set_option linter.unusedVariables false

def NumEnd (r : Option Int) (e : Ending) : Prop := e = .returned (.tuple #[.int .i64 (r.getD 0), .bool r.isSome])
theorem NumEnd.bad {r : Option Int} (h : r = none) : NumEnd r (.returned (.tuple #[.int .i64 0, .bool false])) := by rw [h]; rfl
theorem NumEnd.good {r : Option Int} {v : Int} (h : r = some v) : NumEnd r (.returned (.tuple #[.int .i64 v, .bool true])) := by rw [h]; rfl

end Go.Proofs.YtmdddjiegjcekaaDoor
