/- The model's ParseCost, and the walk of the exact law of ParseCost: it returns true for all texts, and nothing that was there changes. -/
import Derived.Test.YtmdddjiegjcekaaDoorNum
import Derived.Test.YtmdddjiegjcekaaDoorRead
import Derived.Test.YtmdddjiegjcekaaDoorCostA
namespace Go.Proofs.YtmdddjiegjcekaaDoor
open Go.RowKit
set_option maxHeartbeats 400000
set_option linter.unusedVariables false

theorem l1In_t (n low high : Int) (w : World) (h : low ≤ n ∧ n ≤ high) : Calls Tryd.prog 19 #[.int .i64 n, .int .i64 low, .int .i64 high] w fun e w' => e = .returned (.bool true) ∧ w = w' := by
  have := l1In_any n low high w; rwa [decide_eq_true h] at this
theorem l1In_f (n low high : Int) (w : World) (h : ¬ (low ≤ n ∧ n ≤ high)) : Calls Tryd.prog 19 #[.int .i64 n, .int .i64 low, .int .i64 high] w fun e w' => e = .returned (.bool false) ∧ w = w' := by
  have := l1In_any n low high w; rwa [decide_eq_false h] at this
end Go.Proofs.YtmdddjiegjcekaaDoor
