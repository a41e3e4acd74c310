/- Matrices marked and held, as the laws do it. Condition: at most 2^20 and one numbers. A matrix copied into memory of the call's own, as the laws do it. Condition: at most 2^20 numbers. -/
import Derived.Test.YtfdbbopanankgaaDoorMats
namespace Go.Proofs.YtfdbbopanankgaaDoor
open Go.RowKit
set_option maxHeartbeats 1000000
set_option linter.unusedVariables false

end Go.Proofs.YtfdbbopanankgaaDoor
namespace Go.Proofs.YtfdbbopanankgaaDoor
open Go.RowKit
set_option maxHeartbeats 1000000
set_option linter.unusedVariables false

theorem own_base {w : World} {base base' n : Nat} {t : TypeId} {x : Value} {xs : List Value} (h : w.ownsRow base t 1 x n xs) (hb : base' ≤ base) : w.ownsRow base' t 1 x n xs := by
  refine ⟨h.1, ?_⟩
  rcases h.2 with h0 | ⟨g, cap, cur, h1, h2, h3⟩
  · exact Or.inl h0
  · exact Or.inr ⟨g, cap, cur, h1, Nat.le_trans hb h2, h3⟩
end Go.Proofs.YtfdbbopanankgaaDoor
