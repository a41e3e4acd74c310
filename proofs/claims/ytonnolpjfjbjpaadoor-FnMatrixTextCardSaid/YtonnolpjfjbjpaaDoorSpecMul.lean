/- MulMatrix, as the model has it: the plain function of its numbers, in new memory; nothing that was there changes. -/
import Derived.Test.YtonnolpjfjbjpaaDoorSpecMin
import Derived.Deep.LoopGhost
namespace Go.Proofs.YtonnolpjfjbjpaaDoor
open Go.RowKit
set_option maxHeartbeats 2000000
set_option maxRecDepth 100000
set_option linter.unusedVariables false

theorem mulL_at (N : Nat) (zs ys : List Int) {k : Nat} (hk : k < N * N) : (mulL N zs ys).getD k 0 = dot (fun l => zs.getD (k / N * N + l) 0) (fun l => ys.getD (l * N + k % N) 0) N := by
  unfold mulL; rw [ofF_getD _ hk]; rfl

end Go.Proofs.YtonnolpjfjbjpaaDoor
