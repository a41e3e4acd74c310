/- Lesser squares, turned ones, units: each the plain function of its numbers, in new memory; nothing that was there changes. -/
import Derived.Test.YtocjjclegpbobaaSq2
namespace Go.Proofs.Ytocjjclegpbobaa
open Go.RowKit
set_option maxHeartbeats 1000000
set_option linter.unusedVariables false

theorem grow_drew (w : World) (r : Option Nat) : w.grownBy w.drew r := ⟨rfl, rfl, rfl, Nat.le_refl _, fun _ _ _ => rfl⟩
end Go.Proofs.Ytocjjclegpbobaa
