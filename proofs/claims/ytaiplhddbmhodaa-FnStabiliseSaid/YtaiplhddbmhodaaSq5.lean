/- Squares turned: the plain function of their numbers, in new memory; nothing that was there changes. -/
import Derived.Test.YtaiplhddbmhodaaSq
namespace Go.Proofs.Ytaiplhddbmhodaa
open Go.RowKit
set_option maxHeartbeats 1000000
set_option linter.unusedVariables false
theorem turnL_at {n a b : Nat} (zs : List Int) (ha : a < n) (hb : b < n) : (turnL n zs).getD (a * n + b) 0 = zs.getD (b * n + a) 0 := by
  have h := cel_ofF (turnF (cel n zs)) ha hb
  exact h
end Go.Proofs.Ytaiplhddbmhodaa
