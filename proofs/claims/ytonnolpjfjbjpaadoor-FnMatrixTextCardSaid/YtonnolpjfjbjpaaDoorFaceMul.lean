/- MulMatrix, as the program has it: the plain function of its numbers, in new memory; nothing that was there changes. -/
import Derived.Test.YtonnolpjfjbjpaaDoorFace
import Derived.Test.YtonnolpjfjbjpaaDoorSq7
namespace Go.Proofs.YtonnolpjfjbjpaaDoor
open Go.RowKit
set_option maxHeartbeats 1000000
set_option maxRecDepth 100000
set_option linter.unusedVariables false

theorem mv_at {n p q : Nat} {zs : List Int} (h : MV n zs) (hp : p = n * n) (hq : q < p) : 0 ≤ zs.getD q 0 ∧ zs.getD q 0 ≤ 1000000 := by
  have hq' : q < n * n := by rw [← hp]; exact hq
  have hb := h.in_ (q / n) (q % n) (div_lt_ hq') (mod_lt_ hq')
  have e : q / n * n + q % n = q := by rw [Nat.mul_comm, Nat.div_add_mod]
  simp only [cel] at hb
  rw [e] at hb
  exact hb

end Go.Proofs.YtonnolpjfjbjpaaDoor
