/- Whether a square of grades is its own square; the way from each to itself again and again; what becomes of a square that is repeated: each the plain function of its numbers; nothing that was there changes. -/
import Derived.Test.YtjhaegkefagngaaGreatDoorGVal
namespace Go.Proofs.YtjhaegkefagngaaGreatDoor
open Go.RowKit
set_option maxHeartbeats 2000000
set_option maxRecDepth 100000
set_option linter.unusedVariables false

theorem loopL_at {n q : Nat} (zs : List Int) (hq : q < n * n) : (loopL n zs).getD q 0 = if q / n = q % n then rep (zs.getD q 0) else 3 := by
  unfold loopL
  rw [ofF_getD _ hq]
  unfold loopF cel
  by_cases e : q / n = q % n
  · have e2 : q / n * n + q / n = q := by
      have h := Nat.div_add_mod q n
      rw [← e, Nat.mul_comm n] at h
      exact h
    rw [if_pos e, if_pos e, e2]
  · rw [if_neg e, if_neg e]
end Go.Proofs.YtjhaegkefagngaaGreatDoor
