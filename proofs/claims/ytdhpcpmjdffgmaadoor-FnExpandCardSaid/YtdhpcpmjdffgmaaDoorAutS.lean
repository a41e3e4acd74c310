/- AutomatonValid, the program's: the plain function of its numbers and letters; nothing that was there changes. No condition. AutomatonValid, the model's: the plain function of its numbers and letters; nothing that was there changes. No condition. -/
import Derived.Test.YtdhpcpmjdffgmaaDoorValD
import Derived.Test.YtdhpcpmjdffgmaaDoorLastOp
import Derived.IntWalk
import Derived.Deep.DeepCutAuto
namespace Go.Proofs.YtdhpcpmjdffgmaaDoor
open Go.RowKit
set_option maxHeartbeats 8000000
set_option maxRecDepth 100000
set_option linter.unusedVariables false

def stepsF (n : Int) : Option StepD → List StepD → Bool
  | _, [] => true
  | none, s :: r => stepOk n s && stepsF n (some s) r
  | some q, s :: r => stepOk n s && (befS q s && stepsF n (some s) r)
def autoOk (m : Int) (xs ys : List Int) (ss : List StepD) : Bool := decide (1 ≤ m ∧ m ≤ 4) && (marksF m (-1) xs && (marksF m (-1) ys && (decide (ss.length ≤ 24) && stepsF m none ss)))
/-- The step ahead of place k. -/
def prevO (ss : List StepD) : Nat → Option StepD
  | 0 => none
  | j + 1 => some (ss.getD j default)
theorem befS_ge {s t : StepD} (h : befS s t = true) : ¬ 0 ≤ cmpS s t ∧ decide (0 ≤ cmpS s t) = false := by
  unfold befS at h
  have := of_decide_eq_true h
  exact ⟨by omega, decide_eq_false (by omega)⟩
theorem befS_lt {s t : StepD} (h : befS s t = false) : 0 ≤ cmpS s t ∧ decide (0 ≤ cmpS s t) = true := by
  unfold befS at h
  have := of_decide_eq_false h
  exact ⟨by omega, decide_eq_true (by omega)⟩
theorem stepOk_l {n : Int} {s : StepD} (h : stepOk n s = true) : IsL s.le := by
  unfold stepOk at h
  simp only [Bool.and_eq_true] at h
  exact isL_of h.2.2.1

end Go.Proofs.YtdhpcpmjdffgmaaDoor
namespace Go.Proofs.YtdhpcpmjdffgmaaDoor
open Go.RowKit
set_option maxHeartbeats 8000000
set_option maxRecDepth 100000
set_option linter.unusedVariables false

end Go.Proofs.YtdhpcpmjdffgmaaDoor
