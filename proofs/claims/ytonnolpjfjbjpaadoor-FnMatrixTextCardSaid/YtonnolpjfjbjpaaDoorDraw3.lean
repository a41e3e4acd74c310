/- A drawn list of numbers: at most four, each fits its kind; the reader goes on; nothing that was there changes. Condition: at most 10^12 draws. -/
import Derived.Test.YtonnolpjfjbjpaaDoorDrawCost
import Derived.Test.YtonnolpjfjbjpaaDoorOwn
import Derived.Test.YtonnolpjfjbjpaaDoorCostA
namespace Go.Proofs.YtonnolpjfjbjpaaDoor
open Go.RowKit
set_option maxHeartbeats 1000000
set_option linter.unusedVariables false

/-- What a drawing function leaves that returns a list. -/
def DrawnL (B g : Nat) (A : Option Addr) (cap : Nat) (zs : List Int) (p K : Nat) (w : World) (e : Ending) (w' : World) : Prop :=
  ∃ (x : Value) (vs : List Int) (q : Nat), e = .returned x ∧ w'.ownsRow w.heap.size 3 1 x vs.length (vs.map (Value.int .i64)) ∧ vs.length ≤ 4 ∧ (∀ z ∈ vs, fits z) ∧ q ≤ p + K ∧ Rd w' B g A cap zs q ∧ w.grownBy w' (some g)

end Go.Proofs.YtonnolpjfjbjpaaDoor
