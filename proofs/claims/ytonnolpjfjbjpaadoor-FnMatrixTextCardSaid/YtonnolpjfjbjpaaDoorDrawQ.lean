/- The drawn arguments of the laws over two matrices. Condition: the bytes can be read. -/
import Derived.Test.YtonnolpjfjbjpaaDoorDrawP
import Derived.Test.YtonnolpjfjbjpaaDoorVar
namespace Go.Proofs.YtonnolpjfjbjpaaDoor
open Go.RowKit
set_option maxHeartbeats 1000000
set_option maxRecDepth 100000
set_option linter.unusedVariables false

/-- What a drawing function leaves that returns two matrices, the second valid. -/
def Drawn2M (w : World) (e : Ending) (w' : World) : Prop :=
  ∃ (a b : Value) (m : Int) (N : Nat) (us vs : List Int), e = .returned (.tuple #[a, b]) ∧ MatOwn w' w.heap.size a m us ∧ us.length ≤ 18 ∧ MatOwn w' w.heap.size b N vs ∧ MV N vs ∧ Below w.heap.size w w'

theorem grow_under {w w0 w' : World} {g : Nat} (hb : Below w.heap.size w w0) (hg : w0.grownBy w' (some g)) (h : w.heap.size ≤ g) : Below w.heap.size w w' := hb.grown hg hb.size (fun j hj => by cases hj; exact h)

end Go.Proofs.YtonnolpjfjbjpaaDoor
