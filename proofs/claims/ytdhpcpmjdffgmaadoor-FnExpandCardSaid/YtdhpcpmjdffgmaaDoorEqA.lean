/- Two automata with the same fields held against each other, as the exact laws do: they are the same. No condition. Comparing numbers, strings and steps, the program's and the model's. Condition: the letters are a or b where two steps are held against each other. -/
import Derived.Test.YtdhpcpmjdffgmaaDoorToB
import Derived.Deep.RegionWith
import Derived.Lib.Bytealg
import Derived.Shelf.Small.Strs
namespace Go.Proofs.YtdhpcpmjdffgmaaDoor
open Go.RowKit
set_option maxHeartbeats 1000000
set_option maxRecDepth 100000
set_option linter.unusedVariables false

theorem below_dN {B : Nat} {a w : World} (h : Below B a w) (m : Nat) : Below B a (w.drewN m) := ⟨h.os, h.tape, h.output, h.size, h.block⟩
end Go.Proofs.YtdhpcpmjdffgmaaDoor
namespace Go.Proofs.YtdhpcpmjdffgmaaDoor
open Go.RowKit
set_option maxHeartbeats 1000000
set_option maxRecDepth 100000
set_option linter.unusedVariables false

def cmpI (x y : Int) : Int := if x < y then -1 else if y < x then 1 else 0
def orF : List Int → Int
  | [] => 0
  | z :: zs => if z = 0 then orF zs else z
end Go.Proofs.YtdhpcpmjdffgmaaDoor
