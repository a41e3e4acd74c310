/- TurnMatrix and MinMatrix, as the model has them: the plain functions of their numbers, in new memory; nothing that was there changes. -/
import Derived.Test.YtaiplhddbmhodaaSpec
import Derived.Deep.RegionHeld3
import Derived.Deep.AppendLies
import Derived.Test.YtaiplhddbmhodaaLastOp
import Derived.Test.YtaiplhddbmhodaaOpen
namespace Go.Proofs.Ytaiplhddbmhodaa
open Go.RowKit
set_option maxHeartbeats 1000000
set_option maxRecDepth 100000
set_option linter.unusedVariables false

theorem sMatrixValid_p (m : Int) (A : Option Addr) (cap p : Nat) (zs : List Int) (r : Bool) (w : World) (hl : zs.length = p) (hz : Ints w w.heap.size A zs) (hr : matOk m zs = r) :
    Calls Try.prog 46 #[.agg #[.int .i64 m, .slice A p cap]] w fun e w' => e = .returned (.bool r) ∧ Below w.heap.size w w' := by
  subst hl; exact sMatrixValid_is m A cap zs r w hz hr
theorem i64_small {n : Nat} (h : n < 16) : IntKind.i64.wrap (n : Int) = (n : Int) := IntWalk.i64_in _ (by omega)
end Go.Proofs.Ytaiplhddbmhodaa
