/- What the kernel finds of the program as a whole, one by one. -/
import Derived.Test.YtdfnlaclggjckaaRows
import Derived.JoinedOf
import Derived.ProofKit
namespace Go.Proofs.Ytdfnlaclggjckaa
open Go.ChangeShapes Go.WideShapes Go.ChangeAt Go.RowKit
theorem pf_maps : mapsRowed Try.prog = true := by kernel_rfl
theorem pf_stops : (Try.prog.stops == []) = true := by kernel_rfl
theorem pf_heard : Try.prog.stopsHeard = true := by kernel_rfl
theorem pf_enter : Try.prog.mayEnter = true := by kernel_rfl
theorem pf_laid : laidOutB Try.prog = true := by kernel_rfl
end Go.Proofs.Ytdfnlaclggjckaa
