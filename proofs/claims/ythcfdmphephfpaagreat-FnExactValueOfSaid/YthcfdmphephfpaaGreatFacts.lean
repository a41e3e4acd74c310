/- What the kernel finds of the program as a whole, one by one. -/
import Derived.Test.YthcfdmphephfpaaGreatRows
import Derived.JoinedOf
import Derived.ProofKit
namespace Go.Proofs.YthcfdmphephfpaaGreat
open Go.ChangeShapes Go.WideShapes Go.ChangeAt Go.RowKit
theorem pf_maps : mapsRowed Tryz.prog = true := by kernel_rfl
theorem pf_stops : (Tryz.prog.stops == []) = true := by kernel_rfl
theorem pf_heard : Tryz.prog.stopsHeard = true := by kernel_rfl
theorem pf_enter : Tryz.prog.mayEnter = true := by kernel_rfl
theorem pf_laid : laidOutB Tryz.prog = true := by kernel_rfl
end Go.Proofs.YthcfdmphephfpaaGreat
