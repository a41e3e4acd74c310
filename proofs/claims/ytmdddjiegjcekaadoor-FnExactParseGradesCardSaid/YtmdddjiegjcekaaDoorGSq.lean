/- Squares of grades: a matrix of one, units, products: each the plain function of its numbers, in new memory; nothing that was there changes. -/
import Derived.Test.YtmdddjiegjcekaaDoorSq7
import Derived.Test.YtmdddjiegjcekaaDoorLastOp
import Derived.Test.YtmdddjiegjcekaaDoorGr
import Derived.Laws.CopyOwn
namespace Go.Proofs.YtmdddjiegjcekaaDoor
open Go.RowKit
set_option maxHeartbeats 2000000
set_option maxRecDepth 100000
set_option linter.unusedVariables false
theorem info_grade : (Tryd.prog.info? 40).map (fun i => (i.zero, i.size, i.bytes)) = some (some (.int .i64 0), 1, 8) := by kernel_rfl
abbrev GSq (w : World) (g : Nat) (zs : List Int) : Prop := Nm w g 40 zs
theorem gunitL_at {n q : Nat} (hq : q < n * n) : (gunitL n).getD q 0 = if q / n = q % n then 0 else 3 := by
  unfold gunitL; rw [ofF_getD _ hq]; rfl
/-- What a row becomes behind a square. -/
def gbehindL (n : Nat) (F : Nat → Int) (zs : List Int) : List Int := (List.range n).map fun k => gdot F (fun l => zs.getD (l * n + k) 0) n
theorem gbehindL_len (n : Nat) (F : Nat → Int) (zs : List Int) : (gbehindL n F zs).length = n := by simp [gbehindL]
theorem gbehindL_at {n k : Nat} (F : Nat → Int) (zs : List Int) (hk : k < n) : (gbehindL n F zs).getD k 0 = gdot F (fun l => zs.getD (l * n + k) 0) n := by
  unfold gbehindL
  rw [List.getD_eq_getElem?_getD, List.getElem?_map, List.getElem?_range hk]
  rfl
theorem gmulL_row (n : Nat) (zs ys : List Int) {i k : Nat} (hi : i < n) (hk : k < n) : (gmulL n zs ys).getD (i * n + k) 0 = gdot (fun l => zs.getD (i * n + l) 0) (fun l => ys.getD (l * n + k) 0) n := by
  unfold gmulL
  rw [ofF_getD _ (at_lt hi hk)]
  show gdot (fun l => zs.getD ((i * n + k) / n * n + l) 0) (fun l => ys.getD (l * n + (i * n + k) % n) 0) n = _
  rw [at_div hk, at_mod hk]
end Go.Proofs.YtmdddjiegjcekaaDoor
