/- A drawn cost: it fits its kind; the reader goes on; nothing that was there changes. Condition: at most 10^12 draws. -/
import Derived.Test.YtgnphlegbbplcaaDoorDraw1
namespace Go.Proofs.YtgnphlegbbplcaaDoor
open Go.RowKit
set_option maxHeartbeats 1000000
set_option linter.unusedVariables false

theorem row_lit (w : World) (vs : List Int) : ∀ k, k < vs.length → (w.alloc (.cells (vs.map (Value.int .i64)).toArray 3)).cell? ⟨w.heap.size, k, none⟩ = some (.int .i64 (vs.getD k 0)) := by
  intro k hk
  rw [(Blk.new w 3 _).cell k]
  rw [List.getElem?_toArray, List.getElem?_map, List.getElem?_eq_getElem hk, List.getD_eq_getElem?_getD, List.getElem?_eq_getElem hk]
  rfl

theorem cost_any (w : World) (B g : Nat) (A : Option Addr) (cap : Nat) (zs : List Int) (p : Nat) (h : Rd w B g A cap zs p) (hp : p + 2 ≤ 1000000000000) :
    Calls Tryd.prog 39 #[.pointer (some ⟨g, 0, none⟩)] w fun e w' => DrawnN B g A cap zs p 2 fits w e w' := by
  go_enter Tryd.func39, Tryd.ntmps39
  go_wp2_with fail
  refine (pick_any _ _ _ _ _ _ _ _ h (by omega)).mono ?_
  rintro e w1 ⟨v, rfl, v0, v1, hoff, hrd⟩
  have hrd1 := hrd (by omega)
  have hv : v < 9 := v1 (by omega)
  have HO := Lib.hid hoff
  have HD := Lib.hid hrd1
  clear hrd v1 hoff hrd1
  go_wp2_with fail
  have hlt := HD.out.lt
  refine (num_of _ B g _ A cap zs _ 11 [0, 1, 2, 1000000, v, 0, 999999, 500000, -1, 1000001, 9223372036854775807] (HD.out.alloc _) (by omega) rfl (by omega) (by omega) (by omega) (row_lit w1 [0, 1, 2, 1000000, v, 0, 999999, 500000, -1, 1000001, 9223372036854775807])).mono ?_
  rintro e w2 ⟨x, q, rfl, hx, hq, hrd2, hg2⟩
  go_wp2_with fail
  go_ret
  refine ⟨x, q, rfl, ?_, by omega, hrd2, grow_trans HO.out.grown (grow_trans (World.grownBy_alloc _ _ _) hg2)⟩
  unfold fits
  simp only [List.mem_cons, List.mem_nil_iff, or_false] at hx
  omega

end Go.Proofs.YtgnphlegbbplcaaDoor
