/- A drawn cost; the drawn arguments of the laws over numbers: they fit their kind, and nothing that was there changes. Condition: the bytes can be read. -/
import Derived.Test.YtgnphlegbbplcaaDraw1
namespace Go.Proofs.Ytgnphlegbbplcaa
open Go.RowKit
set_option maxHeartbeats 1000000
set_option linter.unusedVariables false

theorem row_lit (w : World) (vs : List Int) : ∀ k, k < vs.length → (w.alloc (.cells (vs.map (Value.int .i64)).toArray 3)).cell? ⟨w.heap.size, k, none⟩ = some (.int .i64 (vs.getD k 0)) := by
  intro k hk
  rw [(Blk.new w 3 _).cell k]
  rw [List.getElem?_toArray, List.getElem?_map, List.getElem?_eq_getElem hk, List.getD_eq_getElem?_getD, List.getElem?_eq_getElem hk]
  rfl

theorem cost_any (w : World) (B g : Nat) (A : Option Addr) (cap : Nat) (zs : List Int) (p : Nat) (h : Rd w B g A cap zs p) (hp : p + 2 ≤ 1000000000000) :
    Calls Try.prog 34 #[.pointer (some ⟨g, 0, none⟩)] w fun e w' => DrawnN B g A cap zs p 2 fits w e w' := by
  go_enter Try.func34, Try.ntmps34
  go_wp2_with fail
  refine (pick_any _ _ _ _ _ _ _ _ h (by omega)).mono ?_
  rintro e w1 ⟨v, rfl, v0, v1, hoff, hrd⟩
  have hrd1 := hrd (by omega)
  have hv : v < 9 := v1 (by omega)
  have HO := Lib.hid hoff
  have HD := Lib.hid hrd1
  clear hrd v1 hoff hrd1
  go_wp2_with fail
  have hlt := HD.out.lt
  refine (num_of _ B g _ A cap zs _ 11 [0, 1, 2, 1000000, v, 0, 999999, 500000, -1, 1000001, 9223372036854775807] (HD.out.alloc _) (by omega) rfl (by omega) (by omega) (by omega) (row_lit w1 [0, 1, 2, 1000000, v, 0, 999999, 500000, -1, 1000001, 9223372036854775807])).mono ?_
  rintro e w2 ⟨x, q, rfl, hx, hq, hrd2, hg2⟩
  go_wp2_with fail
  go_ret
  refine ⟨x, q, rfl, ?_, by omega, hrd2, grow_trans HO.out.grown (grow_trans (World.grownBy_alloc _ _ _) hg2)⟩
  unfold fits
  simp only [List.mem_cons, List.mem_nil_iff, or_false] at hx
  omega

/-- What a drawing function leaves that returns two numbers. -/
def Drawn2 (w : World) (e : Ending) (w' : World) : Prop :=
  ∃ a b : Int, e = .returned (.tuple #[.int .i64 a, .int .i64 b]) ∧ fits a ∧ fits b ∧ Below w.heap.size w w'

theorem drawAdd_any (A : Option Addr) (cap : Nat) (zs : List Int) (w : World) (hz : IRow .u8 w w.heap.size A zs) (hc : zs.length ≤ cap) (hb : ∀ z ∈ zs, 0 ≤ z ∧ z ≤ 255) :
    Calls Try.prog 13 #[.slice A zs.length cap] w fun e w' => Drawn2 w e w' := by
  have HB := Lib.hid hb
  clear hb
  go_enter Try.func13, Try.ntmps13
  go_wp2_with fail
  refine (open_any _ _ _ _ hz hc HB.out).mono ?_
  rintro e w1 ⟨A1, cap1, ys, rfl, hrd, hbel⟩
  go_wp2_with fail
  refine (cost_any _ _ _ _ _ _ _ hrd (by omega)).mono ?_
  rintro e w2 ⟨a, q, rfl, ha, hq, hrd2, hg2⟩
  go_wp2_with fail
  refine (cost_any _ _ _ _ _ _ _ hrd2 (by omega)).mono ?_
  rintro e w3 ⟨b, q3, rfl, hb, hq3, hrd3, hg3⟩
  go_wp2_with fail
  go_ret2
  exact ⟨a, b, rfl, ha, hb, hbel.trans ((grow_below hg2 (Nat.le_refl _) hbel.size).trans (grow_below hg3 (Nat.le_refl _) (Nat.le_trans hbel.size hg2.size)))⟩

theorem drawMin_any (A : Option Addr) (cap : Nat) (zs : List Int) (w : World) (hz : IRow .u8 w w.heap.size A zs) (hc : zs.length ≤ cap) (hb : ∀ z ∈ zs, 0 ≤ z ∧ z ≤ 255) :
    Calls Try.prog 18 #[.slice A zs.length cap] w fun e w' => Drawn2 w e w' := by
  have HB := Lib.hid hb
  clear hb
  go_enter Try.func18, Try.ntmps18
  go_wp2_with fail
  refine (drawAdd_any _ _ _ _ hz hc HB.out).mono ?_
  rintro e w1 ⟨a, b, rfl, ha, hb, hbel⟩
  go_wp2_with fail
  go_ret2
  exact ⟨a, b, rfl, ha, hb, hbel⟩

theorem drawTimes_any (A : Option Addr) (cap : Nat) (zs : List Int) (w : World) (hz : IRow .u8 w w.heap.size A zs) (hc : zs.length ≤ cap) (hb : ∀ z ∈ zs, 0 ≤ z ∧ z ≤ 255) :
    Calls Try.prog 20 #[.slice A zs.length cap] w fun e w' => Drawn2 w e w' := by
  have HB := Lib.hid hb
  clear hb
  go_enter Try.func20, Try.ntmps20
  go_wp2_with fail
  refine (open_any _ _ _ _ hz hc HB.out).mono ?_
  rintro e w1 ⟨A1, cap1, ys, rfl, hrd, hbel⟩
  go_wp2_with fail
  refine (pick_any _ _ _ _ _ _ _ _ hrd (by omega)).mono ?_
  rintro e w2 ⟨v, rfl, v0, v1, hoff, hrd2⟩
  have hrd2' := hrd2 (by omega)
  have hv : v < 20 := v1 (by omega)
  have HO := Lib.hid hoff
  have HD := Lib.hid hrd2'
  clear hrd2 v1 hoff hrd2'
  go_wp2_with fail
  have hlt := HD.out.lt
  refine (num_of _ _ _ _ _ _ _ _ 9 [0, 1, 2, 3, v, 1000000, -1, 9223372036854775807, -9223372036854775808] (HD.out.alloc _) (by omega) rfl (by omega) (by omega) (by omega) (row_lit w2 [0, 1, 2, 3, v, 1000000, -1, 9223372036854775807, -9223372036854775808])).mono ?_
  rintro e w3 ⟨x, q, rfl, hx, hq, hrd3, hg3⟩
  have hfx : fits x := by
    unfold fits
    simp only [List.mem_cons, List.mem_nil_iff, or_false] at hx
    omega
  clear hx
  go_wp2_with fail
  refine (cost_any _ _ _ _ _ _ _ hrd3 (by omega)).mono ?_
  rintro e w4 ⟨b, q4, rfl, hb, hq4, hrd4, hg4⟩
  go_wp2_with fail
  go_ret2
  have hgw := grow_trans HO.out.grown (grow_trans (World.grownBy_alloc _ _ _) hg3)
  exact ⟨x, b, rfl, hfx, hb, hbel.trans ((grow_below hgw (Nat.le_refl _) hbel.size).trans (grow_below hg4 (Nat.le_refl _) (Nat.le_trans hbel.size hgw.size)))⟩

end Go.Proofs.Ytgnphlegbbplcaa
