/- A drawn matrix that is mostly valid, and the drawn argument of the texts of matrices. Condition: the bytes can be read. -/
import Derived.Test.YtonnolpjfjbjpaaDoorDrawQ
namespace Go.Proofs.YtonnolpjfjbjpaaDoor
open Go.RowKit
set_option maxHeartbeats 1000000
set_option maxRecDepth 100000
set_option linter.unusedVariables false

theorem own_far2 {w : World} {base a n : Nat} {x : Value} {xs : List Value} (h : w.ownsRow base 3 1 x n xs) (ha : a < base) (v0 v1 : Value) : ((w.setCell ⟨a, 0, none⟩ v0).setCell ⟨a, 1, none⟩ v1).ownsRow base 3 1 x n xs :=
  own_far (own_far h (grow_set w a 0 v0) ha) (grow_set _ a 1 v1) ha
theorem l2Some_any (w : World) (B g : Nat) (A : Option Addr) (cap : Nat) (zs : List Int) (q0 : Nat) (h : Rd w B g A cap zs q0) (hq0 : q0 + 40 ≤ 1000000000000) :
    Calls Tryd.prog 16 #[.pointer (some ⟨g, 0, none⟩)] w fun e w' => DrawnA w.heap.size B g A cap zs q0 20 w e w' := by
  have hgw := h.lt
  go_enter Tryd.func16, Tryd.ntmps16
  go_wp2_with fail
  refine (pick_any _ _ _ _ _ _ _ _ (h.alloc _) (by omega)).mono ?_
  rintro e w2 ⟨v, rfl, v0, v1, hoff, hrd⟩
  obtain ⟨k, rfl⟩ := Int.eq_ofNat_of_zero_le v0
  have hk4 : k < 4 := by have := v1 (by omega); omega
  obtain ⟨N, hN⟩ : ∃ N, N = 1 + k := ⟨_, rfl⟩
  have D2 := Lib.hid (hrd (by omega))
  have R2 := Lib.hid (show Blk w2 w.heap.size 25 #[.int .i64 0, .slice none 0 0] from hoff.blk (Blk.new _ _ _) (by omega))
  have G2 := Lib.hid (grow_trans (grow_below_any (below_a1 w (.cells #[.int .i64 0, .slice none 0 0] 25)) (some g)) hoff.grown)
  have n1 : 1 ≤ N := by omega
  have n2 : N ≤ 4 := by omega
  have h1N : 1 + (k : Int) = (N : Int) := by omega
  have hw2 : w.heap.size + 1 ≤ w2.heap.size := by have := Blk.lt R2.out; omega
  clear hrd hoff v0 v1 h hN
  go_wp2_with fail
  refine (l2Draw_any _ B g A cap zs _ N D2.out (by omega) n1 n2).mono ?_
  rintro e w3 ⟨_, vs, q3, rfl, ⟨x3, rfl, ho3, hl3⟩, mv3, hq3, hrd3, hg3⟩
  obtain ⟨A3, cap3, rfl, _, _⟩ := own_ints ho3 (by unfold maxLen; omega)
  have R3 := Lib.hid (R2.out.grown hg3 (by omega))
  have G3 := Lib.hid (grow_trans G2.out hg3)
  have D3 := Lib.hid hrd3
  have O3 := Lib.hid ho3
  have hl4 := mv3.few
  have hl5 : 1 ≤ vs.length := by rw [mv3.len]; exact Nat.mul_pos n1 n1
  have hw3 : w2.heap.size ≤ w3.heap.size := hg3.size
  clear hrd3 hg3 ho3 mv3 h1N
  go_wp2_with fail
  refine (l2Bad_any _ w2.heap.size B g A cap zs q3 N vs.length A3 cap3 vs D3.out (by omega) rfl hl5 (by omega) O3.out (by omega) hw3).mono ?_
  rintro e w4 ⟨_, m, us, q4, rfl, ⟨x4, rfl, ho4, hl6⟩, hl7, hq4, hrd4, hg4⟩
  obtain ⟨A4, cap4, rfl, _, _⟩ := own_ints ho4 (by unfold maxLen; omega)
  have R4 := Lib.hid (R3.out.grown hg4 (by omega))
  have G4 := Lib.hid (grow_trans G3.out hg4)
  have D4 := Lib.hid hrd4
  have O4 := Lib.hid ho4
  clear hrd4 hg4 ho4
  obtain ⟨c0, c1⟩ := two_cells R4.out
  obtain ⟨f0, f1⟩ := two_frozen R4.out
  go_wp2_with fail
  have HV := (R4.out.set_ 0 (.int .i64 m)).set_ 1 (.slice A4 us.length cap4)
  have HO := own_base (own_far2 O4.out (a := w.heap.size) (by omega) (.int .i64 m) (.slice A4 us.length cap4)) (show w.heap.size ≤ _ by omega)
  have KEY := Lib.hid (show DrawnA w.heap.size B g A cap zs q0 20 w (.returned (.agg #[.int .i64 m, .slice A4 us.length cap4])) ((w4.setCell ⟨w.heap.size, 0, none⟩ (.int .i64 m)).setCell ⟨w.heap.size, 1, none⟩ (.slice A4 us.length cap4)) from
    ⟨_, m, us, q4, rfl, ⟨_, rfl, HO, hl6⟩, hl7, by omega, (D4.out.grown (grow_set w4 w.heap.size 0 (.int .i64 m)) (fun j hj => by cases hj; omega)).grown (grow_set _ w.heap.size 1 (.slice A4 us.length cap4)) (fun j hj => by cases hj; omega), grow_own (grow_own G4.out (grow_set w4 w.heap.size 0 (.int .i64 m)) (fun j hj => by cases hj; omega)) (grow_set _ w.heap.size 1 (.slice A4 us.length cap4)) (fun j hj => by cases hj; omega)⟩)
  clear HO c0 c1 f0 f1
  refine bodyPost_ret (results_1 rfl (gives_mat (g := w.heap.size) rfl HV)) rfl ?_
  exact KEY.out

/-- What a drawing function leaves that returns one matrix. -/
def Drawn1M (w : World) (e : Ending) (w' : World) : Prop :=
  ∃ (A : Option Addr) (cap : Nat) (m : Int) (us : List Int), e = .returned (.agg #[.int .i64 m, .slice A us.length cap]) ∧ Hid (w'.ownsRow w.heap.size 3 1 (.slice A us.length cap) us.length (us.map (Value.int .i64))) ∧ us.length ≤ 18 ∧ Hid (Below w.heap.size w w')
theorem drawFmtM_any (A : Option Addr) (cap : Nat) (zs : List Int) (w : World) (hz : IRow .u8 w w.heap.size A zs) (hc : zs.length ≤ cap) (hb : ∀ z ∈ zs, 0 ≤ z ∧ z ≤ 255) :
    Calls Tryd.prog 4 #[.slice A zs.length cap] w fun e w' => Drawn1M w e w' := by
  have HB := Lib.hid hb
  have HZ := Lib.hid hz
  clear hb hz
  go_enter Tryd.func4, Tryd.ntmps4
  go_wp2_with fail
  obtain ⟨w2, hw2⟩ : ∃ w2, w2 = w.alloc (.cells #[.int .i64 0, .slice none 0 0] 25) := ⟨_, rfl⟩
  have B2 : Hid (Below w.heap.size w w2) := by rw [hw2]; exact below_a1 _ _
  have R2 : Hid (Blk w2 w.heap.size 25 #[.int .i64 0, .slice none 0 0]) := by rw [hw2]; exact Blk.new _ _ _
  rw [← hw2]
  clear hw2
  have Z2 := Lib.hid ((HZ.out.below B2.out).more B2.out.size)
  refine (open_any A cap zs w2 Z2.out hc HB.out).mono ?_
  rintro e w3 ⟨A1, cap1, ys, rfl, hrd, hbel⟩
  have hU := Blk.lt R2.out
  have R3 := Lib.hid (blk_b R2.out hbel)
  have B3 := Lib.hid (below_on B2.out hbel)
  have D3 := Lib.hid hrd
  have hs3 : w2.heap.size ≤ w3.heap.size := hbel.size
  clear hbel hrd
  obtain ⟨g, hg⟩ : ∃ g, g = w2.heap.size := ⟨_, rfl⟩
  rw [← hg]
  rw [← hg] at D3
  have hg0 : w.heap.size < g := by omega
  have hg1 : g ≤ w3.heap.size := by omega
  clear hg hU hs3
  go_wp2_with fail
  refine (l2Some_any _ _ _ _ _ _ _ D3.out (by omega)).mono ?_
  rintro e w4 ⟨_, m, us, q4, rfl, ⟨x4, rfl, ho4, hl6⟩, hl7, hq4, hrd4, hg4⟩
  obtain ⟨A4, cap4, rfl, _, _⟩ := own_ints ho4 (by unfold maxLen; omega)
  have R4 := Lib.hid (R3.out.grown hg4 (by omega))
  have B4 := Lib.hid (grow_under B3.out hg4 (by omega))
  have O4 := Lib.hid ho4
  clear hrd4 hg4 ho4
  obtain ⟨c0, c1⟩ := two_cells R4.out
  obtain ⟨f0, f1⟩ := two_frozen R4.out
  go_wp2_with fail
  have HV := (R4.out.set_ 0 (.int .i64 m)).set_ 1 (.slice A4 us.length cap4)
  have HO := Lib.hid (own_base (own_far2 O4.out (a := w.heap.size) (by omega) (.int .i64 m) (.slice A4 us.length cap4)) (show w.heap.size ≤ _ by omega))
  have HB4 := Lib.hid ((B4.out.setCell (p := ⟨w.heap.size, 0, none⟩) (Nat.le_refl _) (.int .i64 m)).setCell (p := ⟨w.heap.size, 1, none⟩) (Nat.le_refl _) (.slice A4 us.length cap4))
  clear c0 c1 f0 f1
  refine bodyPost_ret (results_1 rfl (gives_mat (g := w.heap.size) rfl HV)) rfl ?_
  exact ⟨A4, cap4, m, us, rfl, HO, hl7.2, HB4⟩
end Go.Proofs.YtonnolpjfjbjpaaDoor
