/- The drawn argument of the law over idempotent matrices. -/
import Derived.Test.YtaiplhddbmhodaaGIdemD
namespace Go.Proofs.Ytaiplhddbmhodaa
open Go.RowKit
set_option maxHeartbeats 2000000
set_option maxRecDepth 100000
set_option linter.unusedVariables false

/-- What a drawing function leaves that returns one matrix. -/
def Drawn1G (w : World) (e : Ending) (w' : World) : Prop :=
  ∃ (A : Option Addr) (cap : Nat) (m : Int) (us : List Int), e = .returned (.agg #[.int .i64 m, .slice A us.length cap]) ∧ Hid (w'.ownsRow w.heap.size 3 1 (.slice A us.length cap) us.length (us.map (Value.int .i64))) ∧ us.length ≤ 18 ∧ Hid (Below w.heap.size w w')
theorem drawIdem_any (A : Option Addr) (cap : Nat) (zs : List Int) (w : World) (hz : IRow .u8 w w.heap.size A zs) (hc : zs.length ≤ cap) (hb : ∀ z ∈ zs, 0 ≤ z ∧ z ≤ 255) :
    Calls Try.prog 9 #[.slice A zs.length cap] w fun e w' => Drawn1G w e w' := by
  have HB := Lib.hid hb
  have HZ := Lib.hid hz
  clear hb hz
  go_enter Try.func9, Try.ntmps9
  go_wp2_with fail
  obtain ⟨w2, hw2⟩ : ∃ w2, w2 = w.alloc (.cells #[.int .i64 0, .slice none 0 0] 25) := ⟨_, rfl⟩
  have B2 : Hid (Below w.heap.size w w2) := by rw [hw2]; exact below_a1 _ _
  have R2 : Hid (Blk w2 w.heap.size 25 #[.int .i64 0, .slice none 0 0]) := by rw [hw2]; exact Blk.new _ _ _
  rw [← hw2]
  clear hw2
  have Z2 := Lib.hid ((HZ.out.below B2.out).more B2.out.size)
  refine (open_any A cap zs w2 Z2.out hc HB.out).mono ?_
  rintro e w3 ⟨A1, cap1, ys, rfl, hrd, hbel⟩
  have hU := Blk.lt R2.out
  have R3 := Lib.hid (blk_b R2.out hbel)
  have B3 := Lib.hid (below_on B2.out hbel)
  have D3 := Lib.hid hrd
  have hs3 : w2.heap.size ≤ w3.heap.size := hbel.size
  clear hbel hrd
  obtain ⟨g, hg⟩ : ∃ g, g = w2.heap.size := ⟨_, rfl⟩
  rw [← hg]
  rw [← hg] at D3
  have hg0 : w.heap.size < g := by omega
  have hg1 : g ≤ w3.heap.size := by omega
  clear hg hU hs3
  go_wp2_with fail
  refine (l6IdemD_any _ _ _ _ _ _ _ D3.out (by omega)).mono ?_
  rintro e w4 ⟨_, m, us, q4, rfl, ⟨x4, rfl, ho4, hl6⟩, hl7, hq4, hrd4, hg4⟩
  obtain ⟨A4, cap4, rfl, _, _⟩ := own_ints ho4 (by unfold maxLen; omega)
  have R4 := Lib.hid (R3.out.grown hg4 (by omega))
  have B4 := Lib.hid (grow_under B3.out hg4 (by omega))
  have O4 := Lib.hid ho4
  clear hrd4 hg4 ho4
  obtain ⟨c0, c1⟩ := two_cells R4.out
  obtain ⟨f0, f1⟩ := two_frozen R4.out
  go_wp2_with fail
  have HV := (R4.out.set_ 0 (.int .i64 m)).set_ 1 (.slice A4 us.length cap4)
  have HO := Lib.hid (own_base (own_far2 O4.out (a := w.heap.size) (by omega) (.int .i64 m) (.slice A4 us.length cap4)) (show w.heap.size ≤ _ by omega))
  have HB4 := Lib.hid ((B4.out.setCell (p := ⟨w.heap.size, 0, none⟩) (Nat.le_refl _) (.int .i64 m)).setCell (p := ⟨w.heap.size, 1, none⟩) (Nat.le_refl _) (.slice A4 us.length cap4))
  clear c0 c1 f0 f1
  refine bodyPost_ret (results_1 rfl (gives_mat (g := w.heap.size) rfl HV)) rfl ?_
  exact ⟨A4, cap4, m, us, rfl, HO, hl7.2, HB4⟩
end Go.Proofs.Ytaiplhddbmhodaa
