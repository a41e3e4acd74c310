/- The drawn arguments of the laws over two matrices. Condition: the bytes can be read. -/
import Derived.Test.YtidahhfpnhmkgabDrawP
import Derived.Test.YtidahhfpnhmkgabVar
namespace Go.Proofs.Ytidahhfpnhmkgab
open Go.RowKit
set_option maxHeartbeats 1000000
set_option maxRecDepth 100000
set_option linter.unusedVariables false

/-- What a drawing function leaves that returns two matrices, the second valid. -/
def Drawn2M (w : World) (e : Ending) (w' : World) : Prop :=
  ∃ (a b : Value) (m : Int) (N : Nat) (us vs : List Int), e = .returned (.tuple #[a, b]) ∧ MatOwn w' w.heap.size a m us ∧ us.length ≤ 17 ∧ MatOwn w' w.heap.size b N vs ∧ MV N vs ∧ Below w.heap.size w w'

theorem grow_under {w w0 w' : World} {g : Nat} (hb : Below w.heap.size w w0) (hg : w0.grownBy w' (some g)) (h : w.heap.size ≤ g) : Below w.heap.size w w' := hb.grown hg hb.size (fun j hj => by cases hj; exact h)

theorem pair_from (w w2 : World) (hb2 : Below w.heap.size w w2) (B g : Nat) (A : Option Addr) (cap : Nat) (zs : List Int) (h : Rd w2 B g A cap zs 0) (hg : w.heap.size ≤ g) :
    Calls Try.prog 30 #[.pointer (some ⟨g, 0, none⟩)] w2 fun e w' => ∃ (m : Int) (A1 A2 : Option Addr) (cap1 cap2 N : Nat) (us vs : List Int), e = .returned (.tuple #[.agg #[.int .i64 m, .slice A1 us.length cap1], .agg #[.int .i64 N, .slice A2 vs.length cap2]]) ∧
      Hid (w'.ownsRow w2.heap.size 3 1 (.slice A1 us.length cap1) us.length (us.map (Value.int .i64))) ∧ us.length ≤ 17 ∧ Hid (w'.ownsRow w2.heap.size 3 1 (.slice A2 vs.length cap2) vs.length (vs.map (Value.int .i64))) ∧ MV N vs ∧ Hid (Below w.heap.size w w') ∧ Hid (w2.grownBy w' (some g)) ∧ w2.heap.size ≤ w'.heap.size := by
  refine (l2Pair_any w2 B g A cap zs 0 h (by omega)).mono ?_
  rintro e w' ⟨_, _, m, N, us, vs, q, rfl, ⟨x1, rfl, ho1, hl1⟩, hl2, ⟨x2, rfl, ho2, hl3⟩, mv, _, _, hg'⟩
  obtain ⟨A1, cap1, rfl, _, _⟩ := own_ints ho1 (by unfold maxLen; omega)
  obtain ⟨A2, cap2, rfl, _, _⟩ := own_ints ho2 (by unfold maxLen; omega)
  exact ⟨m, A1, A2, cap1, cap2, N, us, vs, rfl, ho1, hl2, ho2, mv, grow_under hb2 hg' hg, hg', hg'.size⟩

theorem drawMul_any (A : Option Addr) (cap : Nat) (zs : List Int) (w : World) (hz : IRow .u8 w w.heap.size A zs) (hc : zs.length ≤ cap) (hb : ∀ z ∈ zs, 0 ≤ z ∧ z ≤ 255) :
    Calls Try.prog 9 #[.slice A zs.length cap] w fun e w' => Drawn2M w e w' := by
  have HB := Lib.hid hb
  have HZ := Lib.hid hz
  clear hb hz
  go_enter Try.func9, Try.ntmps9
  go_wp2_with fail
  obtain ⟨w2, hw2⟩ : ∃ w2, w2 = (w.alloc (.cells #[.int .i64 0, .slice none 0 0] 25)).alloc (.cells #[.int .i64 0, .slice none 0 0] 25) := ⟨_, rfl⟩
  have B2 : Hid (Below w.heap.size w w2) := by rw [hw2]; exact below_a2 _ _ _
  have R2 : Hid (Blk w2 w.heap.size 25 #[.int .i64 0, .slice none 0 0]) := by rw [hw2]; exact (Blk.new _ _ _).alloc _
  have U2 : Hid (Blk w2 (w.heap.size + 1) 25 #[.int .i64 0, .slice none 0 0]) := by rw [hw2]; exact blk_new (by simp)
  rw [← hw2]
  clear hw2
  have Z2 := Lib.hid ((HZ.out.below B2.out).more B2.out.size)
  refine (open_any A cap zs w2 Z2.out hc HB.out).mono ?_
  rintro e w3 ⟨A1, cap1, ys, rfl, hrd, hbel⟩
  have hU := Blk.lt U2.out
  have R3 := Lib.hid (blk_b R2.out hbel)
  have U3 := Lib.hid (blk_b U2.out hbel)
  have B3 := Lib.hid (below_on B2.out hbel)
  have D3 := Lib.hid hrd
  have hs3 : w2.heap.size ≤ w3.heap.size := hbel.size
  clear hbel hrd
  obtain ⟨g, hg⟩ : ∃ g, g = w2.heap.size := ⟨_, rfl⟩
  rw [← hg]
  rw [← hg] at D3
  have hg0 : w.heap.size + 1 < g := by omega
  have hg1 : g ≤ w3.heap.size := by omega
  have hg2 : w.heap.size < w3.heap.size ∧ w.heap.size + 1 < w3.heap.size := by omega
  clear hg hU hs3
  go_wp2_with fail
  refine (pair_from w w3 B3.out g g A1 cap1 ys D3.out (by omega)).mono ?_
  rintro e w4 ⟨m, A2, A4, cap2, cap4, N, us, vs, rfl, ho1, hl2, ho2, mv, hb4, hg4, hs4⟩
  have R4 := Lib.hid (R3.out.grown hg4.out (by omega))
  have U4 := Lib.hid (U3.out.grown hg4.out (by omega))
  obtain ⟨c0, c1⟩ := two_cells R4.out
  obtain ⟨f0, f1⟩ := two_frozen R4.out
  obtain ⟨d0, d1⟩ := two_cells U4.out
  obtain ⟨e0, e1⟩ := two_frozen U4.out
  have MVH := Lib.hid mv
  have hne : ¬ w.heap.size = w.heap.size + 1 := by omega
  clear mv
  go_wp2_with fail
  have HU := (((U4.out.other w.heap.size 0 (.int .i64 m) (by omega)).other w.heap.size 1 (.slice A2 us.length cap2) (by omega)).set_ 0 (.int .i64 N)).set_ 1 (.slice A4 vs.length cap4)
  have HV := (((R4.out.set_ 0 (.int .i64 m)).set_ 1 (.slice A2 us.length cap2)).other (w.heap.size + 1) 0 (.int .i64 N) (by omega)).other (w.heap.size + 1) 1 (.slice A4 vs.length cap4) (by omega)
  have HO := own_base (own_far4 ho1.out (a := w.heap.size) (b := w.heap.size + 1) (by omega) (by omega) (.int .i64 m) (.slice A2 us.length cap2) (.int .i64 N) (.slice A4 vs.length cap4)) (show w.heap.size ≤ _ by omega)
  have HW := own_base (own_far4 ho2.out (a := w.heap.size) (b := w.heap.size + 1) (by omega) (by omega) (.int .i64 m) (.slice A2 us.length cap2) (.int .i64 N) (.slice A4 vs.length cap4)) (show w.heap.size ≤ _ by omega)
  have HB9 := (((hb4.out.setCell (p := ⟨w.heap.size, 0, none⟩) (Nat.le_refl _) (.int .i64 m)).setCell (p := ⟨w.heap.size, 1, none⟩) (Nat.le_refl _) (.slice A2 us.length cap2)).setCell (p := ⟨w.heap.size + 1, 0, none⟩) (Nat.le_succ _) (.int .i64 N)).setCell (p := ⟨w.heap.size + 1, 1, none⟩) (Nat.le_succ _) (.slice A4 vs.length cap4)
  have KEY := Lib.hid (show Drawn2M w (.returned (.tuple #[.agg #[.int .i64 m, .slice A2 us.length cap2], .agg #[.int .i64 N, .slice A4 vs.length cap4]])) ((((w4.setCell ⟨w.heap.size, 0, none⟩ (.int .i64 m)).setCell ⟨w.heap.size, 1, none⟩ (.slice A2 us.length cap2)).setCell ⟨w.heap.size + 1, 0, none⟩ (.int .i64 N)).setCell ⟨w.heap.size + 1, 1, none⟩ (.slice A4 vs.length cap4)) from
    ⟨_, _, m, N, us, vs, rfl, ⟨_, rfl, HO, by omega⟩, hl2, ⟨_, rfl, HW, by have := MVH.out.few; omega⟩, MVH.out, HB9⟩)
  clear HO HW HB9 c0 c1 d0 d1 f0 f1 e0 e1
  refine bodyPost_ret (results_2 rfl (gives_mat (g := w.heap.size) rfl HV) (gives_mat (g := w.heap.size + 1) rfl HU)) rfl ?_
  exact KEY.out
theorem drawMin_any (A : Option Addr) (cap : Nat) (zs : List Int) (w : World) (hz : IRow .u8 w w.heap.size A zs) (hc : zs.length ≤ cap) (hb : ∀ z ∈ zs, 0 ≤ z ∧ z ≤ 255) :
    Calls Try.prog 13 #[.slice A zs.length cap] w fun e w' => Drawn2M w e w' := by
  have HB := Lib.hid hb
  have HZ := Lib.hid hz
  clear hb hz
  go_enter Try.func13, Try.ntmps13
  go_wp2_with fail
  obtain ⟨w2, hw2⟩ : ∃ w2, w2 = (w.alloc (.cells #[.int .i64 0, .slice none 0 0] 25)).alloc (.cells #[.int .i64 0, .slice none 0 0] 25) := ⟨_, rfl⟩
  have B2 : Hid (Below w.heap.size w w2) := by rw [hw2]; exact below_a2 _ _ _
  have R2 : Hid (Blk w2 w.heap.size 25 #[.int .i64 0, .slice none 0 0]) := by rw [hw2]; exact (Blk.new _ _ _).alloc _
  have U2 : Hid (Blk w2 (w.heap.size + 1) 25 #[.int .i64 0, .slice none 0 0]) := by rw [hw2]; exact blk_new (by simp)
  rw [← hw2]
  clear hw2
  have Z2 := Lib.hid ((HZ.out.below B2.out).more B2.out.size)
  refine (open_any A cap zs w2 Z2.out hc HB.out).mono ?_
  rintro e w3 ⟨A1, cap1, ys, rfl, hrd, hbel⟩
  have hU := Blk.lt U2.out
  have R3 := Lib.hid (blk_b R2.out hbel)
  have U3 := Lib.hid (blk_b U2.out hbel)
  have B3 := Lib.hid (below_on B2.out hbel)
  have D3 := Lib.hid hrd
  have hs3 : w2.heap.size ≤ w3.heap.size := hbel.size
  clear hbel hrd
  obtain ⟨g, hg⟩ : ∃ g, g = w2.heap.size := ⟨_, rfl⟩
  rw [← hg]
  rw [← hg] at D3
  have hg0 : w.heap.size + 1 < g := by omega
  have hg1 : g ≤ w3.heap.size := by omega
  have hg2 : w.heap.size < w3.heap.size ∧ w.heap.size + 1 < w3.heap.size := by omega
  clear hg hU hs3
  go_wp2_with fail
  refine (pair_from w w3 B3.out g g A1 cap1 ys D3.out (by omega)).mono ?_
  rintro e w4 ⟨m, A2, A4, cap2, cap4, N, us, vs, rfl, ho1, hl2, ho2, mv, hb4, hg4, hs4⟩
  have R4 := Lib.hid (R3.out.grown hg4.out (by omega))
  have U4 := Lib.hid (U3.out.grown hg4.out (by omega))
  obtain ⟨c0, c1⟩ := two_cells R4.out
  obtain ⟨f0, f1⟩ := two_frozen R4.out
  obtain ⟨d0, d1⟩ := two_cells U4.out
  obtain ⟨e0, e1⟩ := two_frozen U4.out
  have MVH := Lib.hid mv
  have hne : ¬ w.heap.size = w.heap.size + 1 := by omega
  clear mv
  go_wp2_with fail
  have HU := (((U4.out.other w.heap.size 0 (.int .i64 m) (by omega)).other w.heap.size 1 (.slice A2 us.length cap2) (by omega)).set_ 0 (.int .i64 N)).set_ 1 (.slice A4 vs.length cap4)
  have HV := (((R4.out.set_ 0 (.int .i64 m)).set_ 1 (.slice A2 us.length cap2)).other (w.heap.size + 1) 0 (.int .i64 N) (by omega)).other (w.heap.size + 1) 1 (.slice A4 vs.length cap4) (by omega)
  have HO := own_base (own_far4 ho1.out (a := w.heap.size) (b := w.heap.size + 1) (by omega) (by omega) (.int .i64 m) (.slice A2 us.length cap2) (.int .i64 N) (.slice A4 vs.length cap4)) (show w.heap.size ≤ _ by omega)
  have HW := own_base (own_far4 ho2.out (a := w.heap.size) (b := w.heap.size + 1) (by omega) (by omega) (.int .i64 m) (.slice A2 us.length cap2) (.int .i64 N) (.slice A4 vs.length cap4)) (show w.heap.size ≤ _ by omega)
  have HB9 := (((hb4.out.setCell (p := ⟨w.heap.size, 0, none⟩) (Nat.le_refl _) (.int .i64 m)).setCell (p := ⟨w.heap.size, 1, none⟩) (Nat.le_refl _) (.slice A2 us.length cap2)).setCell (p := ⟨w.heap.size + 1, 0, none⟩) (Nat.le_succ _) (.int .i64 N)).setCell (p := ⟨w.heap.size + 1, 1, none⟩) (Nat.le_succ _) (.slice A4 vs.length cap4)
  have KEY := Lib.hid (show Drawn2M w (.returned (.tuple #[.agg #[.int .i64 m, .slice A2 us.length cap2], .agg #[.int .i64 N, .slice A4 vs.length cap4]])) ((((w4.setCell ⟨w.heap.size, 0, none⟩ (.int .i64 m)).setCell ⟨w.heap.size, 1, none⟩ (.slice A2 us.length cap2)).setCell ⟨w.heap.size + 1, 0, none⟩ (.int .i64 N)).setCell ⟨w.heap.size + 1, 1, none⟩ (.slice A4 vs.length cap4)) from
    ⟨_, _, m, N, us, vs, rfl, ⟨_, rfl, HO, by omega⟩, hl2, ⟨_, rfl, HW, by have := MVH.out.few; omega⟩, MVH.out, HB9⟩)
  clear HO HW HB9 c0 c1 d0 d1 f0 f1 e0 e1
  refine bodyPost_ret (results_2 rfl (gives_mat (g := w.heap.size) rfl HV) (gives_mat (g := w.heap.size + 1) rfl HU)) rfl ?_
  exact KEY.out
end Go.Proofs.Ytidahhfpnhmkgab
