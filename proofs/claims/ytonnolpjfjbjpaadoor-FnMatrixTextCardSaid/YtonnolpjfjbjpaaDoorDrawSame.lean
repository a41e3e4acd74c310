/- The drawn arguments of SameMatrix: two matrices, the second often the first one or that one spoilt (they may share memory). Condition: the bytes can be read. -/
import Derived.Test.YtonnolpjfjbjpaaDoorDrawF
import Derived.Test.YtonnolpjfjbjpaaDoorVK
namespace Go.Proofs.YtonnolpjfjbjpaaDoor
open Go.RowKit
set_option maxHeartbeats 2000000
set_option maxRecDepth 100000
set_option linter.unusedVariables false

/-- What it leaves. -/
def DrawnSM (w : World) (e : Ending) (w' : World) : Prop :=
  ∃ (A1 A2 : Option Addr) (cap1 cap2 : Nat) (m k : Int) (us vs : List Int), e = .returned (.tuple #[.agg #[.int .i64 m, .slice A1 us.length cap1], .agg #[.int .i64 k, .slice A2 vs.length cap2]]) ∧ Hid (OwnI w' A1 cap1 us) ∧ us.length ≤ 20 ∧ Hid (OwnI w' A2 cap2 vs) ∧ vs.length ≤ 20 ∧ Hid (Below w.heap.size w w')
theorem drawSame_any (A : Option Addr) (cap : Nat) (zs : List Int) (w : World) (hz : IRow .u8 w w.heap.size A zs) (hc : zs.length ≤ cap) (hb : ∀ z ∈ zs, 0 ≤ z ∧ z ≤ 255) :
    Calls Tryd.prog 13 #[.slice A zs.length cap] w fun e w' => DrawnSM w e w' := by
  have HB := Lib.hid hb
  have HZ := Lib.hid hz
  clear hb hz
  go_enter Tryd.func13, Tryd.ntmps13
  go_wp2_with fail
  obtain ⟨w2, hw2⟩ : ∃ w2, w2 = (w.alloc (.cells #[.int .i64 0, .slice none 0 0] 25)).alloc (.cells #[.int .i64 0, .slice none 0 0] 25) := ⟨_, rfl⟩
  have B2 : Hid (Below w.heap.size w w2) := by rw [hw2]; exact below_a2 _ _ _
  have R2 : Hid (Blk w2 w.heap.size 25 #[.int .i64 0, .slice none 0 0]) := by rw [hw2]; exact (Blk.new _ _ _).alloc _
  have U2 : Hid (Blk w2 (w.heap.size + 1) 25 #[.int .i64 0, .slice none 0 0]) := by rw [hw2]; exact blk_new (by simp)
  rw [← hw2]
  clear hw2
  have Z2 := Lib.hid ((HZ.out.below B2.out).more B2.out.size)
  refine (open_any A cap zs w2 Z2.out hc HB.out).mono ?_
  rintro e w3 ⟨A1, cap1, ys, rfl, hrd, hbel⟩
  have hU := Blk.lt U2.out
  have R3 := Lib.hid (blk_b R2.out hbel)
  have U3 := Lib.hid (blk_b U2.out hbel)
  have B3 := Lib.hid (below_on B2.out hbel)
  have D3 := Lib.hid hrd
  have hs3 : w2.heap.size ≤ w3.heap.size := hbel.size
  clear hbel hrd
  obtain ⟨g, hg⟩ : ∃ g, g = w2.heap.size := ⟨_, rfl⟩
  rw [← hg]
  rw [← hg] at D3
  have hg0 : w.heap.size + 1 < g := by omega
  have hg1 : g < w3.heap.size := D3.out.lt
  clear hg hU hs3
  go_wp2_with fail
  refine (l2Some_any _ _ _ _ _ _ _ D3.out (by omega)).mono ?_
  rintro e w4 ⟨_, m, us, q4, rfl, ⟨x4, rfl, ho4, hl6⟩, hl7, hq4, hrd4, hg4⟩
  obtain ⟨A4, cap4, rfl, _, _⟩ := own_ints ho4 (by unfold maxLen; omega)
  have R4 := Lib.hid (R3.out.grown hg4 (by omega))
  have U4 := Lib.hid (U3.out.grown hg4 (by omega))
  have B4 := Lib.hid (grow_under B3.out hg4 (by omega))
  have O4 := Lib.hid ho4
  have D4 := Lib.hid hrd4
  have hw4 : w3.heap.size ≤ w4.heap.size := hg4.size
  clear hrd4 hg4 ho4 D3 R3 U3 B3
  go_wp2_with fail
  refine (pick_any _ _ _ _ _ _ _ _ (D4.out.alloc _) (by omega)).mono ?_
  rintro e w5 ⟨v, rfl, v0, v1, hoff, hrd⟩
  obtain ⟨P, hP⟩ : ∃ P, P = w4.heap.size := ⟨_, rfl⟩
  rw [← hP]
  have hDl := D4.out.lt
  have P5 := Lib.hid (show Blk w5 P 25 #[.int .i64 m, .slice A4 us.length cap4] from hoff.blk (blk_new hP) (by omega))
  have R5 := Lib.hid (show Blk w5 w.heap.size 25 #[.int .i64 0, .slice none 0 0] from hoff.blk (R4.out.alloc _) (by omega))
  have U5 := Lib.hid (show Blk w5 (w.heap.size + 1) 25 #[.int .i64 0, .slice none 0 0] from hoff.blk (U4.out.alloc _) (by omega))
  have B5 := Lib.hid (grow_under (below_al B4.out (Nat.le_refl _) _) hoff.grown (by omega))
  have D5 := Lib.hid (hrd (by omega))
  have O5 := Lib.hid (own_far (O4.out.alloc _) hoff.grown (by omega))
  have hPr : w3.heap.size ≤ P := by omega
  have hw5 : w3.heap.size ≤ w5.heap.size := by have := hoff.grown.size; simp at this; omega
  obtain ⟨q5, hq5⟩ : ∃ q5, q5 = q4 + 1 := ⟨_, rfl⟩
  rw [← hq5] at D5
  have hq6 : q5 ≤ 30 := by omega
  have KS : Hid (∀ w', Blk w' P 25 #[.int .i64 m, .slice A4 us.length cap4] → Hid (Blk w' P 25 #[.int .i64 m, .slice A4 us.length cap4]) ∧ w'.cell? ⟨P, 0, none⟩ = some (.int .i64 m) ∧ w'.cell? ⟨P, 1, none⟩ = some (.slice A4 us.length cap4)) := fun w' h => ⟨h, h.cell 0, h.cell 1⟩
  have hS0 := KS.out w5.drew P5.out
  have DD := Lib.hid (D5.out.grown (grow_drew w5 none) (fun k hk => by cases hk))
  have OD := Lib.hid (own_dr O5.out 1)
  clear hrd hoff v0 v1 hP hq5 R4 U4 B4 O4 D4
  rcases Bool.eq_false_or_eq_true (v == 0) with hv | hv
  · go_wp2_with fail
    refine wp_region_Z (S := fun w' => Hid (Blk w' P 25 #[.int .i64 m, .slice A4 us.length cap4]) ∧ w'.cell? ⟨P, 0, none⟩ = some (.int .i64 m) ∧ w'.cell? ⟨P, 1, none⟩ = some (.slice A4 us.length cap4)) (by kernel_rfl) hS0 (fun hS => ?_)
    clear hS0
    refine wpAnyZ_take (i := 0) (v := ?v00) rfl (by kernel_rfl) (by kernel_rfl) (by kernel_rfl) (by kernel_rfl) (fun _ _ _ h => h) (Or.inl ⟨by rfl, ?y00⟩) (by with_reducible assumption) ?r00
    case y00 => (intro w hSw; (try dsimp only at hSw); go_simp; (try with_reducible rfl))
    simp only [Act.put, List.setIfInBounds_toArray]
    refine wpAnyZ_take (i := 1) (v := ?v01) rfl (by kernel_rfl) (by kernel_rfl) (by kernel_rfl) (by kernel_rfl) (fun _ _ _ h => h) (Or.inl ⟨by rfl, ?y01⟩) (by with_reducible assumption) ?r01
    case y01 => (intro w hSw; (try dsimp only at hSw); go_simp; (try with_reducible rfl))
    simp only [Act.put]
    refine wpAnyZ_take (i := 2) (v := ?v02) rfl (by kernel_rfl) (by kernel_rfl) (by kernel_rfl) (by kernel_rfl) (fun _ _ _ h => h) (Or.inl ⟨by rfl, ?y02⟩) (by with_reducible assumption) ?r02
    case y02 => (intro w hSw; (try dsimp only at hSw); go_simp; (try with_reducible rfl))
    simp only [Act.put]
    refine wpAnyZ_step (i := 3) (by kernel_rfl) rfl ?_
    intro K1 hK1
    go_simp
    refine (l2Bad_anyL 20 (by omega) _ w3.heap.size g g A1 cap1 ys q5 m us.length A4 cap4 us DD.out (by omega) rfl hl7.1 (by omega) OD.out hg1 hw5).mono ?_
    rintro e w7 ⟨_, m7, vs, q7, rfl, ⟨x7, rfl, ho7, hl8⟩, hl9, hq9, hrd7, hg7⟩
    obtain ⟨A7, cap7, rfl, _, _⟩ := own_ints ho7 (by unfold maxLen; omega)
    have P7 := Lib.hid (Blk.grown (show Blk w5.drew P 25 _ from P5.out) hg7 (by omega))
    have R7 := Lib.hid (Blk.grown (show Blk w5.drew w.heap.size 25 _ from R5.out) hg7 (by omega))
    have U7 := Lib.hid (Blk.grown (show Blk w5.drew (w.heap.size + 1) 25 _ from U5.out) hg7 (by omega))
    have B7 := Lib.hid (grow_under (below_dr B5.out 1) hg7 (by omega))
    have O7 := Lib.hid (own_far OD.out hg7 hg1)
    have V7 := Lib.hid (own_base ho7 (base' := w3.heap.size) (Nat.le_refl _))
    refine hK1.out _ _ (KS.out _ P7.out) (fun hS1 => ?_)
    clear hK1 hS DD hrd7 hg7 ho7 OD O5 R5 U5 P5 B5
    (try simp only [Act.put])
    obtain ⟨c0, c1⟩ := two_cells R7.out
    obtain ⟨f0, f1⟩ := two_frozen R7.out
    have V8 := Lib.hid ((R7.out.set_ 0 (.int .i64 m)).set_ 1 (.slice A4 us.length cap4))
    have U8 := Lib.hid ((U7.out.other w.heap.size 0 (.int .i64 m) (by omega)).other w.heap.size 1 (.slice A4 us.length cap4) (by omega))
    have P8 := Lib.hid ((P7.out.other w.heap.size 0 (.int .i64 m) (by omega)).other w.heap.size 1 (.slice A4 us.length cap4) (by omega))
    refine wpAnyZ_step (i := 4) (by kernel_rfl) rfl ?_
    intro K2 hK2
    go_simp
    refine hK2.out _ _ (KS.out _ P8.out) (fun hS2 => ?_)
    clear hK2 hS1
    (try simp only [Act.put])
    clear c0 c1 f0 f1
    obtain ⟨c0, c1⟩ := two_cells U8.out
    obtain ⟨f0, f1⟩ := two_frozen U8.out
    refine wpAnyZ_last (i := 5) (by kernel_rfl) rfl (by kernel_rfl) ?_
    intro K3 hK3
    go_simp
    refine hK3.out _ _ ?_
    clear hK3 hS2
    go_wp2_with fail
    have HU := (U8.out.set_ 0 (.int .i64 m7)).set_ 1 (.slice A7 vs.length cap7)
    have HV := (V8.out.other (w.heap.size + 1) 0 (.int .i64 m7) (by omega)).other (w.heap.size + 1) 1 (.slice A7 vs.length cap7) (by omega)
    have HO := Lib.hid (own_base (own_far4 O7.out (a := w.heap.size) (b := w.heap.size + 1) (by omega) (by omega) (.int .i64 m) (.slice A4 us.length cap4) (.int .i64 m7) (.slice A7 vs.length cap7)) (Nat.zero_le _))
    have HW := Lib.hid (own_base (own_far4 V7.out (a := w.heap.size) (b := w.heap.size + 1) (by omega) (by omega) (.int .i64 m) (.slice A4 us.length cap4) (.int .i64 m7) (.slice A7 vs.length cap7)) (Nat.zero_le _))
    have HB9 := Lib.hid ((((B7.out.setCell (p := ⟨w.heap.size, 0, none⟩) (Nat.le_refl _) (.int .i64 m)).setCell (p := ⟨w.heap.size, 1, none⟩) (Nat.le_refl _) (.slice A4 us.length cap4)).setCell (p := ⟨w.heap.size + 1, 0, none⟩) (Nat.le_succ _) (.int .i64 m7)).setCell (p := ⟨w.heap.size + 1, 1, none⟩) (Nat.le_succ _) (.slice A7 vs.length cap7))
    clear c0 c1 f0 f1
    refine bodyPost_ret (results_2 rfl (gives_mat (g := w.heap.size) rfl HV) (gives_mat (g := w.heap.size + 1) rfl HU)) rfl ?_
    exact ⟨A4, A7, cap4, cap7, m, m7, us, vs, rfl, HO, by omega, HW, by omega, HB9⟩
  · go_wp2_with fail
    refine wp_region_Z (S := fun w' => Hid (Blk w' P 25 #[.int .i64 m, .slice A4 us.length cap4]) ∧ w'.cell? ⟨P, 0, none⟩ = some (.int .i64 m) ∧ w'.cell? ⟨P, 1, none⟩ = some (.slice A4 us.length cap4)) (by kernel_rfl) hS0 (fun hS => ?_)
    clear hS0
    refine wpAnyZ_take (i := 0) (v := ?v10) rfl (by kernel_rfl) (by kernel_rfl) (by kernel_rfl) (by kernel_rfl) (fun _ _ _ h => h) (Or.inl ⟨by rfl, ?y10⟩) (by with_reducible assumption) ?r10
    case y10 => (intro w hSw; (try dsimp only at hSw); go_simp; (try with_reducible rfl))
    simp only [Act.put, List.setIfInBounds_toArray]
    refine wpAnyZ_take (i := 1) (v := ?v11) rfl (by kernel_rfl) (by kernel_rfl) (by kernel_rfl) (by kernel_rfl) (fun _ _ _ h => h) (Or.inl ⟨by rfl, ?y11⟩) (by with_reducible assumption) ?r11
    case y11 => (intro w hSw; (try dsimp only at hSw); go_simp; (try with_reducible rfl))
    simp only [Act.put]
    refine wpAnyZ_step (i := 2) (by kernel_rfl) rfl ?_
    intro K1 hK1
    go_simp
    refine (l2Some_any _ g g A1 cap1 ys q5 DD.out (by omega)).mono ?_
    rintro e w7 ⟨_, m7, vs, q7, rfl, ⟨x7, rfl, ho7, hl8⟩, hl9, hq9, hrd7, hg7⟩
    obtain ⟨A7, cap7, rfl, _, _⟩ := own_ints ho7 (by unfold maxLen; omega)
    have P7 := Lib.hid (Blk.grown (show Blk w5.drew P 25 _ from P5.out) hg7 (by omega))
    have R7 := Lib.hid (Blk.grown (show Blk w5.drew w.heap.size 25 _ from R5.out) hg7 (by omega))
    have U7 := Lib.hid (Blk.grown (show Blk w5.drew (w.heap.size + 1) 25 _ from U5.out) hg7 (by omega))
    have B7 := Lib.hid (grow_under (below_dr B5.out 1) hg7 (by omega))
    have O7 := Lib.hid (own_far OD.out hg7 hg1)
    have V7 := Lib.hid (own_base ho7 (base' := w3.heap.size) (show w3.heap.size ≤ w5.drew.heap.size from hw5))
    refine hK1.out _ _ (KS.out _ P7.out) (fun hS1 => ?_)
    clear hK1 hS DD hrd7 hg7 ho7 OD O5 R5 U5 P5 B5
    (try simp only [Act.put])
    obtain ⟨c0, c1⟩ := two_cells R7.out
    obtain ⟨f0, f1⟩ := two_frozen R7.out
    have V8 := Lib.hid ((R7.out.set_ 0 (.int .i64 m)).set_ 1 (.slice A4 us.length cap4))
    have U8 := Lib.hid ((U7.out.other w.heap.size 0 (.int .i64 m) (by omega)).other w.heap.size 1 (.slice A4 us.length cap4) (by omega))
    have P8 := Lib.hid ((P7.out.other w.heap.size 0 (.int .i64 m) (by omega)).other w.heap.size 1 (.slice A4 us.length cap4) (by omega))
    refine wpAnyZ_step (i := 3) (by kernel_rfl) rfl ?_
    intro K2 hK2
    go_simp
    refine hK2.out _ _ (KS.out _ P8.out) (fun hS2 => ?_)
    clear hK2 hS1
    (try simp only [Act.put])
    clear c0 c1 f0 f1
    obtain ⟨c0, c1⟩ := two_cells U8.out
    obtain ⟨f0, f1⟩ := two_frozen U8.out
    refine wpAnyZ_last (i := 4) (by kernel_rfl) rfl (by kernel_rfl) ?_
    intro K3 hK3
    go_simp
    refine hK3.out _ _ ?_
    clear hK3 hS2
    go_wp2_with fail
    have HU := (U8.out.set_ 0 (.int .i64 m7)).set_ 1 (.slice A7 vs.length cap7)
    have HV := (V8.out.other (w.heap.size + 1) 0 (.int .i64 m7) (by omega)).other (w.heap.size + 1) 1 (.slice A7 vs.length cap7) (by omega)
    have HO := Lib.hid (own_base (own_far4 O7.out (a := w.heap.size) (b := w.heap.size + 1) (by omega) (by omega) (.int .i64 m) (.slice A4 us.length cap4) (.int .i64 m7) (.slice A7 vs.length cap7)) (Nat.zero_le _))
    have HW := Lib.hid (own_base (own_far4 V7.out (a := w.heap.size) (b := w.heap.size + 1) (by omega) (by omega) (.int .i64 m) (.slice A4 us.length cap4) (.int .i64 m7) (.slice A7 vs.length cap7)) (Nat.zero_le _))
    have HB9 := Lib.hid ((((B7.out.setCell (p := ⟨w.heap.size, 0, none⟩) (Nat.le_refl _) (.int .i64 m)).setCell (p := ⟨w.heap.size, 1, none⟩) (Nat.le_refl _) (.slice A4 us.length cap4)).setCell (p := ⟨w.heap.size + 1, 0, none⟩) (Nat.le_succ _) (.int .i64 m7)).setCell (p := ⟨w.heap.size + 1, 1, none⟩) (Nat.le_succ _) (.slice A7 vs.length cap7))
    clear c0 c1 f0 f1
    refine bodyPost_ret (results_2 rfl (gives_mat (g := w.heap.size) rfl HV) (gives_mat (g := w.heap.size + 1) rfl HU)) rfl ?_
    exact ⟨A4, A7, cap4, cap7, m, m7, us, vs, rfl, HO, by omega, HW, by omega, HB9⟩
end Go.Proofs.YtonnolpjfjbjpaaDoor
