/- The drawn arguments of the law over two matrices of grades. -/
import Derived.Test.YtaiplhddbmhodaaGSome
import Derived.Test.YtaiplhddbmhodaaVar
namespace Go.Proofs.Ytaiplhddbmhodaa
open Go.RowKit
set_option maxHeartbeats 2000000
set_option maxRecDepth 100000
set_option linter.unusedVariables false

/-- What a drawing function leaves that returns two matrices, the second of grades. -/
def Drawn2G (w : World) (e : Ending) (w' : World) : Prop :=
  ∃ (a b : Value) (m : Int) (N : Nat) (us vs : List Int), e = .returned (.tuple #[a, b]) ∧ MatOwn w' w.heap.size a m us ∧ us.length ≤ 18 ∧ MatOwn w' w.heap.size b N vs ∧ GV N vs ∧ Below w.heap.size w w'

theorem own_far4 {w : World} {base a b n : Nat} {x : Value} {xs : List Value} (h : w.ownsRow base 3 1 x n xs) (ha : a < base) (hb : b < base) (v0 v1 v2 v3 : Value) : ((((w.setCell ⟨a, 0, none⟩ v0).setCell ⟨a, 1, none⟩ v1).setCell ⟨b, 0, none⟩ v2).setCell ⟨b, 1, none⟩ v3).ownsRow base 3 1 x n xs :=
  own_far (own_far (own_far (own_far h (grow_set w a 0 v0) ha) (grow_set _ a 1 v1) ha) (grow_set _ b 0 v2) hb) (grow_set _ b 1 v3) hb
theorem Rd.set4 {w : World} {B g p a b : Nat} {A : Option Addr} {cap : Nat} {zs : List Int} (h : Rd w B g A cap zs p) (ha : g < a) (hb : g < b) (v0 v1 v2 v3 : Value) : Rd ((((w.setCell ⟨a, 0, none⟩ v0).setCell ⟨a, 1, none⟩ v1).setCell ⟨b, 0, none⟩ v2).setCell ⟨b, 1, none⟩ v3) B g A cap zs p :=
  (((h.grown (grow_set w a 0 v0) (fun j hj => by cases hj; omega)).grown (grow_set _ a 1 v1) (fun j hj => by cases hj; omega)).grown (grow_set _ b 0 v2) (fun j hj => by cases hj; omega)).grown (grow_set _ b 1 v3) (fun j hj => by cases hj; omega)
theorem grow_own4 {w w7 : World} {g a b : Nat} (h : w.grownBy w7 (some g)) (ha : w.heap.size ≤ a) (hb : w.heap.size ≤ b) (v0 v1 v2 v3 : Value) : w.grownBy ((((w7.setCell ⟨a, 0, none⟩ v0).setCell ⟨a, 1, none⟩ v1).setCell ⟨b, 0, none⟩ v2).setCell ⟨b, 1, none⟩ v3) (some g) :=
  grow_own (grow_own (grow_own (grow_own h (grow_set w7 a 0 v0) (fun j hj => by cases hj; omega)) (grow_set _ a 1 v1) (fun j hj => by cases hj; omega)) (grow_set _ b 0 v2) (fun j hj => by cases hj; omega)) (grow_set _ b 1 v3) (fun j hj => by cases hj; omega)

theorem grow_under {w w0 w' : World} {g : Nat} (hb : Below w.heap.size w w0) (hg : w0.grownBy w' (some g)) (h : w.heap.size ≤ g) : Below w.heap.size w w' := hb.grown hg hb.size (fun j hj => by cases hj; exact h)

theorem drawMulG_any (A : Option Addr) (cap : Nat) (zs : List Int) (w : World) (hz : IRow .u8 w w.heap.size A zs) (hc : zs.length ≤ cap) (hb : ∀ z ∈ zs, 0 ≤ z ∧ z ≤ 255) :
    Calls Try.prog 5 #[.slice A zs.length cap] w fun e w' => Drawn2G w e w' := by
  have HB := Lib.hid hb
  have HZ := Lib.hid hz
  clear hb hz
  go_enter Try.func5, Try.ntmps5
  go_wp2_with fail
  obtain ⟨w2, hw2⟩ : ∃ w2, w2 = (w.alloc (.cells #[.int .i64 0, .slice none 0 0] 25)).alloc (.cells #[.int .i64 0, .slice none 0 0] 25) := ⟨_, rfl⟩
  have B2 : Hid (Below w.heap.size w w2) := by rw [hw2]; exact below_a2 _ _ _
  have R2 : Hid (Blk w2 w.heap.size 25 #[.int .i64 0, .slice none 0 0]) := by rw [hw2]; exact (Blk.new _ _ _).alloc _
  have U2 : Hid (Blk w2 (w.heap.size + 1) 25 #[.int .i64 0, .slice none 0 0]) := by rw [hw2]; exact blk_new (by simp)
  rw [← hw2]
  clear hw2
  have Z2 := Lib.hid ((HZ.out.below B2.out).more B2.out.size)
  refine (open_any A cap zs w2 Z2.out hc HB.out).mono ?_
  rintro e wo ⟨A1, cap1, ys, rfl, hrd, hbel⟩
  have hU := Blk.lt U2.out
  have Ro := Lib.hid (blk_b R2.out hbel)
  have Uo := Lib.hid (blk_b U2.out hbel)
  have Bo := Lib.hid (below_on B2.out hbel)
  have Do := Lib.hid hrd
  have hs3 : w2.heap.size ≤ wo.heap.size := hbel.size
  clear hbel hrd
  obtain ⟨g, hg⟩ : ∃ g, g = w2.heap.size := ⟨_, rfl⟩
  rw [← hg]
  rw [← hg] at Do
  have hg0 : w.heap.size + 1 < g := by omega
  have hg1 : g ≤ wo.heap.size := by omega
  have hg2 : w.heap.size < wo.heap.size ∧ w.heap.size + 1 < wo.heap.size := by omega
  clear hg hU hs3
  go_wp2_with fail
  refine (pick_any _ _ _ _ _ _ _ _ Do.out (by omega)).mono ?_
  rintro e w2 ⟨v, rfl, v0, v1, hoff, hrd⟩
  obtain ⟨k, rfl⟩ := Int.eq_ofNat_of_zero_le v0
  have hk4 : k < 4 := by have := v1 (by omega); omega
  obtain ⟨N, hN⟩ : ∃ N, N = 1 + k := ⟨_, rfl⟩
  have hNi : IntKind.i64.wrap (1 + (k : Int)) = (N : Int) := by rw [hN]; have := IntWalk.i64_in (1 + (k : Int)) (by omega); rw [this]; omega
  have D2 := Lib.hid (hrd (by omega))
  have R2 := Lib.hid (hoff.blk Ro.out (by omega))
  have U2 := Lib.hid (hoff.blk Uo.out (by omega))
  have hgw2 : g < w2.heap.size := D2.out.lt
  have G2 := Lib.hid (show wo.grownBy w2 (some g) from hoff.grown)
  have n1 : 1 ≤ N := by omega
  have n2 : N ≤ 4 := by omega
  have h1N : 1 + (k : Int) = (N : Int) := by omega
  have hw2 : w.heap.size + 2 ≤ w2.heap.size := by have := Blk.lt U2.out; omega
  clear hrd hoff v0 v1 hNi hN
  go_wp2_with fail
  refine (l6Draw_any _ g g A1 cap1 ys _ N D2.out (by omega) n1 n2).mono ?_
  rintro e w3 ⟨_, vs, q3, rfl, ⟨x3, rfl, ho3, hl3⟩, mv3, hq3, hrd3, hg3⟩
  obtain ⟨A3, cap3, rfl, _, _⟩ := own_ints ho3 (by unfold maxLen; omega)
  have R3 := Lib.hid (R2.out.grown hg3 (by omega))
  have U3 := Lib.hid (U2.out.grown hg3 (by omega))
  have G3 := Lib.hid (grow_trans G2.out hg3)
  have D3 := Lib.hid hrd3
  have O3 := Lib.hid ho3
  have hl4 := mv3.mv.few
  have hl5 : 1 ≤ vs.length := by rw [mv3.len]; exact Nat.mul_pos n1 n1
  have hw3 : w2.heap.size ≤ w3.heap.size := hg3.size
  clear hrd3 hg3 ho3 mv3 h1N
  go_wp2_with fail
  refine (l6Bad_any _ w2.heap.size g g A1 cap1 ys q3 N vs.length A3 cap3 vs D3.out (by omega) rfl hl5 (by omega) O3.out (by omega) hw3).mono ?_
  rintro e w4 ⟨_, m, us, q4, rfl, ⟨x4, rfl, ho4, hl6⟩, hl7, hq4, hrd4, hg4⟩
  obtain ⟨A4, cap4, rfl, _, _⟩ := own_ints ho4 (by unfold maxLen; omega)
  have R4 := Lib.hid (R3.out.grown hg4 (by omega))
  have U4 := Lib.hid (U3.out.grown hg4 (by omega))
  have G4 := Lib.hid (grow_trans G3.out hg4)
  have D4 := Lib.hid hrd4
  have O4 := Lib.hid ho4
  have hw4 : w2.heap.size ≤ w4.heap.size := by have := hg4.size; omega
  clear hrd4 hg4 ho4
  go_wp2_with fail
  refine (pick_any _ _ _ _ _ _ _ _ (D4.out.alloc _) (by omega)).mono ?_
  rintro e w5 ⟨v, rfl, v0, v1, hoff, hrd⟩
  obtain ⟨P, hP⟩ : ∃ P, P = w4.heap.size := ⟨_, rfl⟩
  rw [← hP]
  have hDl := D4.out.lt
  have P5 := Lib.hid (show Blk w5 P 25 #[.int .i64 m, .slice A4 us.length cap4] from hoff.blk (blk_new hP) (by omega))
  have R5 := Lib.hid (show Blk w5 w.heap.size 25 #[.int .i64 0, .slice none 0 0] from hoff.blk (R4.out.alloc _) (by omega))
  have U5 := Lib.hid (show Blk w5 (w.heap.size + 1) 25 #[.int .i64 0, .slice none 0 0] from hoff.blk (U4.out.alloc _) (by omega))
  have G5 := Lib.hid (grow_trans (grow_trans G4.out (World.grownBy_alloc w4 _ (some g))) hoff.grown)
  have D5 := Lib.hid (hrd (by omega))
  have O5 := Lib.hid (own_far (O4.out.alloc _) hoff.grown (by omega))
  have hPr : w.heap.size + 1 < P := by omega
  have hPg : g < P := by omega
  have hw5 : w2.heap.size ≤ w5.heap.size := by have := hoff.grown.size; simp at this; omega
  obtain ⟨q5, hq5⟩ : ∃ q5, q5 = q4 + 1 := ⟨_, rfl⟩
  rw [← hq5] at D5
  have hq6 : q5 ≤ 20 := by omega
  clear hrd hoff v0 v1 hP hq5
  rcases Bool.eq_false_or_eq_true (v == 0) with hv | hv
  · go_wp2_with fail
    refine (pick_any _ _ _ _ _ _ _ _ D5.out (by omega)).mono ?_
    rintro e w6 ⟨v', rfl, v0, v1, hoff, hrd⟩
    obtain ⟨k', rfl⟩ := Int.eq_ofNat_of_zero_le v0
    have hk4' : k' < 4 := by have := v1 (by omega); omega
    obtain ⟨M, hM⟩ : ∃ M, M = 1 + k' := ⟨_, rfl⟩
    have h1M : 1 + (k' : Int) = (M : Int) := by omega
    have m1 : 1 ≤ M := by omega
    have m2 : M ≤ 4 := by omega
    have D6 := Lib.hid (hrd (by omega))
    have P6 := Lib.hid (hoff.blk P5.out (by omega))
    have R6 := Lib.hid (hoff.blk R5.out (by omega))
    have U6 := Lib.hid (hoff.blk U5.out (by omega))
    have G6 := Lib.hid (grow_trans G5.out hoff.grown)
    have O6 := Lib.hid (own_far O5.out hoff.grown (by omega))
    have hw6 : w2.heap.size ≤ w6.heap.size := by have := hoff.grown.size; omega
    obtain ⟨q6, hq7⟩ : ∃ q6, q6 = q5 + 1 := ⟨_, rfl⟩
    rw [← hq7] at D6
    have hq8 : q6 ≤ 21 := by omega
    clear hrd hoff v0 v1 hq7 hM
    go_wp2_with fail

    have PF := P6
    have RF := R6
    have UF := U6
    have GF := G6
    have DF := D6
    have OF := O6
    have KS : Hid (∀ w', Blk w' P 25 #[.int .i64 m, .slice A4 us.length cap4] → Hid (Blk w' P 25 #[.int .i64 m, .slice A4 us.length cap4]) ∧ w'.cell? ⟨P, 0, none⟩ = some (.int .i64 m) ∧ w'.cell? ⟨P, 1, none⟩ = some (.slice A4 us.length cap4)) := fun w' h => ⟨h, h.cell 0, h.cell 1⟩
    have hS0 := KS.out w6.drew PF.out
    have DD := Lib.hid (DF.out.grown (grow_drew w6 none) (fun k hk => by cases hk))
    refine wp_region_Z (S := fun w' => Hid (Blk w' P 25 #[.int .i64 m, .slice A4 us.length cap4]) ∧ w'.cell? ⟨P, 0, none⟩ = some (.int .i64 m) ∧ w'.cell? ⟨P, 1, none⟩ = some (.slice A4 us.length cap4)) (by kernel_rfl) hS0 (fun hS => ?_)
    clear hS0
    refine wpAnyZ_take (i := 0) (v := ?vbm0) rfl (by kernel_rfl) (by kernel_rfl) (by kernel_rfl) (by kernel_rfl) (fun _ _ _ h => h) (Or.inl ⟨by rfl, ?ybm0⟩) (by with_reducible assumption) ?rbm0
    case ybm0 => (intro w hSw; (try dsimp only at hSw); go_simp; (try with_reducible rfl))
    simp only [Act.put, List.setIfInBounds_toArray]
    refine wpAnyZ_take (i := 1) (v := ?vbm1) rfl (by kernel_rfl) (by kernel_rfl) (by kernel_rfl) (by kernel_rfl) (fun _ _ _ h => h) (Or.inl ⟨by rfl, ?ybm1⟩) (by with_reducible assumption) ?rbm1
    case ybm1 => (intro w hSw; (try dsimp only at hSw); go_simp; (try with_reducible rfl))
    simp only [Act.put]
    refine wpAnyZ_take (i := 2) (v := ?vbm2) rfl (by kernel_rfl) (by kernel_rfl) (by kernel_rfl) (by kernel_rfl) (fun _ _ _ h => h) (Or.inl ⟨by rfl, ?ybm2⟩) (by with_reducible assumption) ?rbm2
    case ybm2 => (intro w hSw; (try dsimp only at hSw); go_simp; (try with_reducible rfl))
    simp only [Act.put]
    refine wpAnyZ_step (i := 3) (by kernel_rfl) rfl ?_
    intro K1 hK1
    go_simp
    refine (l6Draw_any _ g g A1 cap1 ys q6 M DD.out (by omega) m1 m2).mono ?_
    rintro e w7 ⟨_, vs', q7, rfl, ⟨x7, rfl, ho7, hl8⟩, mv7, hq9, hrd7, hg7⟩
    obtain ⟨A7, cap7, rfl, _, _⟩ := own_ints ho7 (by unfold maxLen; omega)
    have P7 := Lib.hid (Blk.grown (show Blk w6.drew P 25 _ from PF.out) hg7 (by omega))
    have R7 := Lib.hid (Blk.grown (show Blk w6.drew w.heap.size 25 _ from RF.out) hg7 (by omega))
    have U7 := Lib.hid (Blk.grown (show Blk w6.drew (w.heap.size + 1) 25 _ from UF.out) hg7 (by omega))
    have G7 := Lib.hid (grow_trans GF.out (grow_trans (grow_drew w6 (some g)) hg7))
    have D7 := Lib.hid hrd7
    have O7 := Lib.hid (own_far (own_dr OF.out 1) hg7 (by omega))
    have V7 := Lib.hid ho7
    have MV7 := Lib.hid mv7
    refine hK1.out _ _ (KS.out _ P7.out) (fun hS1 => ?_)
    clear hK1 hS DD hrd7 hg7 ho7 mv7
    (try simp only [Act.put])
    obtain ⟨c0, c1⟩ := two_cells R7.out
    obtain ⟨f0, f1⟩ := two_frozen R7.out
    have V8 := Lib.hid ((R7.out.set_ 0 (.int .i64 m)).set_ 1 (.slice A4 us.length cap4))
    have U8 := Lib.hid ((U7.out.other w.heap.size 0 (.int .i64 m) (by omega)).other w.heap.size 1 (.slice A4 us.length cap4) (by omega))
    have P8 := Lib.hid ((P7.out.other w.heap.size 0 (.int .i64 m) (by omega)).other w.heap.size 1 (.slice A4 us.length cap4) (by omega))
    refine wpAnyZ_step (i := 4) (by kernel_rfl) rfl ?_
    intro K2 hK2
    go_simp
    refine hK2.out _ _ (KS.out _ P8.out) (fun hS2 => ?_)
    clear hK2 hS1
    (try simp only [Act.put])
    clear c0 c1 f0 f1
    obtain ⟨c0, c1⟩ := two_cells U8.out
    obtain ⟨f0, f1⟩ := two_frozen U8.out
    refine wpAnyZ_last (i := 5) (by kernel_rfl) rfl (by kernel_rfl) ?_
    intro K3 hK3
    go_simp
    refine hK3.out _ _ ?_
    clear hK3 hS2
    go_wp2_with fail
    have HU := (U8.out.set_ 0 (.int .i64 M)).set_ 1 (.slice A7 vs'.length cap7)
    have HV := (V8.out.other (w.heap.size + 1) 0 (.int .i64 M) (by omega)).other (w.heap.size + 1) 1 (.slice A7 vs'.length cap7) (by omega)
    have HO := own_base (own_far4 O7.out (a := w.heap.size) (b := w.heap.size + 1) (by omega) (by omega) (.int .i64 m) (.slice A4 us.length cap4) (.int .i64 M) (.slice A7 vs'.length cap7)) (show w.heap.size ≤ _ by omega)
    have hwd : w6.drew.heap.size = w6.heap.size := rfl
    have HW := own_base (own_far4 V7.out (a := w.heap.size) (b := w.heap.size + 1) (by omega) (by omega) (.int .i64 m) (.slice A4 us.length cap4) (.int .i64 M) (.slice A7 vs'.length cap7)) (show w.heap.size ≤ _ by omega)
    refine bodyPost_ret (results_2 rfl (gives_mat (g := w.heap.size) rfl HV) (gives_mat (g := w.heap.size + 1) rfl HU)) rfl ?_
    have HB9 := ((((grow_under Bo.out G7.out (by omega)).setCell (p := ⟨w.heap.size, 0, none⟩) (Nat.le_refl _) (.int .i64 m)).setCell (p := ⟨w.heap.size, 1, none⟩) (Nat.le_refl _) (.slice A4 us.length cap4)).setCell (p := ⟨w.heap.size + 1, 0, none⟩) (Nat.le_succ _) (.int .i64 M)).setCell (p := ⟨w.heap.size + 1, 1, none⟩) (Nat.le_succ _) (.slice A7 vs'.length cap7)
    exact ⟨_, _, m, M, us, vs', rfl, ⟨_, rfl, HO, hl6⟩, hl7.2, ⟨_, rfl, HW, hl8⟩, MV7.out, HB9⟩
  · go_wp2_with fail
    have PF := P5
    have RF := R5
    have UF := U5
    have GF := G5
    have DF := D5
    have OF := O5
    have KS : Hid (∀ w', Blk w' P 25 #[.int .i64 m, .slice A4 us.length cap4] → Hid (Blk w' P 25 #[.int .i64 m, .slice A4 us.length cap4]) ∧ w'.cell? ⟨P, 0, none⟩ = some (.int .i64 m) ∧ w'.cell? ⟨P, 1, none⟩ = some (.slice A4 us.length cap4)) := fun w' h => ⟨h, h.cell 0, h.cell 1⟩
    have hS0 := KS.out w5.drew PF.out
    have DD := Lib.hid (DF.out.grown (grow_drew w5 none) (fun k hk => by cases hk))
    refine wp_region_Z (S := fun w' => Hid (Blk w' P 25 #[.int .i64 m, .slice A4 us.length cap4]) ∧ w'.cell? ⟨P, 0, none⟩ = some (.int .i64 m) ∧ w'.cell? ⟨P, 1, none⟩ = some (.slice A4 us.length cap4)) (by kernel_rfl) hS0 (fun hS => ?_)
    clear hS0
    refine wpAnyZ_take (i := 0) (v := ?vbn0) rfl (by kernel_rfl) (by kernel_rfl) (by kernel_rfl) (by kernel_rfl) (fun _ _ _ h => h) (Or.inl ⟨by rfl, ?ybn0⟩) (by with_reducible assumption) ?rbn0
    case ybn0 => (intro w hSw; (try dsimp only at hSw); go_simp; (try with_reducible rfl))
    simp only [Act.put, List.setIfInBounds_toArray]
    refine wpAnyZ_take (i := 1) (v := ?vbn1) rfl (by kernel_rfl) (by kernel_rfl) (by kernel_rfl) (by kernel_rfl) (fun _ _ _ h => h) (Or.inl ⟨by rfl, ?ybn1⟩) (by with_reducible assumption) ?rbn1
    case ybn1 => (intro w hSw; (try dsimp only at hSw); go_simp; (try with_reducible rfl))
    simp only [Act.put]
    refine wpAnyZ_take (i := 2) (v := ?vbn2) rfl (by kernel_rfl) (by kernel_rfl) (by kernel_rfl) (by kernel_rfl) (fun _ _ _ h => h) (Or.inl ⟨by rfl, ?ybn2⟩) (by with_reducible assumption) ?rbn2
    case ybn2 => (intro w hSw; (try dsimp only at hSw); go_simp; (try with_reducible rfl))
    simp only [Act.put]
    refine wpAnyZ_step (i := 3) (by kernel_rfl) rfl ?_
    intro K1 hK1
    go_simp
    refine (l6Draw_any _ g g A1 cap1 ys q5 N DD.out (by omega) n1 n2).mono ?_
    rintro e w7 ⟨_, vs', q7, rfl, ⟨x7, rfl, ho7, hl8⟩, mv7, hq9, hrd7, hg7⟩
    obtain ⟨A7, cap7, rfl, _, _⟩ := own_ints ho7 (by unfold maxLen; omega)
    have P7 := Lib.hid (Blk.grown (show Blk w5.drew P 25 _ from PF.out) hg7 (by omega))
    have R7 := Lib.hid (Blk.grown (show Blk w5.drew w.heap.size 25 _ from RF.out) hg7 (by omega))
    have U7 := Lib.hid (Blk.grown (show Blk w5.drew (w.heap.size + 1) 25 _ from UF.out) hg7 (by omega))
    have G7 := Lib.hid (grow_trans GF.out (grow_trans (grow_drew w5 (some g)) hg7))
    have D7 := Lib.hid hrd7
    have O7 := Lib.hid (own_far (own_dr OF.out 1) hg7 (by omega))
    have V7 := Lib.hid ho7
    have MV7 := Lib.hid mv7
    refine hK1.out _ _ (KS.out _ P7.out) (fun hS1 => ?_)
    clear hK1 hS DD hrd7 hg7 ho7 mv7
    (try simp only [Act.put])
    obtain ⟨c0, c1⟩ := two_cells R7.out
    obtain ⟨f0, f1⟩ := two_frozen R7.out
    have V8 := Lib.hid ((R7.out.set_ 0 (.int .i64 m)).set_ 1 (.slice A4 us.length cap4))
    have U8 := Lib.hid ((U7.out.other w.heap.size 0 (.int .i64 m) (by omega)).other w.heap.size 1 (.slice A4 us.length cap4) (by omega))
    have P8 := Lib.hid ((P7.out.other w.heap.size 0 (.int .i64 m) (by omega)).other w.heap.size 1 (.slice A4 us.length cap4) (by omega))
    refine wpAnyZ_step (i := 4) (by kernel_rfl) rfl ?_
    intro K2 hK2
    go_simp
    refine hK2.out _ _ (KS.out _ P8.out) (fun hS2 => ?_)
    clear hK2 hS1
    (try simp only [Act.put])
    clear c0 c1 f0 f1
    obtain ⟨c0, c1⟩ := two_cells U8.out
    obtain ⟨f0, f1⟩ := two_frozen U8.out
    refine wpAnyZ_last (i := 5) (by kernel_rfl) rfl (by kernel_rfl) ?_
    intro K3 hK3
    go_simp
    refine hK3.out _ _ ?_
    clear hK3 hS2
    go_wp2_with fail
    have HU := (U8.out.set_ 0 (.int .i64 N)).set_ 1 (.slice A7 vs'.length cap7)
    have HV := (V8.out.other (w.heap.size + 1) 0 (.int .i64 N) (by omega)).other (w.heap.size + 1) 1 (.slice A7 vs'.length cap7) (by omega)
    have HO := own_base (own_far4 O7.out (a := w.heap.size) (b := w.heap.size + 1) (by omega) (by omega) (.int .i64 m) (.slice A4 us.length cap4) (.int .i64 N) (.slice A7 vs'.length cap7)) (show w.heap.size ≤ _ by omega)
    have hwd : w5.drew.heap.size = w5.heap.size := rfl
    have HW := own_base (own_far4 V7.out (a := w.heap.size) (b := w.heap.size + 1) (by omega) (by omega) (.int .i64 m) (.slice A4 us.length cap4) (.int .i64 N) (.slice A7 vs'.length cap7)) (show w.heap.size ≤ _ by omega)
    refine bodyPost_ret (results_2 rfl (gives_mat (g := w.heap.size) rfl HV) (gives_mat (g := w.heap.size + 1) rfl HU)) rfl ?_
    have HB9 := ((((grow_under Bo.out G7.out (by omega)).setCell (p := ⟨w.heap.size, 0, none⟩) (Nat.le_refl _) (.int .i64 m)).setCell (p := ⟨w.heap.size, 1, none⟩) (Nat.le_refl _) (.slice A4 us.length cap4)).setCell (p := ⟨w.heap.size + 1, 0, none⟩) (Nat.le_succ _) (.int .i64 N)).setCell (p := ⟨w.heap.size + 1, 1, none⟩) (Nat.le_succ _) (.slice A7 vs'.length cap7)
    exact ⟨_, _, m, N, us, vs', rfl, ⟨_, rfl, HO, hl6⟩, hl7.2, ⟨_, rfl, HW, hl8⟩, MV7.out, HB9⟩
end Go.Proofs.Ytaiplhddbmhodaa
