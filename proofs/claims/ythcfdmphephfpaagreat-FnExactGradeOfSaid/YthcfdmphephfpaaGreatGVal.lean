/- Whether a matrix has grades alone, as the program and the model have it; its square of grades; squares as keys that are compared, and whether one is its own square. Nothing that was there changes. -/
import Derived.Test.YthcfdmphephfpaaGreatGSq
import Derived.ChangeKeysEq
import Derived.Deep.RegionWith
namespace Go.Proofs.YthcfdmphephfpaaGreat
open Go.RowKit
set_option maxHeartbeats 1000000
set_option maxRecDepth 100000
set_option linter.unusedVariables false

theorem gvalid_is (z : Int) (r : Bool) (w : World) (hr : gvld z = r) :
    Calls Tryz.prog 58 #[.int .i64 z] w fun e w' => e = .returned (.bool r) ∧ w = w' := by
  by_cases h0 : 0 ≤ z
  · by_cases h3 : z ≤ 3
    · have hR : r = true := by rw [← hr]; exact gvld_yes ⟨h0, h3⟩
      subst hR
      clear hr
      go_enter Tryz.func58, Tryz.ntmps58
      go_wp2
      go_ret
      exact ⟨rfl, rfl⟩
    · have hR : r = false := by rw [← hr]; simp only [gvld, decide_eq_false_iff_not]; omega
      subst hR
      clear hr
      go_enter Tryz.func58, Tryz.ntmps58
      go_wp2
      go_ret
      exact ⟨rfl, rfl⟩
  · have hR : r = false := by rw [← hr]; simp only [gvld, decide_eq_false_iff_not]; omega
    subst hR
    clear hr
    go_enter Tryz.func58, Tryz.ntmps58
    go_wp2
    go_ret
    exact ⟨rfl, rfl⟩

theorem iGradesValid_is (m : Int) (A : Option Addr) (cap : Nat) (zs : List Int) (r : Bool) (w : World) (hz : Ints w w.heap.size A zs) (hr : gradeOk m zs = r) :
    Calls Tryz.prog 26 #[.agg #[.int .i64 m, .slice A zs.length cap]] w fun e w' => e = .returned (.bool r) ∧ Below w.heap.size w w' := by
  have hl := hz.len
  have hb0 := below_a1 w (.cells #[.int .i64 m, .slice A zs.length cap] 28)
  rcases Bool.eq_false_or_eq_true (matOk m zs) with hok | hok
  · have hE : Hid (gAll zs = r) := by show _ = _; rw [← hr, gradeOk_all hok]
    have HOK := Lib.hid hok
    clear hok hr
    go_enter Tryz.func26, Tryz.ntmps26
    go_wp2_with fail
    refine (iMatrixValid_is _ _ _ _ _ _ (ints_al hz _) HOK.out).mono ?_
    rintro e w1 ⟨rfl, hb1⟩
    have pA : Blk w1 w.heap.size 28 #[.int .i64 m, .slice A zs.length cap] := (Blk.new w _ _).below hb1 (by simp)
    obtain ⟨c0, c1⟩ := two_cells pA
    have HB := Lib.hid (below_on hb0 hb1)
    have hz1 := (hz.below HB.out).more HB.out.size
    clear hb1 hb0 pA
    go_wp2_with fail
    go_loop [11] (fun i => ∃ k : Nat, k ≤ zs.length ∧ i = .int .i64 k ∧ Hid (gAll zs = gAll (zs.drop k))) (fun i => zs.length - (intOf i).toNat)
    case atStart => exact ⟨0, Nat.zero_le _, rfl, rfl⟩
    case round =>
      obtain ⟨k, hk, rfl, HR2⟩ := hrel
      by_cases hlt : k < zs.length
      · obtain ⟨b, off, z, rfl, _, hc, hd, _⟩ := hz1.at_ hlt
        have HD := Lib.hid hd
        clear hd
        rcases Bool.eq_false_or_eq_true (gvld z) with hv | hv
        · have HV := Lib.hid hv
          clear hv
          go_wp2_with fail
          refine (gvalid_is _ _ _ HV.out).mono ?_
          rintro e w' ⟨rfl, rfl⟩
          go_wp2_with fail
          go_round
          case rel => exact ⟨k + 1, by omega, by go_num, by show _ = _; rw [HR2.out, HD.out, gAll_t HV.out]⟩
          case measure => simp [intOf]; omega
        · have HV := Lib.hid hv
          have HF := Lib.hid (show r = false by rw [← hE.out, HR2.out, HD.out, gAll_f HV.out])
          clear hv
          go_wp2_with fail
          refine (gvalid_is _ _ _ HV.out).mono ?_
          rintro e w' ⟨rfl, rfl⟩
          go_wp2_with fail
          go_ret
          exact ⟨ret_bool HF.out.symm, HB.out⟩
      · have HF := Lib.hid (show r = true by rw [← hE.out, HR2.out, List.drop_of_length_le (by omega)]; rfl)
        go_wp2_with fail
        go_ret
        exact ⟨ret_bool HF.out.symm, HB.out⟩
  · have hR : r = false := by rw [← hr]; exact gradeOk_mat hok
    have HOK := Lib.hid hok
    subst hR
    clear hok hr
    go_enter Tryz.func26, Tryz.ntmps26
    go_wp2_with fail
    refine (iMatrixValid_is _ _ _ _ _ _ (ints_al hz _) HOK.out).mono ?_
    rintro e w1 ⟨rfl, hb1⟩
    go_wp2_with fail
    go_ret
    exact ⟨rfl, below_on hb0 hb1⟩

theorem l1In_is (x a b : Int) (r : Bool) (w : World) (hr : decide (a ≤ x ∧ x ≤ b) = r) :
    Calls Tryz.prog 35 #[.int .i64 x, .int .i64 a, .int .i64 b] w fun e w' => e = .returned (.bool r) ∧ w = w' := by
  subst hr; exact l1In_any x a b w
/-! The square of a matrix of grades. -/
theorem g_gives_sq {tmps : Array Value} {w : World} {p : Tmp} {g : Nat} {t : TypeId} {a b c d e f : Value} (hp : tmps.getD p undef = .pointer (some ⟨g, 0, none⟩)) (hg : Blk w g t #[a, b, c, d, e, f]) : Gives Tryz.prog tmps w (.cell p 101) (.agg #[a, b, c, d, e, f]) :=
  Gives.row hp hg Tryz.underlying101 rfl (by kernel_rfl)
theorem g_squareOf_raw (n p cap : Nat) (A : Option Addr) (zs : List Int) (w : World) (n1 : 1 ≤ n) (n2 : n ≤ 4) (hp : p = n * n) (hl : zs.length = p) (hz : Ints w w.heap.size A zs) :
    Calls Tryz.prog 77 #[.agg gringV, .agg #[.int .i64 n, .slice A p cap]] w fun e w' => ∃ g, e = .returned (.agg #[.func (.func 89) #[] #[], .int .i64 0, .func (.func 63) #[] #[], .int .i64 3, .int .i64 n, .slice (some ⟨g, 0, none⟩) p p]) ∧ Below w.heap.size w w' ∧ w.heap.size ≤ g ∧ GSq w' g zs := g_squareOf_any n p cap A zs w n1 n2 hp hl hz
theorem iGradesValid_p (m : Int) (A : Option Addr) (cap p : Nat) (zs : List Int) (r : Bool) (w : World) (hl : zs.length = p) (hz : Ints w w.heap.size A zs) (hr : gradeOk m zs = r) :
    Calls Tryz.prog 26 #[.agg #[.int .i64 m, .slice A p cap]] w fun e w' => e = .returned (.bool r) ∧ Below w.heap.size w w' := by
  subst hl; exact iGradesValid_is m A cap zs r w hz hr
theorem below_sq {B : Nat} {w0 w : World} (h : Below B w0 w) (g : Nat) (hg : B ≤ g) (v0 v1 v2 v3 v4 v5 : Value) : Below B w0 (((((((w.setCell ⟨g, 0, none⟩ v0).setCell ⟨g, 1, none⟩ v1).setCell ⟨g, 2, none⟩ v2).setCell ⟨g, 3, none⟩ v3).setCell ⟨g, 4, none⟩ v4).setCell ⟨g, 5, none⟩ v5)) :=
  (((((h.setCell (p := ⟨g, 0, none⟩) hg v0).setCell (p := ⟨g, 1, none⟩) hg v1).setCell (p := ⟨g, 2, none⟩) hg v2).setCell (p := ⟨g, 3, none⟩) hg v3).setCell (p := ⟨g, 4, none⟩) hg v4).setCell (p := ⟨g, 5, none⟩) hg v5
theorem gradeSquare_ok (N p : Nat) (A : Option Addr) (cap : Nat) (zs : List Int) (w : World) (n1 : 1 ≤ N) (n2 : N ≤ 4) (HP : Hid (p = N * N)) (HLP : Hid (zs.length = p)) (HOK : Hid (gradeOk (N : Int) zs = true)) (hz : Ints w w.heap.size A zs) :
    Calls Tryz.prog 61 #[.agg #[.int .i64 N, .slice A p cap]] w fun e w' => ∃ g, e = .returned (.tuple #[gsqV N (.slice (some ⟨g, 0, none⟩) p p), .bool true]) ∧ Below w.heap.size w w' ∧ w.heap.size ≤ g ∧ GSq w' g zs := by
  go_enter Tryz.func61, Tryz.ntmps61
  go_wp2_with fail
  refine (iGradesValid_p _ _ _ _ _ _ _ HLP.out (ints_al (ints_al hz _) _) HOK.out).mono ?_
  rintro e w1 ⟨rfl, hb1⟩
  have hb0 := below_on (below_a2 w _ _) hb1
  have pA : Blk w1 w.heap.size 28 #[.int .i64 N, .slice A p cap] := ((Blk.new w _ _).alloc _).below hb1 (by simp; omega)
  have rA : Blk w1 (w.heap.size + 1) 101 #[.nilFunc, .int .i64 0, .nilFunc, .int .i64 0, .int .i64 0, .slice none 0 0] := (blk_new (by simp)).below hb1 (by simp)
  obtain ⟨R, hRe⟩ : ∃ R, R = w.heap.size + 1 := ⟨_, rfl⟩
  rw [← hRe] at rA
  rw [← hRe]
  have hRg : w.heap.size < R := by omega
  have hz1 := hz.below hb0
  have keep : ∀ w', w1.grownBy w' (some R) → (Hid (w1.grownBy w' (some R)) ∧ w'.cell? ⟨w.heap.size, 0, none⟩ = some (.int .i64 N) ∧ w'.cell? ⟨w.heap.size, 1, none⟩ = some (.slice A p cap)) := by
    intro w' h
    exact ⟨h, (pA.grown h (by omega)).cell 0, (pA.grown h (by omega)).cell 1⟩
  have K := Lib.hid keep
  have HZ := Lib.hid hz1
  have HB := Lib.hid hb0
  have RA := Lib.hid (rA.drewN 1)
  have hS0 := K.out w1.drew (grow_drew _ _)
  clear keep hb1 hz1 hb0 pA rA hz hRe
  go_wp2_with fail
  go_region_held3 (fun w' => Hid (w1.grownBy w' (some R)) ∧ w'.cell? ⟨w.heap.size, 0, none⟩ = some (.int .i64 N) ∧ w'.cell? ⟨w.heap.size, 1, none⟩ = some (.slice A p cap)) (first | with_reducible assumption | with_reducible exact K.out _ (grow_trans hS2.1.out (grow_six _ _ _ _ _ _ _ _)) | skip)
    (first
      | (go_at_call 78; refine (gradeRing_any _).mono ?_; rintro e w2 ⟨rfl, hb2⟩; have hS1 := K.out _ (grow_trans hS0.1.out (grow_below_any hb2 _)); have R2 := Lib.hid (RA.out.below hb2 (Blk.lt RA.out)); clear hb2)
      | (go_at_call 77; refine (g_squareOf_raw N p cap A zs _ n1 n2 HP.out HLP.out ((ints_grown HZ.out hS1.1.out (Nat.le_of_lt hRg) HB.out.size).more (Nat.le_trans HB.out.size hS1.1.out.size))).mono ?_; rintro e w3 ⟨g, rfl, hb3, hg3, hq3⟩; have hS2 := K.out _ (grow_trans hS1.1.out (grow_below_any hb3 _)); have R3 := Lib.hid (R2.out.below hb3 (Blk.lt R2.out)); have Q3 := Lib.hid hq3; have hRg3 := Nat.lt_of_lt_of_le (Blk.lt R2.out) hg3; obtain ⟨d0, d1, d2, d3, d4, d5⟩ := six_cells R3.out; obtain ⟨f0, f1, f2, f3, f4, f5⟩ := six_frozen R3.out; clear hb3 hq3))
  go_wp2_with fail
  refine bodyPost_ret (results_2 rfl (g_gives_sq (g := R) rfl (blk_six R3.out)) (.tmp rfl)) rfl ?_
  refine ⟨g, rfl, below_sq (HB.out.grown hS2.1.out HB.out.size (fun j hj => by cases hj; omega)) _ (by omega) _ _ _ _ _ _, by omega, ?_⟩
  exact Blk.grown Q3.out (grow_six _ R _ _ _ _ _ _) (by omega)
theorem gradeSquare_no (m : Int) (A : Option Addr) (cap : Nat) (zs : List Int) (w : World) (hz : Ints w w.heap.size A zs) (hok : gradeOk m zs = false) :
    Calls Tryz.prog 61 #[.agg #[.int .i64 m, .slice A zs.length cap]] w fun e w' => e = .returned (.tuple #[.agg #[.nilFunc, .int .i64 0, .nilFunc, .int .i64 0, .int .i64 0, .slice none 0 0], .bool false]) ∧ Below w.heap.size w w' := by
  have HOK := Lib.hid hok
  clear hok
  go_enter Tryz.func61, Tryz.ntmps61
  go_wp2_with fail
  refine (iGradesValid_is _ _ _ _ _ _ (ints_al (ints_al hz _) _) HOK.out).mono ?_
  rintro e w1 ⟨rfl, hb1⟩
  have HB := Lib.hid (below_on (below_a2 w _ _) hb1)
  have rA : Blk w1 (w.heap.size + 1) 101 #[.nilFunc, .int .i64 0, .nilFunc, .int .i64 0, .int .i64 0, .slice none 0 0] := (blk_new (by simp)).below hb1 (by simp)
  obtain ⟨d0, d1, d2, d3, d4, d5⟩ := six_cells rA
  obtain ⟨f0, f1, f2, f3, f4, f5⟩ := six_frozen rA
  have RA := Lib.hid rA
  clear hb1 rA
  go_wp2_with fail
  refine bodyPost_ret (results_2 rfl (g_gives_sq (g := w.heap.size + 1) rfl (blk_six RA.out)) (.tmp rfl)) rfl ?_
  exact ⟨rfl, below_sq HB.out _ (by omega) _ _ _ _ _ _⟩
end Go.Proofs.YthcfdmphephfpaaGreat
