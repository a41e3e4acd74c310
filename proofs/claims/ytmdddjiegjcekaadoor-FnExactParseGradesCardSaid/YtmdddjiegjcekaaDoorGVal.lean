/- Whether a matrix has grades alone, as the program and the model have it; its square of grades; squares as keys that are compared, and whether one is its own square. Nothing that was there changes. -/
import Derived.Test.YtmdddjiegjcekaaDoorGSq
import Derived.ChangeKeysEq
import Derived.Deep.RegionWith
namespace Go.Proofs.YtmdddjiegjcekaaDoor
open Go.RowKit
set_option maxHeartbeats 1000000
set_option maxRecDepth 100000
set_option linter.unusedVariables false

theorem gvalid_is (z : Int) (r : Bool) (w : World) (hr : gvld z = r) :
    Calls Tryd.prog 24 #[.int .i64 z] w fun e w' => e = .returned (.bool r) ∧ w = w' := by
  by_cases h0 : 0 ≤ z
  · by_cases h3 : z ≤ 3
    · have hR : r = true := by rw [← hr]; exact gvld_yes ⟨h0, h3⟩
      subst hR
      clear hr
      go_enter Tryd.func24, Tryd.ntmps24
      go_wp2
      go_ret
      exact ⟨rfl, rfl⟩
    · have hR : r = false := by rw [← hr]; simp only [gvld, decide_eq_false_iff_not]; omega
      subst hR
      clear hr
      go_enter Tryd.func24, Tryd.ntmps24
      go_wp2
      go_ret
      exact ⟨rfl, rfl⟩
  · have hR : r = false := by rw [← hr]; simp only [gvld, decide_eq_false_iff_not]; omega
    subst hR
    clear hr
    go_enter Tryd.func24, Tryd.ntmps24
    go_wp2
    go_ret
    exact ⟨rfl, rfl⟩

theorem iGradesValid_is (m : Int) (A : Option Addr) (cap : Nat) (zs : List Int) (r : Bool) (w : World) (hz : Ints w w.heap.size A zs) (hr : gradeOk m zs = r) :
    Calls Tryd.prog 15 #[.agg #[.int .i64 m, .slice A zs.length cap]] w fun e w' => e = .returned (.bool r) ∧ Below w.heap.size w w' := by
  have hl := hz.len
  have hb0 := below_a1 w (.cells #[.int .i64 m, .slice A zs.length cap] 24)
  rcases Bool.eq_false_or_eq_true (matOk m zs) with hok | hok
  · have hE : Hid (gAll zs = r) := by show _ = _; rw [← hr, gradeOk_all hok]
    have HOK := Lib.hid hok
    clear hok hr
    go_enter Tryd.func15, Tryd.ntmps15
    go_wp2_with fail
    refine (iMatrixValid_is _ _ _ _ _ _ (ints_al hz _) HOK.out).mono ?_
    rintro e w1 ⟨rfl, hb1⟩
    have pA : Blk w1 w.heap.size 24 #[.int .i64 m, .slice A zs.length cap] := (Blk.new w _ _).below hb1 (by simp)
    obtain ⟨c0, c1⟩ := two_cells pA
    have HB := Lib.hid (below_on hb0 hb1)
    have hz1 := (hz.below HB.out).more HB.out.size
    clear hb1 hb0 pA
    go_wp2_with fail
    go_loop [11] (fun i => ∃ k : Nat, k ≤ zs.length ∧ i = .int .i64 k ∧ Hid (gAll zs = gAll (zs.drop k))) (fun i => zs.length - (intOf i).toNat)
    case atStart => exact ⟨0, Nat.zero_le _, rfl, rfl⟩
    case round =>
      obtain ⟨k, hk, rfl, HR2⟩ := hrel
      by_cases hlt : k < zs.length
      · obtain ⟨b, off, z, rfl, _, hc, hd, _⟩ := hz1.at_ hlt
        have HD := Lib.hid hd
        clear hd
        rcases Bool.eq_false_or_eq_true (gvld z) with hv | hv
        · have HV := Lib.hid hv
          clear hv
          go_wp2_with fail
          refine (gvalid_is _ _ _ HV.out).mono ?_
          rintro e w' ⟨rfl, rfl⟩
          go_wp2_with fail
          go_round
          case rel => exact ⟨k + 1, by omega, by go_num, by show _ = _; rw [HR2.out, HD.out, gAll_t HV.out]⟩
          case measure => simp [intOf]; omega
        · have HV := Lib.hid hv
          have HF := Lib.hid (show r = false by rw [← hE.out, HR2.out, HD.out, gAll_f HV.out])
          clear hv
          go_wp2_with fail
          refine (gvalid_is _ _ _ HV.out).mono ?_
          rintro e w' ⟨rfl, rfl⟩
          go_wp2_with fail
          go_ret
          exact ⟨ret_bool HF.out.symm, HB.out⟩
      · have HF := Lib.hid (show r = true by rw [← hE.out, HR2.out, List.drop_of_length_le (by omega)]; rfl)
        go_wp2_with fail
        go_ret
        exact ⟨ret_bool HF.out.symm, HB.out⟩
  · have hR : r = false := by rw [← hr]; exact gradeOk_mat hok
    have HOK := Lib.hid hok
    subst hR
    clear hok hr
    go_enter Tryd.func15, Tryd.ntmps15
    go_wp2_with fail
    refine (iMatrixValid_is _ _ _ _ _ _ (ints_al hz _) HOK.out).mono ?_
    rintro e w1 ⟨rfl, hb1⟩
    go_wp2_with fail
    go_ret
    exact ⟨rfl, below_on hb0 hb1⟩

theorem l1In_is (x a b : Int) (r : Bool) (w : World) (hr : decide (a ≤ x ∧ x ≤ b) = r) :
    Calls Tryd.prog 19 #[.int .i64 x, .int .i64 a, .int .i64 b] w fun e w' => e = .returned (.bool r) ∧ w = w' := by
  subst hr; exact l1In_any x a b w
theorem sGradesValid_is (m : Int) (A : Option Addr) (cap : Nat) (zs : List Int) (r : Bool) (w : World) (hz : Ints w w.heap.size A zs) (hr : gradeOk m zs = r) :
    Calls Tryd.prog 11 #[.agg #[.int .i64 m, .slice A zs.length cap]] w fun e w' => e = .returned (.bool r) ∧ Below w.heap.size w w' := by
  have hl := hz.len
  have hb0 := below_a1 w (.cells #[.int .i64 m, .slice A zs.length cap] 24)
  have HE := Lib.hid hr
  have hz1 := ints_al hz (.cells #[.int .i64 m, .slice A zs.length cap] 24)
  clear hr
  go_enter Tryd.func11, Tryd.ntmps11
  go_wp2_with fail
  go_loop [8] (fun i => ∃ k : Nat, k ≤ zs.length ∧ i = .int .i64 k ∧ Hid (gAll zs = gAll (zs.drop k))) (fun i => zs.length - (intOf i).toNat)
  case atStart => exact ⟨0, Nat.zero_le _, rfl, rfl⟩
  case round =>
    obtain ⟨k, hk, rfl, HR2⟩ := hrel
    by_cases hlt : k < zs.length
    · obtain ⟨b, off, z, rfl, _, hc, hd, _⟩ := hz1.at_ hlt
      have HD := Lib.hid hd
      clear hd
      rcases Bool.eq_false_or_eq_true (gvld z) with hv | hv
      · have HV := Lib.hid hv
        clear hv
        go_wp2_with fail
        refine (l1In_is _ _ _ _ _ HV.out).mono ?_
        rintro e w' ⟨rfl, rfl⟩
        go_wp2_with fail
        go_round
        case rel => exact ⟨k + 1, by omega, by go_num, by show _ = _; rw [HR2.out, HD.out, gAll_t HV.out]⟩
        case measure => simp [intOf]; omega
      · have HV := Lib.hid hv
        have HF := Lib.hid (show r = false by rw [← HE.out]; exact gradeOk_cells (by rw [HR2.out, HD.out, gAll_f HV.out]))
        clear hv
        go_wp2_with fail
        refine (l1In_is _ _ _ _ _ HV.out).mono ?_
        rintro e w' ⟨rfl, rfl⟩
        go_wp2_with fail
        go_ret
        exact ⟨ret_bool HF.out.symm, hb0⟩
    · have HF := Lib.hid (show matOk m zs = r by rw [← HE.out]; exact (gradeOk_mat_t (by rw [HR2.out, List.drop_of_length_le (by omega)]; rfl)).symm)
      go_wp2_with fail
      refine (sMatrixValid_is _ _ _ _ _ _ hz1 HF.out).mono ?_
      rintro e w1 ⟨rfl, hb1⟩
      go_wp2_with fail
      go_ret
      exact ⟨rfl, below_on hb0 hb1⟩

/-! The square of a matrix of grades. -/
theorem iGradesValid_p (m : Int) (A : Option Addr) (cap p : Nat) (zs : List Int) (r : Bool) (w : World) (hl : zs.length = p) (hz : Ints w w.heap.size A zs) (hr : gradeOk m zs = r) :
    Calls Tryd.prog 15 #[.agg #[.int .i64 m, .slice A p cap]] w fun e w' => e = .returned (.bool r) ∧ Below w.heap.size w w' := by
  subst hl; exact iGradesValid_is m A cap zs r w hz hr
theorem below_sq {B : Nat} {w0 w : World} (h : Below B w0 w) (g : Nat) (hg : B ≤ g) (v0 v1 v2 v3 v4 v5 : Value) : Below B w0 (((((((w.setCell ⟨g, 0, none⟩ v0).setCell ⟨g, 1, none⟩ v1).setCell ⟨g, 2, none⟩ v2).setCell ⟨g, 3, none⟩ v3).setCell ⟨g, 4, none⟩ v4).setCell ⟨g, 5, none⟩ v5)) :=
  (((((h.setCell (p := ⟨g, 0, none⟩) hg v0).setCell (p := ⟨g, 1, none⟩) hg v1).setCell (p := ⟨g, 2, none⟩) hg v2).setCell (p := ⟨g, 3, none⟩) hg v3).setCell (p := ⟨g, 4, none⟩) hg v4).setCell (p := ⟨g, 5, none⟩) hg v5
end Go.Proofs.YtmdddjiegjcekaaDoor
