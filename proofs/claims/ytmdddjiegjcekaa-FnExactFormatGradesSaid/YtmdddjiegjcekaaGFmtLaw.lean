/- The walk of the exact law of FormatGrades: it returns true for all arguments; nothing that was there changes. No condition. -/
import Derived.Test.YtmdddjiegjcekaaGFmt
namespace Go.Proofs.Ytmdddjiegjcekaa
open Go.RowKit
set_option maxHeartbeats 1000000
set_option linter.unusedVariables false

theorem FnExactFormatGrades_walk (m : Int) (A : Option Addr) (cap : Nat) (zs : List Int) (w : World) (hz : IRow .i64 w w.heap.size A zs) :
    Calls Try.prog 3 #[.agg #[.int .i64 m, .slice A zs.length cap]] w fun e w' => e = .returned (.bool true) ∧ Below w.heap.size w w' := by
  have hl := hz.len
  have hz0 := ints_al hz (.cells #[.int .i64 m, .slice A zs.length cap] 24)
  have hb0 := below_a1 w (.cells #[.int .i64 m, .slice A zs.length cap] 24)
  by_cases hs : (zs.length : Int) ≤ 1048576
  · go_enter Try.func3, Try.ntmps3
    go_wp2_with fail
    refine (szMatrix_ok _ _ _ _ _ _ _ (by omega) (by omega) hs rfl).mono ?_
    rintro e w1 ⟨rfl, hb1⟩
    have hbA := below_on hb0 hb1
    have bA : Blk w1 w.heap.size 24 #[.int .i64 m, .slice A zs.length cap] := (Blk.new w _ _).below hb1 (by simp)
    have hzA := (hz0.below hb1).more hb1.size
    have a0 := bA.cell 0
    have a1 := bA.cell 1
    simp at a0 a1
    go_wp2_with fail
    refine (toMatrix_any _ _ _ _ _ hzA (by omega)).mono ?_
    rintro e w2 ⟨_, rfl, ⟨A2, cap2, rfl, hc2, hi2⟩, hb2⟩
    have hbB := below_on hbA hb2
    clear a0 a1
    go_wp2_with fail
    refine (sFmtG_any _ _ _ _ _ hi2).mono ?_
    rintro e w3 ⟨rfl, hb3⟩
    have hbC := below_on hbB hb3
    have bC := (bA.below hb2 bA.lt).below hb3 (Nat.lt_of_lt_of_le bA.lt hb2.size)
    have hzC := (hz.below hbC).more hbC.size
    have a0 := bC.cell 0
    have a1 := bC.cell 1
    simp at a0 a1
    go_wp2_with fail
    refine (toMatrix_any _ _ _ _ _ hzC (by omega)).mono ?_
    rintro e w4 ⟨_, rfl, ⟨A4, cap4, rfl, hc4, hi4⟩, hb4⟩
    have hbD := below_on hbC hb4
    have bD := bC.below hb4 bC.lt
    clear a0 a1
    go_wp2_with fail
    refine (iFmtG_any _ _ _ _ _ (ints_al hi4 _)).mono ?_
    rintro e w5 ⟨rfl, hb5⟩
    have hbE := below_on (below_al hbD (Nat.le_refl _) _) hb5
    have bE := (bD.alloc _).below hb5 (Blk.lt (bD.alloc _))
    have xE := (Blk.new _ _ _).below hb5 (Blk.lt (Blk.new _ _ _))
    have hzE := (hz.below hbE).more hbE.size
    have hiE := ((ints_al hi4 _).below hb5).more hb5.size
    obtain ⟨N4, hN4⟩ : ∃ n, n = w4.heap.size := ⟨_, rfl⟩
    rw [← hN4] at xE
    rw [← hN4]
    have keep : ∀ w', Below w5.heap.size w5 w' → (Hid (Below w5.heap.size w5 w') ∧ w'.cell? ⟨w.heap.size, 0, none⟩ = some (.int .i64 m) ∧ w'.cell? ⟨w.heap.size, 1, none⟩ = some (.slice A zs.length cap) ∧ w'.cell? ⟨N4, 0, none⟩ = some (.int .i64 m) ∧ w'.cell? ⟨N4, 1, none⟩ = some (.slice A4 zs.length cap4)) := by
      intro w' h
      have p := (bE.below h bE.lt)
      have q := (xE.below h xE.lt)
      exact ⟨h, by simpa using p.cell 0, by simpa using p.cell 1, by simpa using q.cell 0, by simpa using q.cell 1⟩
    have K := Lib.hid keep
    have HZE := Lib.hid hzE
    have HIE := Lib.hid hiE
    have HBE := Lib.hid hbE
    clear keep hzE hiE hbE bE xE bD hbD hbC bC hzC hbB bA hbA hb0 hb1 hb2 hb3 hb4 hb5 hz hz0 hi2 hi4 hzA hN4
    go_wp2_with fail
    have hS0 := K.out w5.drew ((Below.refl _ _).drew)
    go_region_held3 (fun w' => Hid (Below w5.heap.size w5 w') ∧ w'.cell? ⟨w.heap.size, 0, none⟩ = some (.int .i64 m) ∧ w'.cell? ⟨w.heap.size, 1, none⟩ = some (.slice A zs.length cap) ∧ w'.cell? ⟨N4, 0, none⟩ = some (.int .i64 m) ∧ w'.cell? ⟨N4, 1, none⟩ = some (.slice A4 zs.length cap4)) (first | assumption | skip)
      (first
        | (go_at_call 6; refine (toMatrix_any _ _ _ _ _ ((HZE.out.below hS0.1.out).more hS0.1.out.size) (by omega)).mono ?_; rintro e w6 ⟨_, rfl, ⟨A6, cap6, rfl, hc6, hi6⟩, hb6⟩; have hS1 := K.out _ (below_on hS0.1.out hb6))
        | (go_at_call 8; refine (eqMatrix_eq _ _ _ _ _ _ _ ((HIE.out.below hS1.1.out).more hS1.1.out.size) hi6).mono ?_; rintro e w7 ⟨rfl, hb7⟩; have hS2 := K.out _ (below_on hS1.1.out hb7)))
    go_wp2_with fail
    go_ret
    exact ⟨rfl, below_on HBE.out hS2.1.out⟩
  · go_enter Try.func3, Try.ntmps3
    go_wp2_with fail
    refine (szMatrix_no _ _ _ _ _ _ (by omega) (by omega) (by omega) hl).mono ?_
    rintro e w1 ⟨rfl, hb1⟩
    go_wp2_with fail
    go_ret
    exact ⟨rfl, below_on hb0 hb1⟩
end Go.Proofs.Ytmdddjiegjcekaa
