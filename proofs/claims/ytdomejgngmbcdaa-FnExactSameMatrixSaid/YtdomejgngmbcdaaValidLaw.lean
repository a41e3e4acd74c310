/- The walks of the exact laws of MatrixValid and SameMatrix: each returns true for all arguments; nothing that was there changes. No condition. -/
import Derived.Test.YtdomejgngmbcdaaMats
import Derived.Deep.RegionHeld3
namespace Go.Proofs.Ytdomejgngmbcdaa
open Go.RowKit
set_option maxHeartbeats 1000000
set_option linter.unusedVariables false

/-- Two lists of numbers compared by the library and by the model. -/
theorem equal_any (A A' : Option Addr) (cap cap' B B' : Nat) (zs ys : List Int) (w : World) (hz : Ints w B A zs) (hy : Ints w B' A' ys) :
    Calls Try.prog 71 #[.slice A zs.length cap, .slice A' ys.length cap'] w fun e w' => e = .returned (.bool (decide (zs = ys))) ∧ ∃ m, w' = w.drewN m := by
  have hl := hz.len
  have hl' := hy.len
  by_cases hn : zs.length = ys.length
  · have HN := Lib.hid hn
    have hnc : (((zs.length : Int)) != (ys.length : Int)) = false := by rw [bne_eq_false_iff_eq]; omega
    clear hn
    go_enter Try.func71, Try.ntmps71
    go_wp2
    go_loopw [13] (fun i wr => ∃ (k m : Nat), k ≤ zs.length ∧ i = .int .i64 k ∧ zs.take k = ys.take k ∧ wr = w.drewN m) (fun i _ => zs.length - (intOf i).toNat)
    case atStart => exact ⟨0, 0, Nat.zero_le _, rfl, rfl, rfl⟩
    case round =>
      obtain ⟨k, m, hk, rfl, ht, rfl⟩ := hrel
      have HT := Lib.hid ht
      clear ht
      by_cases hlt : k < zs.length
      · have hlt' : k < ys.length := by rw [← HN.out]; exact hlt
        obtain ⟨b, off, z, rfl, hbB, hc, hd, hg⟩ := hz.at_ hlt
        obtain ⟨b', off', y, rfl, hbB', hc', hd', hg'⟩ := hy.at_ hlt'
        have ez : zs[k] = z := by rw [List.getD_eq_getElem?_getD, List.getElem?_eq_getElem hlt] at hg; exact hg
        have ey : ys[k] = y := by rw [List.getD_eq_getElem?_getD, List.getElem?_eq_getElem hlt'] at hg'; exact hg'
        have EZ := Lib.hid ez
        have EY := Lib.hid ey
        clear hd hg hd' hg' ez ey
        have hi0 : (0 : Int) ≤ (k : Int) := by omega
        have hi1 : (k : Int) < (zs.length : Int) := by omega
        have hi2 : (k : Int) < (ys.length : Int) := by omega
        by_cases hzy : z = y
        · have HZY := Lib.hid hzy
          have hbb : (z != y) = false := by simpa using hzy
          clear hzy
          go_wp2
          go_quiet (fail)
          go_wp2
          go_roundw
          case rel => exact ⟨k + 1, _, by omega, by go_num, by rw [List.take_succ_eq_append_getElem hlt, List.take_succ_eq_append_getElem hlt', HT.out, EZ.out, EY.out, HZY.out], rfl⟩
          case measure => simp [intOf]; omega
        · have HZY := Lib.hid hzy
          have hbb : (z != y) = true := by simpa using hzy
          clear hzy
          go_wp2
          go_quiet (fail)
          go_wp2
          go_ret
          refine ⟨ret_bool ?_, _, World.drewN_drewN _ _ _⟩
          symm
          rw [decide_eq_false_iff_not]
          intro he
          subst he
          exact HZY.out (EZ.out.symm.trans EY.out)
      · go_wp2
        go_ret
        refine ⟨ret_bool ?_, _, rfl⟩
        have h1 := HT.out
        rw [List.take_of_length_le (by omega), List.take_of_length_le (by rw [← HN.out]; omega)] at h1
        simp [h1]
  · have hnc : (((zs.length : Int)) != (ys.length : Int)) = true := by rw [bne_iff_ne]; omega
    have hd : decide (zs = ys) = false := decide_eq_false fun h => hn (by rw [h])
    rw [hd]
    clear hn hd
    go_enter Try.func71, Try.ntmps71
    go_wp2
    go_ret
    exact ⟨rfl, 0, rfl⟩
theorem l2Same_any (A A' : Option Addr) (cap cap' B B' : Nat) (zs ys : List Int) (w : World) (hz : Ints w B A zs) (hy : Ints w B' A' ys) :
    Calls Try.prog 70 #[.slice A zs.length cap, .slice A' ys.length cap'] w fun e w' => e = .returned (.bool (decide (zs = ys))) ∧ ∃ m, w' = w.drewN m := by
  have hl := hz.len
  have hl' := hy.len
  by_cases hle : ys.length < zs.length
  · have hd : decide (zs = ys) = false := decide_eq_false fun h => by rw [h] at hle; omega
    have hlb : (((zs.length : Int)) == (ys.length : Int)) = false := by rw [beq_eq_false_iff_ne]; omega
    have HD := Lib.hid hd
    clear hd
    go_enter Try.func70, Try.ntmps70
    go_wp2
    go_loopw [11] (fun i wr => ∃ (k m : Nat), k ≤ ys.length ∧ i = .int .i64 k ∧ wr = w.drewN m) (fun i _ => ys.length - (intOf i).toNat)
    case atStart => exact ⟨0, 0, Nat.zero_le _, rfl, rfl⟩
    case round =>
      obtain ⟨k, m, hk, rfl, rfl⟩ := hrel
      by_cases hlt' : k < ys.length
      · have hlt : k < zs.length := by omega
        obtain ⟨b, off, z, rfl, hbB, hc, hd, hg⟩ := hz.at_ hlt
        obtain ⟨b', off', y, rfl, hbB', hc', hd', hg'⟩ := hy.at_ hlt'
        clear hd hg hd' hg'
        have hi0 : (0 : Int) ≤ (k : Int) := by omega
        have hi1 : (k : Int) < (zs.length : Int) := by omega
        have hi2 : (k : Int) < (ys.length : Int) := by omega
        rcases Bool.eq_false_or_eq_true (z != y) with hbb | hbb
        · go_wp2
          go_quiet (fail)
          go_wp2
          go_ret
          exact ⟨ret_bool HD.out.symm, _, World.drewN_drewN _ _ _⟩
        · go_wp2
          go_quiet (fail)
          go_wp2
          go_roundw
          case rel => exact ⟨k + 1, _, by omega, by go_num, rfl⟩
          case measure => simp [intOf]; omega
      · go_wp2
        go_ret
        exact ⟨ret_bool HD.out.symm, m, rfl⟩
  · go_enter Try.func70, Try.ntmps70
    go_wp2
    go_loopw [11] (fun i wr => ∃ (k m : Nat), k ≤ zs.length ∧ i = .int .i64 k ∧ zs.take k = ys.take k ∧ wr = w.drewN m) (fun i _ => zs.length - (intOf i).toNat)
    case atStart => exact ⟨0, 0, Nat.zero_le _, rfl, rfl, rfl⟩
    case round =>
      obtain ⟨k, m, hk, rfl, ht, rfl⟩ := hrel
      have HT := Lib.hid ht
      clear ht
      by_cases hlt : k < zs.length
      · have hlt' : k < ys.length := by omega
        obtain ⟨b, off, z, rfl, hbB, hc, hd, hg⟩ := hz.at_ hlt
        obtain ⟨b', off', y, rfl, hbB', hc', hd', hg'⟩ := hy.at_ hlt'
        have ez : zs[k] = z := by rw [List.getD_eq_getElem?_getD, List.getElem?_eq_getElem hlt] at hg; exact hg
        have ey : ys[k] = y := by rw [List.getD_eq_getElem?_getD, List.getElem?_eq_getElem hlt'] at hg'; exact hg'
        have EZ := Lib.hid ez
        have EY := Lib.hid ey
        clear hd hg hd' hg' ez ey
        have hi0 : (0 : Int) ≤ (k : Int) := by omega
        have hi1 : (k : Int) < (zs.length : Int) := by omega
        have hi2 : (k : Int) < (ys.length : Int) := by omega
        by_cases hzy : z = y
        · have HZY := Lib.hid hzy
          have hbb : (z != y) = false := by simpa using hzy
          clear hzy
          go_wp2
          go_quiet (fail)
          go_wp2
          go_roundw
          case rel => exact ⟨k + 1, _, by omega, by go_num, by rw [List.take_succ_eq_append_getElem hlt, List.take_succ_eq_append_getElem hlt', HT.out, EZ.out, EY.out, HZY.out], rfl⟩
          case measure => simp [intOf]; omega
        · have HZY := Lib.hid hzy
          have hbb : (z != y) = true := by simpa using hzy
          clear hzy
          go_wp2
          go_quiet (fail)
          go_wp2
          go_ret
          refine ⟨ret_bool ?_, _, World.drewN_drewN _ _ _⟩
          symm
          rw [decide_eq_false_iff_not]
          intro he
          subst he
          exact HZY.out (EZ.out.symm.trans EY.out)
      · rcases Bool.eq_false_or_eq_true (((zs.length : Int)) == (ys.length : Int)) with hlb | hlb
        · have hE : zs = ys := by
            have h1 := HT.out
            have h2 := beq_iff_eq.1 hlb
            rwa [List.take_of_length_le (by omega), List.take_of_length_le (by omega)] at h1
          have HE := Lib.hid hE
          clear hE
          go_wp2
          go_ret
          exact ⟨ret_bool (by rw [decide_eq_true HE.out]), m, rfl⟩
        · have hE : ¬ zs = ys := fun h => by rw [h] at hlb; simp at hlb
          have HE := Lib.hid hE
          clear hE
          go_wp2
          go_ret
          exact ⟨ret_bool (by rw [decide_eq_false HE.out]), m, rfl⟩

theorem FnExactMatrixValid_walk (m : Int) (A : Option Addr) (cap : Nat) (zs : List Int) (w : World) (hz : IRow .i64 w w.heap.size A zs) :
    Calls Try.prog 7 #[.agg #[.int .i64 m, .slice A zs.length cap]] w fun e w' => e = .returned (.bool true) ∧ Below w.heap.size w w' := by
  have hl := hz.len
  obtain ⟨r, hr⟩ : ∃ r, matOk m zs = r := ⟨_, rfl⟩
  have HR := Lib.hid hr
  clear hr
  have hz0 := ints_al hz (.cells #[.int .i64 m, .slice A zs.length cap] 40)
  have hb0 := below_a1 w (.cells #[.int .i64 m, .slice A zs.length cap] 40)
  by_cases hs : (zs.length : Int) ≤ 1048576
  · go_enter Try.func7, Try.ntmps7
    go_wp2_with fail
    refine (szMatrix_ok _ _ _ _ _ _ _ (by omega) (by omega) hs rfl).mono ?_
    rintro e w1 ⟨rfl, hb1⟩
    have hbA := below_on hb0 hb1
    have bA : Blk w1 w.heap.size 40 #[.int .i64 m, .slice A zs.length cap] := (Blk.new w _ _).below hb1 (by simp)
    have hzA := (hz0.below hb1).more hb1.size
    have a0 := bA.cell 0
    have a1 := bA.cell 1
    simp at a0 a1
    go_wp2_with fail
    refine (toMatrix_any _ _ _ _ _ hzA (by omega)).mono ?_
    rintro e w2 ⟨_, rfl, ⟨A2, cap2, rfl, hc2, hi2⟩, hb2⟩
    have hbB := below_on hbA hb2
    clear a0 a1
    go_wp2_with fail
    refine (sMatrixValid_is _ _ _ _ _ _ hi2 HR.out).mono ?_
    rintro e w3 ⟨rfl, hb3⟩
    have hbC := below_on hbB hb3
    have bC := (bA.below hb2 bA.lt).below hb3 (Nat.lt_of_lt_of_le bA.lt hb2.size)
    have hzC := (hz.below hbC).more hbC.size
    have a0 := bC.cell 0
    have a1 := bC.cell 1
    simp at a0 a1
    go_wp2_with fail
    refine (toMatrix_any _ _ _ _ _ hzC (by omega)).mono ?_
    rintro e w4 ⟨_, rfl, ⟨A4, cap4, rfl, hc4, hi4⟩, hb4⟩
    have hbD := below_on hbC hb4
    have bD := bC.below hb4 bC.lt
    clear a0 a1
    go_wp2_with fail
    refine (iMatrixValid_is _ _ _ _ _ _ (ints_al hi4 _) HR.out).mono ?_
    rintro e w5 ⟨rfl, hb5⟩
    have hbE := below_on (below_al hbD (Nat.le_refl _) _) hb5
    have bE := (bD.alloc _).below hb5 (Blk.lt (bD.alloc _))
    have xE := (Blk.new _ _ _).below hb5 (Blk.lt (Blk.new _ _ _))
    have hzE := (hz.below hbE).more hbE.size
    have hiE := ((ints_al hi4 _).below hb5).more hb5.size
    obtain ⟨N4, hN4⟩ : ∃ n, n = w4.heap.size := ⟨_, rfl⟩
    rw [← hN4] at xE
    rw [← hN4]
    have keep : ∀ w', Below w5.heap.size w5 w' → (Hid (Below w5.heap.size w5 w') ∧ w'.cell? ⟨w.heap.size, 0, none⟩ = some (.int .i64 m) ∧ w'.cell? ⟨w.heap.size, 1, none⟩ = some (.slice A zs.length cap) ∧ w'.cell? ⟨N4, 0, none⟩ = some (.int .i64 m) ∧ w'.cell? ⟨N4, 1, none⟩ = some (.slice A4 zs.length cap4)) := by
      intro w' h
      have p := (bE.below h bE.lt)
      have q := (xE.below h xE.lt)
      exact ⟨h, by simpa using p.cell 0, by simpa using p.cell 1, by simpa using q.cell 0, by simpa using q.cell 1⟩
    have K := Lib.hid keep
    have HZE := Lib.hid hzE
    have HIE := Lib.hid hiE
    have HBE := Lib.hid hbE
    clear keep hzE hiE hbE bE xE bD hbD hbC bC hzC hbB bA hbA hb0 hb1 hb2 hb3 hb4 hb5 hz hz0 hi2 hi4 hzA hN4
    go_wp2_with fail
    have hS0 := K.out w5.drew ((Below.refl _ _).drew)
    go_region_held3 (fun w' => Hid (Below w5.heap.size w5 w') ∧ w'.cell? ⟨w.heap.size, 0, none⟩ = some (.int .i64 m) ∧ w'.cell? ⟨w.heap.size, 1, none⟩ = some (.slice A zs.length cap) ∧ w'.cell? ⟨N4, 0, none⟩ = some (.int .i64 m) ∧ w'.cell? ⟨N4, 1, none⟩ = some (.slice A4 zs.length cap4)) (first | assumption | skip)
      (first
        | (go_at_call 33; refine (toMatrix_any _ _ _ _ _ ((HZE.out.below hS0.1.out).more hS0.1.out.size) (by omega)).mono ?_; rintro e w6 ⟨_, rfl, ⟨A6, cap6, rfl, hc6, hi6⟩, hb6⟩; have hS1 := K.out _ (below_on hS0.1.out hb6))
        | (go_at_call 34; refine (eqMatrix_eq _ _ _ _ _ _ _ ((HIE.out.below hS1.1.out).more hS1.1.out.size) hi6).mono ?_; rintro e w7 ⟨rfl, hb7⟩; have hS2 := K.out _ (below_on hS1.1.out hb7)))
    go_wp2_with fail
    go_ret
    exact ⟨rfl, below_on HBE.out hS2.1.out⟩
  · go_enter Try.func7, Try.ntmps7
    go_wp2_with fail
    refine (szMatrix_no _ _ _ _ _ _ (by omega) (by omega) (by omega) hl).mono ?_
    rintro e w1 ⟨rfl, hb1⟩
    go_wp2_with fail
    go_ret
    exact ⟨rfl, below_on hb0 hb1⟩

end Go.Proofs.Ytdomejgngmbcdaa
