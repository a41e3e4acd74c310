/- The walks of the exact laws of MatrixValid and SameMatrix: each returns true for all arguments; nothing that was there changes. No condition. The walk of the exact law of SameMatrix: it returns true for all arguments; nothing that was there changes. No condition. The laws' comparing functions for any two lists and any two matrices. No condition. -/
import Derived.Test.YtjhaegkefagngaaGreatDoorMats
import Derived.Deep.RegionHeld3
import Derived.Deep.RegionWith
import Derived.Test.YtjhaegkefagngaaGreatDoorMatAt
namespace Go.Proofs.YtjhaegkefagngaaGreatDoor
open Go.RowKit
set_option maxHeartbeats 1000000
set_option linter.unusedVariables false

end Go.Proofs.YtjhaegkefagngaaGreatDoor
namespace Go.Proofs.YtjhaegkefagngaaGreatDoor
open Go.RowKit
set_option maxHeartbeats 1000000
set_option maxRecDepth 100000
set_option linter.unusedVariables false

end Go.Proofs.YtjhaegkefagngaaGreatDoor
namespace Go.Proofs.YtjhaegkefagngaaGreatDoor
open Go.RowKit
set_option maxHeartbeats 1000000
set_option maxRecDepth 100000
set_option linter.unusedVariables false

theorem daSameB_any (A A' : Option Addr) (cap cap' B B' : Nat) (zs ys : List Int) (w : World) (hz : Ints w B A zs) (hy : Ints w B' A' ys) :
    Calls Tryz.prog 12 #[.slice A zs.length cap, .slice A' ys.length cap'] w fun e w' => e = .returned (.bool (decide (zs = ys))) ∧ ∃ m, w' = w.drewN m := by
  have hl := hz.len
  have hl' := hy.len
  by_cases hle : ys.length < zs.length
  · have hd : decide (zs = ys) = false := decide_eq_false fun h => by rw [h] at hle; omega
    have hlb : (((zs.length : Int)) == (ys.length : Int)) = false := by rw [beq_eq_false_iff_ne]; omega
    have HD := Lib.hid hd
    clear hd
    go_enter Tryz.func12, Tryz.ntmps12
    go_wp2
    go_loopw [11] (fun i wr => ∃ (k m : Nat), k ≤ ys.length ∧ i = .int .i64 k ∧ wr = w.drewN m) (fun i _ => ys.length - (intOf i).toNat)
    case atStart => exact ⟨0, 0, Nat.zero_le _, rfl, rfl⟩
    case round =>
      obtain ⟨k, m, hk, rfl, rfl⟩ := hrel
      by_cases hlt' : k < ys.length
      · have hlt : k < zs.length := by omega
        obtain ⟨b, off, z, rfl, hbB, hc, hd, hg⟩ := hz.at_ hlt
        obtain ⟨b', off', y, rfl, hbB', hc', hd', hg'⟩ := hy.at_ hlt'
        clear hd hg hd' hg'
        have hi0 : (0 : Int) ≤ (k : Int) := by omega
        have hi1 : (k : Int) < (zs.length : Int) := by omega
        have hi2 : (k : Int) < (ys.length : Int) := by omega
        rcases Bool.eq_false_or_eq_true (z != y) with hbb | hbb
        · go_wp2
          go_quiet (fail)
          go_wp2
          go_ret
          exact ⟨ret_bool HD.out.symm, _, World.drewN_drewN _ _ _⟩
        · go_wp2
          go_quiet (fail)
          go_wp2
          go_roundw
          case rel => exact ⟨k + 1, _, by omega, by go_num, rfl⟩
          case measure => simp [intOf]; omega
      · go_wp2
        go_ret
        exact ⟨ret_bool HD.out.symm, m, rfl⟩
  · go_enter Tryz.func12, Tryz.ntmps12
    go_wp2
    go_loopw [11] (fun i wr => ∃ (k m : Nat), k ≤ zs.length ∧ i = .int .i64 k ∧ zs.take k = ys.take k ∧ wr = w.drewN m) (fun i _ => zs.length - (intOf i).toNat)
    case atStart => exact ⟨0, 0, Nat.zero_le _, rfl, rfl, rfl⟩
    case round =>
      obtain ⟨k, m, hk, rfl, ht, rfl⟩ := hrel
      have HT := Lib.hid ht
      clear ht
      by_cases hlt : k < zs.length
      · have hlt' : k < ys.length := by omega
        obtain ⟨b, off, z, rfl, hbB, hc, hd, hg⟩ := hz.at_ hlt
        obtain ⟨b', off', y, rfl, hbB', hc', hd', hg'⟩ := hy.at_ hlt'
        have ez : zs[k] = z := by rw [List.getD_eq_getElem?_getD, List.getElem?_eq_getElem hlt] at hg; exact hg
        have ey : ys[k] = y := by rw [List.getD_eq_getElem?_getD, List.getElem?_eq_getElem hlt'] at hg'; exact hg'
        have EZ := Lib.hid ez
        have EY := Lib.hid ey
        clear hd hg hd' hg' ez ey
        have hi0 : (0 : Int) ≤ (k : Int) := by omega
        have hi1 : (k : Int) < (zs.length : Int) := by omega
        have hi2 : (k : Int) < (ys.length : Int) := by omega
        by_cases hzy : z = y
        · have HZY := Lib.hid hzy
          have hbb : (z != y) = false := by simpa using hzy
          clear hzy
          go_wp2
          go_quiet (fail)
          go_wp2
          go_roundw
          case rel => exact ⟨k + 1, _, by omega, by go_num, by rw [List.take_succ_eq_append_getElem hlt, List.take_succ_eq_append_getElem hlt', HT.out, EZ.out, EY.out, HZY.out], rfl⟩
          case measure => simp [intOf]; omega
        · have HZY := Lib.hid hzy
          have hbb : (z != y) = true := by simpa using hzy
          clear hzy
          go_wp2
          go_quiet (fail)
          go_wp2
          go_ret
          refine ⟨ret_bool ?_, _, World.drewN_drewN _ _ _⟩
          symm
          rw [decide_eq_false_iff_not]
          intro he
          subst he
          exact HZY.out (EZ.out.symm.trans EY.out)
      · rcases Bool.eq_false_or_eq_true (((zs.length : Int)) == (ys.length : Int)) with hlb | hlb
        · have hE : zs = ys := by
            have h1 := HT.out
            have h2 := beq_iff_eq.1 hlb
            rwa [List.take_of_length_le (by omega), List.take_of_length_le (by omega)] at h1
          have HE := Lib.hid hE
          clear hE
          go_wp2
          go_ret
          exact ⟨ret_bool (by rw [decide_eq_true HE.out]), m, rfl⟩
        · have hE : ¬ zs = ys := fun h => by rw [h] at hlb; simp at hlb
          have HE := Lib.hid hE
          clear hE
          go_wp2
          go_ret
          exact ⟨ret_bool (by rw [decide_eq_false HE.out]), m, rfl⟩

theorem daM_any (m m' : Int) (A A' : Option Addr) (cap cap' : Nat) (zs ys : List Int) (r : Bool) (w : World) (hz : Ints w w.heap.size A zs) (hy : Ints w w.heap.size A' ys) (hr : (decide (m = m') && decide (zs = ys)) = r) :
    Calls Tryz.prog 8 #[.agg #[.int .i64 m, .slice A zs.length cap], .agg #[.int .i64 m', .slice A' ys.length cap']] w fun e w' => e = .returned (.bool r) ∧ Below w.heap.size w w' := by
  have HR := Lib.hid hr
  clear hr
  by_cases hm : m = m'
  · subst hm
    have hb : (m == m) = true := by simp
    go_enter Tryz.func8, Tryz.ntmps8
    go_wp2_with fail
    refine (daSameB_any _ _ _ _ _ _ _ _ _ (ints_al (ints_al hz _) _) (ints_al (ints_al hy _) _)).mono ?_
    rintro e w1 ⟨rfl, n, rfl⟩
    obtain ⟨d, hd⟩ : ∃ d, d = decide (zs = ys) := ⟨_, rfl⟩
    have hR : r = d := by rw [← HR.out, hd]; simp
    rw [← hd]
    clear hd
    go_wp2_with fail
    go_ret
    exact ⟨ret_bool hR.symm, below_dr (below_a2 _ _ _) n⟩
  · have hR : r = false := by rw [← HR.out, decide_eq_false hm]; rfl
    have hb : (m == m') = false := by rw [beq_eq_false_iff_ne]; exact hm
    clear hm
    go_enter Tryz.func8, Tryz.ntmps8
    go_wp2_with fail
    go_ret
    exact ⟨ret_bool hR.symm, below_a2 _ _ _⟩
end Go.Proofs.YtjhaegkefagngaaGreatDoor
