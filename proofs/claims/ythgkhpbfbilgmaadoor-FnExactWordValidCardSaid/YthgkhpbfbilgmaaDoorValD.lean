/- What makes a list of states valid, the program's and the model's. Condition: one to four states. -/
import Derived.Test.YthgkhpbfbilgmaaDoorValC
namespace Go.Proofs.YthgkhpbfbilgmaaDoor
open Go.RowKit
set_option maxHeartbeats 1000000
set_option maxRecDepth 100000
set_option linter.unusedVariables false

def marksF (n last : Int) : List Int → Bool
  | [] => true
  | p :: ps => decide (last < p) && (decide (p < n) && marksF n p ps)
theorem marks_go {n last p : Int} (ps : List Int) (h1 : last < p) (h2 : p < n) : marksF n last (p :: ps) = marksF n p ps := by simp [marksF, h1, h2]
theorem marks_lo {n last p : Int} (ps : List Int) (h1 : ¬ last < p) : marksF n last (p :: ps) = false := by simp [marksF, h1]
theorem marks_hi {n last p : Int} (ps : List Int) (h1 : ¬ p < n) : marksF n last (p :: ps) = false := by simp [marksF, h1]
theorem listValid_is (A : Option Addr) (cap B : Nat) (zs : List Int) (n : Int) (r : Bool) (w : World) (hz : Ints w B A zs) (hr : marksF n (-1) zs = r) :
    Calls Tryd.prog 103 #[.slice A zs.length cap, .int .i64 n] w fun e w' => e = .returned (.bool r) ∧ w = w' := by
  have hl := hz.len
  have HR := Lib.hid hr
  clear hr
  go_enter Tryd.func103, Tryd.ntmps103
  go_wp2_with fail
  go_loop [5, 10] (fun l i => ∃ (k : Nat) (last : Int), k ≤ zs.length ∧ i = .int .i64 k ∧ l = .int .i64 last ∧ Hid (r = marksF n last (zs.drop k))) (fun _ i => zs.length - (intOf i).toNat)
  case atStart => exact ⟨0, -1, Nat.zero_le _, rfl, rfl, HR.out.symm⟩
  case round =>
    obtain ⟨k, last, hk, rfl, rfl, hm⟩ := hrel
    by_cases hlt : k < zs.length
    · obtain ⟨b, off, z, rfl, _, hc, hd, _⟩ := hz.at_ hlt
      have HD := Lib.hid hd
      clear hd
      by_cases h1 : last < z
      · have h1' : ¬ z ≤ last := by omega
        by_cases h2 : z < n
        · have h2' : ¬ n ≤ z := by omega
          have HM : Hid (r = marksF n z (zs.drop (k + 1))) := by show _ = _; rw [hm.out, HD.out, marks_go _ h1 h2]
          go_wp2_with fail
          go_round
          case rel => exact ⟨k + 1, z, by omega, by go_num, rfl, HM⟩
          case measure => simp [intOf]; omega
        · have h2' : n ≤ z := by omega
          have HM : Hid (r = false) := by show _ = _; rw [hm.out, HD.out, marks_hi _ h2]
          go_wp2_with fail
          go_ret
          exact ⟨ret_bool HM.out.symm, rfl⟩
      · have h1' : z ≤ last := by omega
        have HM : Hid (r = false) := by show _ = _; rw [hm.out, HD.out, marks_lo _ h1]
        go_wp2_with fail
        go_ret
        exact ⟨ret_bool HM.out.symm, rfl⟩
    · have HM : Hid (r = true) := by show _ = _; rw [hm.out, List.drop_of_length_le (by omega)]; rfl
      go_wp2_with fail
      go_ret
      exact ⟨ret_bool HM.out.symm, rfl⟩

theorem l3Marks_is (A : Option Addr) (cap B : Nat) (zs : List Int) (n : Int) (r : Bool) (w : World) (n1 : 1 ≤ n) (n2 : n ≤ 4) (hz : Ints w B A zs) (hr : marksF n (-1) zs = r) :
    Calls Tryd.prog 85 #[.int .i64 n, .slice A zs.length cap] w fun e w' => e = .returned (.bool r) ∧ w = w' := by
  have hl := hz.len
  have HR := Lib.hid hr
  clear hr
  go_enter Tryd.func85, Tryd.ntmps85
  go_wp2_with fail
  go_loop [9] (fun i => ∃ (k : Nat) (last : Int), k ≤ zs.length ∧ i = .int .i64 k ∧ -1 ≤ last ∧ Hid (k = 0 → last = -1) ∧ Hid (∀ j, k = j + 1 → 0 ≤ last ∧ zs.getD j 0 = last) ∧ Hid (r = marksF n last (zs.drop k))) (fun i => zs.length - (intOf i).toNat)
  case atStart => exact ⟨0, -1, Nat.zero_le _, rfl, by omega, fun _ => rfl, fun j hj => absurd hj (by omega), HR.out.symm⟩
  case round =>
    obtain ⟨k, last, hk, rfl, hl1, hz0, hzj, hm⟩ := hrel
    by_cases hlt : k < zs.length
    · obtain ⟨b, off, z, rfl, _, hc, hd, hg⟩ := hz.at_ hlt
      have HD := Lib.hid hd
      have HG := Lib.hid hg
      clear hd hg
      by_cases h2 : 0 ≤ z ∧ z < n
      · obtain ⟨h20, h21⟩ := h2
        have hin : decide ((0 : Int) ≤ z ∧ z ≤ n - 1) = true := decide_eq_true ⟨h20, by omega⟩
        have HIN := Lib.hid hin
        clear hin
        rcases Nat.eq_zero_or_pos k with hk0 | hk0
        · have hk0' : ¬ (0 : Int) < (k : Int) := by omega
          have HM : Hid (r = marksF n z (zs.drop (k + 1))) := by show _ = _; rw [hm.out, HD.out, marks_go _ (by rw [hz0.out hk0]; omega) h21]
          have HJ : Hid (∀ j, k + 1 = j + 1 → 0 ≤ z ∧ zs.getD j 0 = z) := fun j hj => by
            have e : j = k := by omega
            subst e; exact ⟨h20, HG.out⟩
          clear hk0
          go_wp2_with fail
          refine (l1In_is _ _ _ true _ HIN.out).mono ?_
          rintro e w' ⟨rfl, rfl⟩
          go_wp2_with fail
          go_round
          case rel => exact ⟨k + 1, z, by omega, by go_num, by omega, fun h => absurd h (by omega), HJ, HM⟩
          case measure => simp [intOf]; omega
        · obtain ⟨j, rfl⟩ : ∃ j, k = j + 1 := ⟨k - 1, by omega⟩
          obtain ⟨b', off', z', hbe, _, hc', _, hg'⟩ := hz.at_ (k := j) (by omega)
          cases hbe
          obtain ⟨hl0, hje⟩ := hzj.out j rfl
          have ez : z' = last := hg'.symm.trans hje
          subst ez
          have hk0' : (0 : Int) < ((j + 1 : Nat) : Int) := by omega
          have hj1 : ((j + 1 : Nat) : Int) - 1 = (j : Int) := by omega
          have hj2 : (0 : Int) ≤ (j : Int) := by omega
          have hj3 : (j : Int) < (zs.length : Int) := by omega
          clear hg' hje hzj hz0
          by_cases h1 : z' < z
          · have h1' : ¬ z ≤ z' := by omega
            have HM : Hid (r = marksF n z (zs.drop (j + 1 + 1))) := by show _ = _; rw [hm.out, HD.out, marks_go _ h1 h21]
            have HJ : Hid (∀ i, j + 1 + 1 = i + 1 → 0 ≤ z ∧ zs.getD i 0 = z) := fun i hi => by
              have e : i = j + 1 := by omega
              subst e; exact ⟨h20, HG.out⟩
            go_wp2_with fail
            refine (l1In_is _ _ _ true _ HIN.out).mono ?_
            rintro e w' ⟨rfl, rfl⟩
            go_wp2_with fail
            go_round
            case rel => exact ⟨j + 1 + 1, z, by omega, by go_num, by omega, fun h => absurd h (by omega), HJ, HM⟩
            case measure => simp [intOf]; omega
          · have h1' : z ≤ z' := by omega
            have HM : Hid (r = false) := by show _ = _; rw [hm.out, HD.out, marks_lo _ h1]
            go_wp2_with fail
            refine (l1In_is _ _ _ true _ HIN.out).mono ?_
            rintro e w' ⟨rfl, rfl⟩
            go_wp2_with fail
            go_ret
            exact ⟨ret_bool HM.out.symm, rfl⟩
      · have hin : decide ((0 : Int) ≤ z ∧ z ≤ n - 1) = false := decide_eq_false (fun h => h2 ⟨h.1, by omega⟩)
        have HIN := Lib.hid hin
        have HM : Hid (r = false) := by
          show _ = _
          rw [hm.out, HD.out]
          by_cases h21 : z < n
          · exact marks_lo _ (by omega)
          · exact marks_hi _ h21
        clear hin h2 hzj hz0
        go_wp2_with fail
        refine (l1In_is _ _ _ false _ HIN.out).mono ?_
        rintro e w' ⟨rfl, rfl⟩
        go_wp2_with fail
        go_ret
        exact ⟨ret_bool HM.out.symm, rfl⟩
    · have HM : Hid (r = true) := by show _ = _; rw [hm.out, List.drop_of_length_le (by omega)]; rfl
      go_wp2_with fail
      go_ret
      exact ⟨ret_bool HM.out.symm, rfl⟩
end Go.Proofs.YthgkhpbfbilgmaaDoor
