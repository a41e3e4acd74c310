/- Contracts of the cost functions of the program and of its model: each returns the plain function of its arguments; where it makes memory, nothing that was there changes. No condition but that the slices can be read. -/
import Derived.Test.YtgnphlegbbplcaaDoorRows
import Derived.Test.YtgnphlegbbplcaaDoorPlain
import Derived.WalkKit
import Derived.Lib.Hide
import Derived.Handy
import Derived.BigQuiet
import Derived.Deep.QuietTactic
namespace Go.Proofs.YtgnphlegbbplcaaDoor
open Go.RowKit
set_option maxHeartbeats 400000

theorem valid_t (c : Int) (w : World) (hv : vld c = true) :
    Calls Tryd.prog 43 #[.int .i64 c] w fun e w' => e = .returned (.bool true) ∧ w = w' := by
  have := vld_t hv
  obtain ⟨h1, h2⟩ := this
  clear hv
  go_enter Tryd.func43, Tryd.ntmps43
  go_wp2
  go_ret
  exact ⟨rfl, rfl⟩
theorem valid_f (c : Int) (w : World) (hv : vld c = false) :
    Calls Tryd.prog 43 #[.int .i64 c] w fun e w' => e = .returned (.bool false) ∧ w = w' := by
  have := vld_f hv
  clear hv
  by_cases h0 : c < 0
  · clear this
    go_enter Tryd.func43, Tryd.ntmps43
    go_wp2
    go_ret
    exact ⟨rfl, rfl⟩
  · have h1 : 1000000 < c := by omega
    clear this
    go_enter Tryd.func43, Tryd.ntmps43
    go_wp2
    go_ret
    exact ⟨ret_bool (by simp; omega), rfl⟩

theorem plus_any (a b : Int) (w : World) (ha : 0 ≤ a) (ha' : a ≤ 1000000) (hb : 0 ≤ b) (hb' : b ≤ 1000000) :
    Calls Tryd.prog 44 #[.int .i64 a, .int .i64 b] w fun e w' => e = .returned (.int .i64 (min (a + b) 1000000)) ∧ w = w' := by
  go_enter Tryd.func44, Tryd.ntmps44
  go_wp2
  all_goals
    go_ret
    exact ⟨ret_int (by omega), rfl⟩

theorem l1In_any (n low high : Int) (w : World) :
    Calls Tryd.prog 36 #[.int .i64 n, .int .i64 low, .int .i64 high] w fun e w' => e = .returned (.bool (decide (low ≤ n ∧ n ≤ high))) ∧ w = w' := by
  by_cases h1 : low ≤ n
  · by_cases h2 : n ≤ high
    · go_enter Tryd.func36, Tryd.ntmps36
      go_wp2
      go_ret
      exact ⟨ret_bool (by simp; omega), rfl⟩
    · go_enter Tryd.func36, Tryd.ntmps36
      go_wp2
      go_ret
      exact ⟨ret_bool (by simp; omega), rfl⟩
  · go_enter Tryd.func36, Tryd.ntmps36
    go_wp2
    go_ret
    exact ⟨ret_bool (by simp; omega), rfl⟩

theorem sValid_any (c : Int) (w : World) :
    Calls Tryd.prog 27 #[.int .i64 c] w fun e w' => e = .returned (.bool (vld c)) ∧ w = w' := by
  go_enter Tryd.func27, Tryd.ntmps27
  go_wp2_with (go_at_call 36; refine (l1In_any _ _ _ _).mono ?_; rintro e w' ⟨rfl, rfl⟩)
  go_ret
  exact ⟨ret_bool (by simp [vld]), rfl⟩
theorem sValid_t (c : Int) (w : World) (hv : vld c = true) :
    Calls Tryd.prog 27 #[.int .i64 c] w fun e w' => e = .returned (.bool true) ∧ w = w' := by rw [← hv]; exact sValid_any c w
theorem sValid_f (c : Int) (w : World) (hv : vld c = false) :
    Calls Tryd.prog 27 #[.int .i64 c] w fun e w' => e = .returned (.bool false) ∧ w = w' := by rw [← hv]; exact sValid_any c w
theorem sumOf_any (A : Option Addr) (cap B : Nat) (zs : List Int) (w : World) (hz : Ints w B A zs) :
    Calls Tryd.prog 28 #[.slice A zs.length cap] w fun e w' => e = .returned (.int .i64 (sumF 0 zs)) ∧ w = w' := by
  have hl := hz.len
  go_enter Tryd.func28, Tryd.ntmps28
  go_wp2
  go_loop [3, 9] (fun s i => ∃ (k : Nat) (acc : Int), k ≤ zs.length ∧ i = .int .i64 k ∧ s = .int .i64 acc ∧ 0 ≤ acc ∧ acc ≤ 1000000 ∧ sumF 0 zs = sumF acc (zs.drop k)) (fun _ i => zs.length - (intOf i).toNat)
  case atStart => exact ⟨0, 0, Nat.zero_le _, rfl, rfl, by omega, by omega, rfl⟩
  case round =>
    obtain ⟨k, acc, hk, rfl, rfl, h0, h1, hr⟩ := hrel
    have HR := Lib.hid hr
    clear hr
    by_cases hlt : k < zs.length
    · obtain ⟨b, off, z, rfl, _, hc, hd, _⟩ := hz.at_ hlt
      have HD := Lib.hid hd
      clear hd
      rcases vld_cases z with hv | hv
      · have hvb := vld_t hv
        obtain ⟨v0, v1⟩ := hvb
        have HV := Lib.hid hv
        clear hv
        go_wp2_with (first | (go_at_call 43; refine (valid_t _ _ HV.out).mono ?_; rintro e w' ⟨rfl, rfl⟩) | (go_at_call 44; refine (plus_any _ _ _ h0 h1 v0 v1).mono ?_; rintro e w' ⟨rfl, rfl⟩))
        go_round
        case rel => exact ⟨k + 1, min (acc + z) 1000000, by omega, by go_num, rfl, by omega, by omega, by rw [HR.out, HD.out, sumF_t HV.out]⟩
        case measure => simp [intOf]; omega
      · have HV := Lib.hid hv
        clear hv
        go_wp2_with (go_at_call 43; refine (valid_f _ _ HV.out).mono ?_; rintro e w' ⟨rfl, rfl⟩)
        go_ret
        exact ⟨ret_int (by rw [HR.out, HD.out, sumF_f HV.out]), rfl⟩
    · go_wp2
      go_ret
      exact ⟨ret_int (by rw [HR.out, List.drop_of_length_le (by omega)]; rfl), rfl⟩

theorem sumCosts_any (A : Option Addr) (cap B : Nat) (zs : List Int) (w : World) (hz : Ints w B A zs) :
    Calls Tryd.prog 10 #[.slice A zs.length cap] w fun e w' => e = .returned (.int .i64 (sumF 0 zs)) ∧ w = w' := by
  go_enter Tryd.func10, Tryd.ntmps10
  go_wp2_with (go_at_call 28; refine (sumOf_any _ _ _ _ _ hz).mono ?_; rintro e w' ⟨rfl, rfl⟩)
  go_ret
  exact ⟨rfl, rfl⟩
end Go.Proofs.YtgnphlegbbplcaaDoor
