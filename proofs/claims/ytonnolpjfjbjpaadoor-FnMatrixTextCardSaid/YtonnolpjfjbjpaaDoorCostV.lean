/- Contracts of the small cost functions: what is a cost, sums of two, lists of costs: each returns the plain function of its arguments; nothing turns. No condition but that the slices can be read. -/
import Derived.Test.YtonnolpjfjbjpaaDoorRows
import Derived.Test.YtonnolpjfjbjpaaDoorPlain
import Derived.WalkKit
import Derived.Lib.Hide
import Derived.Handy
import Derived.BigQuiet
import Derived.Deep.QuietTactic
namespace Go.Proofs.YtonnolpjfjbjpaaDoor
open Go.RowKit
set_option maxHeartbeats 400000

theorem valid_t (c : Int) (w : World) (hv : vld c = true) :
    Calls Tryd.prog 48 #[.int .i64 c] w fun e w' => e = .returned (.bool true) ∧ w = w' := by
  have := vld_t hv
  obtain ⟨h1, h2⟩ := this
  clear hv
  go_enter Tryd.func48, Tryd.ntmps48
  go_wp2
  go_ret
  exact ⟨rfl, rfl⟩
theorem valid_f (c : Int) (w : World) (hv : vld c = false) :
    Calls Tryd.prog 48 #[.int .i64 c] w fun e w' => e = .returned (.bool false) ∧ w = w' := by
  have := vld_f hv
  clear hv
  by_cases h0 : c < 0
  · clear this
    go_enter Tryd.func48, Tryd.ntmps48
    go_wp2
    go_ret
    exact ⟨rfl, rfl⟩
  · have h1 : 1000000 < c := by omega
    clear this
    go_enter Tryd.func48, Tryd.ntmps48
    go_wp2
    go_ret
    exact ⟨ret_bool (by simp; omega), rfl⟩
theorem plus_any (a b : Int) (w : World) (ha : 0 ≤ a) (ha' : a ≤ 1000000) (hb : 0 ≤ b) (hb' : b ≤ 1000000) :
    Calls Tryd.prog 52 #[.int .i64 a, .int .i64 b] w fun e w' => e = .returned (.int .i64 (min (a + b) 1000000)) ∧ w = w' := by
  go_enter Tryd.func52, Tryd.ntmps52
  go_wp2
  all_goals
    go_ret
    exact ⟨ret_int (by omega), rfl⟩
theorem l1In_any (n low high : Int) (w : World) :
    Calls Tryd.prog 26 #[.int .i64 n, .int .i64 low, .int .i64 high] w fun e w' => e = .returned (.bool (decide (low ≤ n ∧ n ≤ high))) ∧ w = w' := by
  by_cases h1 : low ≤ n
  · by_cases h2 : n ≤ high
    · go_enter Tryd.func26, Tryd.ntmps26
      go_wp2
      go_ret
      exact ⟨ret_bool (by simp; omega), rfl⟩
    · go_enter Tryd.func26, Tryd.ntmps26
      go_wp2
      go_ret
      exact ⟨ret_bool (by simp; omega), rfl⟩
  · go_enter Tryd.func26, Tryd.ntmps26
    go_wp2
    go_ret
    exact ⟨ret_bool (by simp; omega), rfl⟩
theorem sValid_any (c : Int) (w : World) :
    Calls Tryd.prog 46 #[.int .i64 c] w fun e w' => e = .returned (.bool (vld c)) ∧ w = w' := by
  go_enter Tryd.func46, Tryd.ntmps46
  go_wp2_with (go_at_call 26; refine (l1In_any _ _ _ _).mono ?_; rintro e w' ⟨rfl, rfl⟩)
  go_ret
  exact ⟨ret_bool (by simp [vld]), rfl⟩
theorem sValid_t (c : Int) (w : World) (hv : vld c = true) :
    Calls Tryd.prog 46 #[.int .i64 c] w fun e w' => e = .returned (.bool true) ∧ w = w' := by rw [← hv]; exact sValid_any c w
theorem sValid_f (c : Int) (w : World) (hv : vld c = false) :
    Calls Tryd.prog 46 #[.int .i64 c] w fun e w' => e = .returned (.bool false) ∧ w = w' := by rw [← hv]; exact sValid_any c w
theorem cValid_t (c : Int) (w : World) (hv : vld c = true) :
    Calls Tryd.prog 25 #[.int .i64 c] w fun e w' => e = .returned (.bool true) ∧ w = w' := by
  have hv := Lib.hid hv
  go_enter Tryd.func25, Tryd.ntmps25
  go_wp2_with (go_at_call 48; refine (valid_t _ _ hv.out).mono ?_; rintro e w' ⟨rfl, rfl⟩)
  go_ret
  exact ⟨rfl, rfl⟩
theorem cValid_f (c : Int) (w : World) (hv : vld c = false) :
    Calls Tryd.prog 25 #[.int .i64 c] w fun e w' => e = .returned (.bool false) ∧ w = w' := by
  have hv := Lib.hid hv
  go_enter Tryd.func25, Tryd.ntmps25
  go_wp2_with (go_at_call 48; refine (valid_f _ _ hv.out).mono ?_; rintro e w' ⟨rfl, rfl⟩)
  go_ret
  exact ⟨rfl, rfl⟩
theorem l1All_any (A : Option Addr) (cap B : Nat) (zs : List Int) (w : World) (hz : Ints w B A zs) :
    Calls Tryd.prog 27 #[.slice A zs.length cap] w fun e w' => e = .returned (.bool (allV zs)) ∧ w = w' := by
  have hl := hz.len
  go_enter Tryd.func27, Tryd.ntmps27
  go_wp2
  go_loop [7] (fun i => ∃ k : Nat, k ≤ zs.length ∧ i = .int .i64 k ∧ allV zs = allV (zs.drop k)) (fun i => zs.length - (intOf i).toNat)
  case atStart => exact ⟨0, Nat.zero_le _, rfl, rfl⟩
  case round =>
    obtain ⟨k, hk, rfl, hr⟩ := hrel
    have HR := Lib.hid hr
    clear hr
    by_cases hlt : k < zs.length
    · obtain ⟨b, off, z, rfl, _, hc, hd, _⟩ := hz.at_ hlt
      have HD := Lib.hid hd
      clear hd
      rcases vld_cases z with hv | hv
      · have HV := Lib.hid hv
        clear hv
        go_wp2_with (go_at_call 46; refine (sValid_t _ _ HV.out).mono ?_; rintro e w' ⟨rfl, rfl⟩)
        go_round
        case rel => exact ⟨k + 1, by omega, by go_num, by rw [HR.out, HD.out, allV_t HV.out]⟩
        case measure => simp [intOf]; omega
      · have HV := Lib.hid hv
        clear hv
        go_wp2_with (go_at_call 46; refine (sValid_f _ _ HV.out).mono ?_; rintro e w' ⟨rfl, rfl⟩)
        go_ret
        exact ⟨ret_bool (by rw [HR.out, HD.out, allV_f HV.out]), rfl⟩
    · go_wp2
      go_ret
      exact ⟨ret_bool (by rw [HR.out, List.drop_of_length_le (by omega)]; rfl), rfl⟩
theorem allV_at {zs : List Int} (h : allV zs = true) {k : Nat} {z : Int} (hd : zs.drop k = z :: zs.drop (k + 1)) : vld z = true := by
  have hm : z ∈ zs := List.mem_of_mem_drop (i := k) (by rw [hd]; simp)
  exact List.all_eq_true.1 h z hm
theorem l1All_is (A : Option Addr) (cap B : Nat) (zs : List Int) (r : Bool) (hr : allV zs = r) (w : World) (hz : Ints w B A zs) :
    Calls Tryd.prog 27 #[.slice A zs.length cap] w fun e w' => e = .returned (.bool r) ∧ w = w' := by
  rw [← hr]; exact l1All_any A cap B zs w hz

end Go.Proofs.YtonnolpjfjbjpaaDoor
