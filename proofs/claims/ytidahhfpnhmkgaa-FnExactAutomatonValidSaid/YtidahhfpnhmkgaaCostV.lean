/- Contracts of the small cost functions: what is a cost, sums of two, lists of costs: each returns the plain function of its arguments; nothing turns. No condition but that the slices can be read. -/
import Derived.Test.YtidahhfpnhmkgaaRows
import Derived.Test.YtidahhfpnhmkgaaPlain
import Derived.WalkKit
import Derived.Lib.Hide
import Derived.Handy
import Derived.BigQuiet
import Derived.Deep.QuietTactic
namespace Go.Proofs.Ytidahhfpnhmkgaa
open Go.RowKit
set_option maxHeartbeats 400000

theorem valid_t (c : Int) (w : World) (hv : vld c = true) :
    Calls Try.prog 93 #[.int .i64 c] w fun e w' => e = .returned (.bool true) ∧ w = w' := by
  have := vld_t hv
  obtain ⟨h1, h2⟩ := this
  clear hv
  go_enter Try.func93, Try.ntmps93
  go_wp2
  go_ret
  exact ⟨rfl, rfl⟩
theorem valid_f (c : Int) (w : World) (hv : vld c = false) :
    Calls Try.prog 93 #[.int .i64 c] w fun e w' => e = .returned (.bool false) ∧ w = w' := by
  have := vld_f hv
  clear hv
  by_cases h0 : c < 0
  · clear this
    go_enter Try.func93, Try.ntmps93
    go_wp2
    go_ret
    exact ⟨rfl, rfl⟩
  · have h1 : 1000000 < c := by omega
    clear this
    go_enter Try.func93, Try.ntmps93
    go_wp2
    go_ret
    exact ⟨ret_bool (by simp; omega), rfl⟩
theorem plus_any (a b : Int) (w : World) (ha : 0 ≤ a) (ha' : a ≤ 1000000) (hb : 0 ≤ b) (hb' : b ≤ 1000000) :
    Calls Try.prog 100 #[.int .i64 a, .int .i64 b] w fun e w' => e = .returned (.int .i64 (min (a + b) 1000000)) ∧ w = w' := by
  go_enter Try.func100, Try.ntmps100
  go_wp2
  all_goals
    go_ret
    exact ⟨ret_int (by omega), rfl⟩
theorem l1In_any (n low high : Int) (w : World) :
    Calls Try.prog 73 #[.int .i64 n, .int .i64 low, .int .i64 high] w fun e w' => e = .returned (.bool (decide (low ≤ n ∧ n ≤ high))) ∧ w = w' := by
  by_cases h1 : low ≤ n
  · by_cases h2 : n ≤ high
    · go_enter Try.func73, Try.ntmps73
      go_wp2
      go_ret
      exact ⟨ret_bool (by simp; omega), rfl⟩
    · go_enter Try.func73, Try.ntmps73
      go_wp2
      go_ret
      exact ⟨ret_bool (by simp; omega), rfl⟩
  · go_enter Try.func73, Try.ntmps73
    go_wp2
    go_ret
    exact ⟨ret_bool (by simp; omega), rfl⟩
theorem cValid_t (c : Int) (w : World) (hv : vld c = true) :
    Calls Try.prog 55 #[.int .i64 c] w fun e w' => e = .returned (.bool true) ∧ w = w' := by
  have hv := Lib.hid hv
  go_enter Try.func55, Try.ntmps55
  go_wp2_with (go_at_call 93; refine (valid_t _ _ hv.out).mono ?_; rintro e w' ⟨rfl, rfl⟩)
  go_ret
  exact ⟨rfl, rfl⟩
theorem cValid_f (c : Int) (w : World) (hv : vld c = false) :
    Calls Try.prog 55 #[.int .i64 c] w fun e w' => e = .returned (.bool false) ∧ w = w' := by
  have hv := Lib.hid hv
  go_enter Try.func55, Try.ntmps55
  go_wp2_with (go_at_call 93; refine (valid_f _ _ hv.out).mono ?_; rintro e w' ⟨rfl, rfl⟩)
  go_ret
  exact ⟨rfl, rfl⟩
theorem allV_at {zs : List Int} (h : allV zs = true) {k : Nat} {z : Int} (hd : zs.drop k = z :: zs.drop (k + 1)) : vld z = true := by
  have hm : z ∈ zs := List.mem_of_mem_drop (i := k) (by rw [hd]; simp)
  exact List.all_eq_true.1 h z hm
end Go.Proofs.Ytidahhfpnhmkgaa
