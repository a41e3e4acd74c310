/- Contracts of the small cost functions: what is a cost, sums of two, lists of costs: each returns the plain function of its arguments; nothing turns. No condition but that the slices can be read. -/
import Derived.Test.YtjhaegkefagngaaGreatDoorRows
import Derived.Test.YtjhaegkefagngaaGreatDoorPlain
import Derived.WalkKit
import Derived.Lib.Hide
import Derived.Handy
import Derived.BigQuiet
import Derived.Deep.QuietTactic
namespace Go.Proofs.YtjhaegkefagngaaGreatDoor
open Go.RowKit
set_option maxHeartbeats 400000

theorem valid_t (c : Int) (w : World) (hv : vld c = true) :
    Calls Tryz.prog 88 #[.int .i64 c] w fun e w' => e = .returned (.bool true) ∧ w = w' := by
  have := vld_t hv
  obtain ⟨h1, h2⟩ := this
  clear hv
  go_enter Tryz.func88, Tryz.ntmps88
  go_wp2
  go_ret
  exact ⟨rfl, rfl⟩
theorem valid_f (c : Int) (w : World) (hv : vld c = false) :
    Calls Tryz.prog 88 #[.int .i64 c] w fun e w' => e = .returned (.bool false) ∧ w = w' := by
  have := vld_f hv
  clear hv
  by_cases h0 : c < 0
  · clear this
    go_enter Tryz.func88, Tryz.ntmps88
    go_wp2
    go_ret
    exact ⟨rfl, rfl⟩
  · have h1 : 1000000 < c := by omega
    clear this
    go_enter Tryz.func88, Tryz.ntmps88
    go_wp2
    go_ret
    exact ⟨ret_bool (by simp; omega), rfl⟩
theorem plus_any (a b : Int) (w : World) (ha : 0 ≤ a) (ha' : a ≤ 1000000) (hb : 0 ≤ b) (hb' : b ≤ 1000000) :
    Calls Tryz.prog 65 #[.int .i64 a, .int .i64 b] w fun e w' => e = .returned (.int .i64 (min (a + b) 1000000)) ∧ w = w' := by
  go_enter Tryz.func65, Tryz.ntmps65
  go_wp2
  all_goals
    go_ret
    exact ⟨ret_int (by omega), rfl⟩
theorem l1In_any (n low high : Int) (w : World) :
    Calls Tryz.prog 82 #[.int .i64 n, .int .i64 low, .int .i64 high] w fun e w' => e = .returned (.bool (decide (low ≤ n ∧ n ≤ high))) ∧ w = w' := by
  by_cases h1 : low ≤ n
  · by_cases h2 : n ≤ high
    · go_enter Tryz.func82, Tryz.ntmps82
      go_wp2
      go_ret
      exact ⟨ret_bool (by simp; omega), rfl⟩
    · go_enter Tryz.func82, Tryz.ntmps82
      go_wp2
      go_ret
      exact ⟨ret_bool (by simp; omega), rfl⟩
  · go_enter Tryz.func82, Tryz.ntmps82
    go_wp2
    go_ret
    exact ⟨ret_bool (by simp; omega), rfl⟩
theorem cValid_t (c : Int) (w : World) (hv : vld c = true) :
    Calls Tryz.prog 64 #[.int .i64 c] w fun e w' => e = .returned (.bool true) ∧ w = w' := by
  have hv := Lib.hid hv
  go_enter Tryz.func64, Tryz.ntmps64
  go_wp2_with (go_at_call 88; refine (valid_t _ _ hv.out).mono ?_; rintro e w' ⟨rfl, rfl⟩)
  go_ret
  exact ⟨rfl, rfl⟩
theorem cValid_f (c : Int) (w : World) (hv : vld c = false) :
    Calls Tryz.prog 64 #[.int .i64 c] w fun e w' => e = .returned (.bool false) ∧ w = w' := by
  have hv := Lib.hid hv
  go_enter Tryz.func64, Tryz.ntmps64
  go_wp2_with (go_at_call 88; refine (valid_f _ _ hv.out).mono ?_; rintro e w' ⟨rfl, rfl⟩)
  go_ret
  exact ⟨rfl, rfl⟩
theorem l1Add_any (a b : Int) (w : World) (ha : 0 ≤ a) (ha' : a ≤ 1000000) (hb : 0 ≤ b) (hb' : b ≤ 1000000) :
    Calls Tryz.prog 86 #[.int .i64 a, .int .i64 b] w fun e w' => e = .returned (.int .i64 (min (a + b) 1000000)) ∧ w = w' := by
  go_enter Tryz.func86, Tryz.ntmps86
  go_wp2
  all_goals
    go_ret
    exact ⟨ret_int (by omega), rfl⟩
theorem allV_at {zs : List Int} (h : allV zs = true) {k : Nat} {z : Int} (hd : zs.drop k = z :: zs.drop (k + 1)) : vld z = true := by
  have hm : z ∈ zs := List.mem_of_mem_drop (i := k) (by rw [hd]; simp)
  exact List.all_eq_true.1 h z hm
end Go.Proofs.YtjhaegkefagngaaGreatDoor
