/- Contracts of the cost functions of the program and of its model: each returns the plain function of its arguments; where it makes memory, nothing that was there changes. No condition but that the slices can be read. Contracts of the exported cost functions and of their models: each returns the plain function of its arguments; nothing that was there changes. No condition but that the slices can be read. -/
import Derived.Test.YtdhpcpmjdffgmaaDoorRows
import Derived.Test.YtdhpcpmjdffgmaaDoorCostA
import Derived.WalkKit
import Derived.Lib.Hide
import Derived.Handy
import Derived.BigQuiet
import Derived.Deep.QuietTactic
namespace Go.Proofs.YtdhpcpmjdffgmaaDoor
open Go.RowKit
set_option maxHeartbeats 400000

end Go.Proofs.YtdhpcpmjdffgmaaDoor
namespace Go.Proofs.YtdhpcpmjdffgmaaDoor
open Go.RowKit
set_option maxHeartbeats 400000

theorem two_ints (a b : Int) (w : World) : Ints (w.alloc (.cells #[.int .i64 a, .int .i64 b] 3)) (w.heap.size + 1) (some ⟨w.heap.size, 0, none⟩) [a, b] :=
  ⟨by simp [maxLen], fun _ => ⟨w.heap.size, 0, rfl, by omega, fun k hk => by
    have hk2 : k = 0 ∨ k = 1 := by simp at hk; omega
    rcases hk2 with rfl | rfl <;> simp [go_sem]⟩⟩

/-! Times. -/
theorem times_in {n a : Int} (ha : 0 < a) (hn : 0 ≤ n) (h : n ≤ 1000000 / a) : 0 ≤ n * a ∧ n * a ≤ 1000000 :=
  ⟨Int.mul_nonneg hn (by omega), Int.mul_le_of_le_ediv ha h⟩
theorem timesF_no {n a : Int} (h : n < 0 ∨ vld a = false) : timesF n a = -1 := by unfold timesF; rw [if_pos h]
theorem timesF_zero {n a : Int} (hn : 0 ≤ n) (hv : vld a = true) (h : a = 0) : timesF n a = 0 := by unfold timesF; rw [if_neg (by rw [hv]; simp; omega), if_pos h]
theorem timesF_over {n a : Int} (hn : 0 ≤ n) (hv : vld a = true) (h : ¬ a = 0) (ho : 1000000 / a < n) : timesF n a = 1000000 := by unfold timesF; rw [if_neg (by rw [hv]; simp; omega), if_neg h, if_pos ho]
theorem timesF_in {n a : Int} (hn : 0 ≤ n) (hv : vld a = true) (h : ¬ a = 0) (ho : ¬ 1000000 / a < n) : timesF n a = n * a := by unfold timesF; rw [if_neg (by rw [hv]; simp; omega), if_neg h, if_neg ho]

theorem cTimes_any (n a : Int) (w : World) (hn : 0 ≤ n) (hv : vld a = true) :
    Calls Tryd.prog 47 #[.int .i64 a, .int .i64 n] w fun e w' => e = .returned (.int .i64 (timesF n a)) ∧ w = w' := by
  obtain ⟨a0, a1⟩ := vld_t hv
  by_cases hz : a = 0
  · have HF := Lib.hid (timesF_zero hn hv hz)
    subst hz
    clear hv
    go_enter Tryd.func47, Tryd.ntmps47
    go_wp2
    go_ret
    exact ⟨ret_int (by rw [HF.out]), rfl⟩
  · have hp : 1 ≤ a := by omega
    by_cases ho : 1000000 / a < n
    · have HF := Lib.hid (timesF_over hn hv hz ho)
      clear hv
      go_enter Tryd.func47, Tryd.ntmps47
      go_wp2
      go_ret
      exact ⟨ret_int (by rw [HF.out]), rfl⟩
    · have HF := Lib.hid (timesF_in hn hv hz ho)
      obtain ⟨t0, t1⟩ := times_in (n := n) (a := a) (by omega) hn (by omega)
      clear hv
      go_enter Tryd.func47, Tryd.ntmps47
      go_wp2
      go_ret
      exact ⟨ret_int (by rw [HF.out]), rfl⟩

end Go.Proofs.YtdhpcpmjdffgmaaDoor
