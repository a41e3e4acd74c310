/- Contracts of the exported cost functions and of their models: each returns the plain function of its arguments; nothing that was there changes. No condition but that the slices can be read. -/
import Derived.Test.YtefjeccnkfmgeaaCosts
namespace Go.Proofs.Ytefjeccnkfmgeaa
open Go.RowKit
set_option maxHeartbeats 400000

theorem two_ints (a b : Int) (w : World) : Ints (w.alloc (.cells #[.int .i64 a, .int .i64 b] 3)) (w.heap.size + 1) (some ⟨w.heap.size, 0, none⟩) [a, b] :=
  ⟨by simp [maxLen], fun _ => ⟨w.heap.size, 0, rfl, by omega, fun k hk => by
    have hk2 : k = 0 ∨ k = 1 := by simp at hk; omega
    rcases hk2 with rfl | rfl <;> simp [go_sem]⟩⟩

/-! Times. -/
theorem times_in {n a : Int} (ha : 0 < a) (hn : 0 ≤ n) (h : n ≤ 1000000 / a) : 0 ≤ n * a ∧ n * a ≤ 1000000 :=
  ⟨Int.mul_nonneg hn (by omega), Int.mul_le_of_le_ediv ha h⟩
theorem timesF_no {n a : Int} (h : n < 0 ∨ vld a = false) : timesF n a = -1 := by unfold timesF; rw [if_pos h]
theorem timesF_zero {n a : Int} (hn : 0 ≤ n) (hv : vld a = true) (h : a = 0) : timesF n a = 0 := by unfold timesF; rw [if_neg (by rw [hv]; simp; omega), if_pos h]
theorem timesF_over {n a : Int} (hn : 0 ≤ n) (hv : vld a = true) (h : ¬ a = 0) (ho : 1000000 / a < n) : timesF n a = 1000000 := by unfold timesF; rw [if_neg (by rw [hv]; simp; omega), if_neg h, if_pos ho]
theorem timesF_in {n a : Int} (hn : 0 ≤ n) (hv : vld a = true) (h : ¬ a = 0) (ho : ¬ 1000000 / a < n) : timesF n a = n * a := by unfold timesF; rw [if_neg (by rw [hv]; simp; omega), if_neg h, if_neg ho]

theorem times_any (n a : Int) (w : World) (hn : 0 ≤ n) (hv : vld a = true) :
    Calls Try.prog 39 #[.int .i64 a, .int .i64 n] w fun e w' => e = .returned (.int .i64 (timesF n a)) ∧ w = w' := by
  obtain ⟨a0, a1⟩ := vld_t hv
  by_cases hz : a = 0
  · have HF := Lib.hid (timesF_zero hn hv hz)
    subst hz
    clear hv
    go_enter Try.func39, Try.ntmps39
    go_wp2
    go_ret
    exact ⟨ret_int (by rw [HF.out]), rfl⟩
  · have hp : 1 ≤ a := by omega
    by_cases ho : 1000000 / a < n
    · have HF := Lib.hid (timesF_over hn hv hz ho)
      clear hv
      go_enter Try.func39, Try.ntmps39
      go_wp2
      go_ret
      exact ⟨ret_int (by rw [HF.out]), rfl⟩
    · have HF := Lib.hid (timesF_in hn hv hz ho)
      obtain ⟨t0, t1⟩ := times_in (n := n) (a := a) (by omega) hn (by omega)
      clear hv
      go_enter Try.func39, Try.ntmps39
      go_wp2
      go_ret
      exact ⟨ret_int (by rw [HF.out]), rfl⟩

theorem sTimesCost_any (n a : Int) (w : World) :
    Calls Try.prog 35 #[.int .i64 n, .int .i64 a] w fun e w' => e = .returned (.int .i64 (timesF n a)) ∧ w = w' := by
  by_cases hn : n < 0
  · have HF := Lib.hid (timesF_no (a := a) (Or.inl hn))
    go_enter Try.func35, Try.ntmps35
    go_wp2_with fail
    go_ret
    exact ⟨ret_int (by rw [HF.out]), rfl⟩
  · rcases vld_cases a with hv | hv
    · obtain ⟨a0, a1⟩ := vld_t hv
      by_cases hz : a = 0
      · have HF := Lib.hid (timesF_zero (n := n) (by omega) hv hz)
        have HV := Lib.hid hv
        subst hz
        clear hv
        go_enter Try.func35, Try.ntmps35
        go_wp2_with (go_at_call 41; refine (sValid_t _ _ HV.out).mono ?_; rintro e w' ⟨rfl, rfl⟩)
        all_goals
          go_ret
          exact ⟨ret_int (by rw [HF.out]), rfl⟩
      · have hp : 1 ≤ a := by omega
        have hzb : (a == 0) = false := by simpa using hz
        by_cases ho : 1000000 / a < n
        · have HF := Lib.hid (timesF_over (by omega) hv hz ho)
          have HV := Lib.hid hv
          clear hv
          have hnb : (n == 0) = false := by
            have : 0 ≤ 1000000 / a := Int.ediv_nonneg (by omega) (by omega)
            rw [beq_eq_false_iff_ne]; omega
          go_enter Try.func35, Try.ntmps35
          go_wp2_with (go_at_call 41; refine (sValid_t _ _ HV.out).mono ?_; rintro e w' ⟨rfl, rfl⟩)
          all_goals
            go_ret
            exact ⟨ret_int (by rw [HF.out]), rfl⟩
        · have HF := Lib.hid (timesF_in (by omega) hv hz ho)
          have HV := Lib.hid hv
          clear hv
          obtain ⟨t0, t1⟩ := times_in (n := n) (a := a) (by omega) (by omega) (by omega)
          by_cases hn0 : n = 0
          · have H0 := Lib.hid hn0
            have hnb : (n == 0) = true := by simpa using hn0
            clear hn0
            go_enter Try.func35, Try.ntmps35
            go_wp2_with (go_at_call 41; refine (sValid_t _ _ HV.out).mono ?_; rintro e w' ⟨rfl, rfl⟩)
            all_goals
              go_ret
              exact ⟨ret_int (by rw [HF.out, H0.out]; simp), rfl⟩
          · have hnb : (n == 0) = false := by simpa using hn0
            go_enter Try.func35, Try.ntmps35
            go_wp2_with (go_at_call 41; refine (sValid_t _ _ HV.out).mono ?_; rintro e w' ⟨rfl, rfl⟩)
            all_goals
              go_ret
              exact ⟨ret_int (by rw [HF.out]), rfl⟩
    · have HF := Lib.hid (timesF_no (n := n) (Or.inr hv))
      have HV := Lib.hid hv
      clear hv
      go_enter Try.func35, Try.ntmps35
      go_wp2_with (go_at_call 41; refine (sValid_f _ _ HV.out).mono ?_; rintro e w' ⟨rfl, rfl⟩)
      go_ret
      exact ⟨ret_int (by rw [HF.out]), rfl⟩

end Go.Proofs.Ytefjeccnkfmgeaa
