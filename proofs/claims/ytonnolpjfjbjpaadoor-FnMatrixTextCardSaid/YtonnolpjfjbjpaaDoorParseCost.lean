/- The model's ParseCost, and the walk of the exact law of ParseCost: it returns true for all texts, and nothing that was there changes. -/
import Derived.Test.YtonnolpjfjbjpaaDoorNum
import Derived.Test.YtonnolpjfjbjpaaDoorRead
import Derived.Test.YtonnolpjfjbjpaaDoorCostA
namespace Go.Proofs.YtonnolpjfjbjpaaDoor
open Go.RowKit
set_option maxHeartbeats 400000
set_option linter.unusedVariables false

theorem l1In_t (n low high : Int) (w : World) (h : low ≤ n ∧ n ≤ high) : Calls Tryd.prog 26 #[.int .i64 n, .int .i64 low, .int .i64 high] w fun e w' => e = .returned (.bool true) ∧ w = w' := by
  have := l1In_any n low high w; rwa [decide_eq_true h] at this
theorem l1In_f (n low high : Int) (w : World) (h : ¬ (low ≤ n ∧ n ≤ high)) : Calls Tryd.prog 26 #[.int .i64 n, .int .i64 low, .int .i64 high] w fun e w' => e = .returned (.bool false) ∧ w = w' := by
  have := l1In_any n low high w; rwa [decide_eq_false h] at this
theorem num_none (s : ByteArray) (w : World) (hs : s.size ≤ 9223372036854775807) (h : numF s.data.toList = none) :
    Calls Tryd.prog 64 #[.string s] w fun e w' => e = .returned (.tuple #[.int .i64 0, .bool false]) ∧ w = w' := by
  have := num_any s w hs; rw [h] at this; exact this
theorem num_some (s : ByteArray) (w : World) (hs : s.size ≤ 9223372036854775807) (n : Int) (h : numF s.data.toList = some n) :
    Calls Tryd.prog 64 #[.string s] w fun e w' => e = .returned (.tuple #[.int .i64 n, .bool true]) ∧ w = w' := by
  have := num_any s w hs; rw [h] at this; exact this

theorem sParse_any (s : ByteArray) (w : World) (hs : s.size ≤ 9223372036854775807) :
    Calls Tryd.prog 50 #[.string s] w fun e w' => NumEnd (readF s.data.toList) e ∧ w = w' := by
  rw [← sread_eq]
  by_cases h1 : s.data.toList = [45]
  · have k1 : (s.toList == [45]) = true := by rw [ByteArray.toList_eq, h1]; rfl
    have HE : Hid (sreadF s.data.toList = some 1000000) := by show _ = _; unfold sreadF; rw [if_pos h1]
    have HN : Hid (numF s.data.toList = none) := by show _ = _; rw [h1]; decide
    clear h1
    go_enter Tryd.func50, Tryd.ntmps50
    go_wp2_with (go_at_call 64; refine (num_none _ _ hs HN.out).mono ?_; rintro e w' ⟨rfl, rfl⟩)
    go_ret2
    exact ⟨NumEnd.good HE.out, rfl⟩
  · have k1 : (s.toList == [45]) = false := by rw [ByteArray.toList_eq, beq_eq_false_iff_ne]; exact h1
    have HB : Hid (sreadF s.data.toList = (numF s.data.toList).bind fun n => if 0 ≤ n ∧ n ≤ 999999 then some n else none) := by show _ = _; unfold sreadF; rw [if_neg h1]
    clear h1
    rcases hn : numF s.data.toList with _ | n
    · have HN := Lib.hid hn
      have HE : Hid (sreadF s.data.toList = none) := by show _ = _; rw [HB.out, hn]; rfl
      clear hn
      go_enter Tryd.func50, Tryd.ntmps50
      go_wp2_with (go_at_call 64; refine (num_none _ _ hs HN.out).mono ?_; rintro e w' ⟨rfl, rfl⟩)
      go_ret2
      exact ⟨NumEnd.bad HE.out, rfl⟩
    · have HN := Lib.hid hn
      by_cases hr : 0 ≤ n ∧ n ≤ 999999
      · have HE : Hid (sreadF s.data.toList = some n) := by show _ = _; rw [HB.out, hn, Option.bind_some, if_pos hr]
        have HR := Lib.hid hr
        clear hn hr
        go_enter Tryd.func50, Tryd.ntmps50
        go_wp2_with (first | (go_at_call 64; refine (num_some _ _ hs _ HN.out).mono ?_; rintro e w' ⟨rfl, rfl⟩) | (go_at_call 26; refine (l1In_t _ _ _ _ HR.out).mono ?_; rintro e w' ⟨rfl, rfl⟩))
        go_ret2
        exact ⟨NumEnd.good HE.out, rfl⟩
      · have HE : Hid (sreadF s.data.toList = none) := by show _ = _; rw [HB.out, hn, Option.bind_some, if_neg hr]
        have HR := Lib.hid hr
        clear hn hr
        go_enter Tryd.func50, Tryd.ntmps50
        go_wp2_with (first | (go_at_call 64; refine (num_some _ _ hs _ HN.out).mono ?_; rintro e w' ⟨rfl, rfl⟩) | (go_at_call 26; refine (l1In_f _ _ _ _ HR.out).mono ?_; rintro e w' ⟨rfl, rfl⟩))
        go_ret2
        exact ⟨NumEnd.bad HE.out, rfl⟩

theorem sParse_good (s : ByteArray) (w : World) (hs : s.size ≤ 9223372036854775807) (v : Int) (h : readF s.data.toList = some v) :
    Calls Tryd.prog 50 #[.string s] w fun e w' => e = .returned (.tuple #[.int .i64 v, .bool true]) ∧ w = w' := by
  have := sParse_any s w hs; rw [h] at this; exact this
theorem sParse_bad (s : ByteArray) (w : World) (hs : s.size ≤ 9223372036854775807) (h : readF s.data.toList = none) :
    Calls Tryd.prog 50 #[.string s] w fun e w' => e = .returned (.tuple #[.int .i64 0, .bool false]) ∧ w = w' := by
  have := sParse_any s w hs; rw [h] at this; exact this

end Go.Proofs.YtonnolpjfjbjpaaDoor
