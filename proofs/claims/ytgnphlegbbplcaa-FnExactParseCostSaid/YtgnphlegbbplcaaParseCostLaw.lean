/- The walk of the exact law of ParseCost: it returns true for all texts, and nothing that was there changes. -/
import Derived.Test.YtgnphlegbbplcaaParseCost
namespace Go.Proofs.Ytgnphlegbbplcaa
open Go.RowKit
set_option maxHeartbeats 400000
set_option linter.unusedVariables false

theorem FnExactParseCost_walk (s : ByteArray) (hm : s.size ≤ maxLen) (w : World) :
    Calls Try.prog 12 #[.string s] w fun e w' => e = .returned (.bool true) ∧ Below w.heap.size w w' := by
  have hs : s.size ≤ 9223372036854775807 := by unfold maxLen at hm; exact hm
  clear hm
  by_cases hb : (1048576 : Int) < (s.size : Int)
  · go_enter Try.func12, Try.ntmps12
    go_wp2_with fail
    go_ret
    exact ⟨rfl, Below.refl _ _⟩
  · rcases hr : readF s.data.toList with _ | v
    · have HR := Lib.hid hr
      clear hr
      go_enter Try.func12, Try.ntmps12
      go_wp2_with (first | (go_at_call 31; refine (sParse_bad _ _ hs HR.out).mono ?_; rintro e w' ⟨rfl, rfl⟩) | (go_at_call 32; refine (parse_bad _ _ hs HR.out).mono ?_; rintro e w' ⟨rfl, hb1⟩))
      go_ret
      exact ⟨rfl, hb1⟩
    · have HR := Lib.hid hr
      clear hr
      go_enter Try.func12, Try.ntmps12
      go_wp2_with (first | (go_at_call 31; refine (sParse_good _ _ hs _ HR.out).mono ?_; rintro e w' ⟨rfl, rfl⟩) | (go_at_call 32; refine (parse_good _ _ hs _ HR.out).mono ?_; rintro e w' ⟨rfl, hb1⟩))
      go_ret
      exact ⟨rfl, hb1⟩

end Go.Proofs.Ytgnphlegbbplcaa
