/- The walks of the exact laws of the cost functions over lists: each returns true for all arguments, and nothing that was there changes. -/
import Derived.Test.YtgnphlegbbplcaaCosts2
import Derived.Test.YtgnphlegbbplcaaCopy
namespace Go.Proofs.Ytgnphlegbbplcaa
open Go.RowKit
set_option maxHeartbeats 400000
set_option linter.unusedVariables false

theorem eqIntS_same (A A' : Option Addr) (cap cap' B B' : Nat) (zs : List Int) (w : World) (hz : Ints w B A zs) (hy : Ints w B' A' zs) :
    Calls Try.prog 30 #[.slice A zs.length cap, .slice A' zs.length cap'] w fun e w' => e = .returned (.bool true) ∧ ∃ m, w' = w.drewN m :=
  (eqIntS_any A A' cap cap' B B' zs zs w hz hy).mono fun e w' ⟨he, hw⟩ => ⟨by rw [he, decide_eq_true rfl], hw⟩
theorem below_drewN {B : Nat} {a w : World} (h : Below B a w) (m : Nat) : Below B a (w.drewN m) := ⟨h.os, h.tape, h.output, h.size, h.block⟩

theorem FnExactSumCosts_walk (A : Option Addr) (cap : Nat) (zs : List Int) (w : World) (hz : IRow .i64 w w.heap.size A zs) :
    Calls Try.prog 10 #[.slice A zs.length cap] w fun e w' => e = .returned (.bool true) ∧ Below w.heap.size w w' := by
  have hl := hz.len
  by_cases hs : 1048576 < zs.length
  · have hs' : (1048576 : Int) < (zs.length : Int) := by omega
    go_enter Try.func10, Try.ntmps10
    go_wp2_with fail
    go_ret
    exact ⟨rfl, Below.refl _ _⟩
  · have hs' : ¬ (1048576 : Int) < (zs.length : Int) := by omega
    go_enter Try.func10, Try.ntmps10
    go_wp2_with fail
    refine (toIntS_any _ _ _ _ hz (by omega)).mono ?_
    rintro e w1 ⟨g1, rfl, hb1, hg1, hi1⟩
    go_wp2_with fail
    refine (sSumCosts_any _ _ _ _ _ hi1).mono ?_
    rintro e w1' ⟨rfl, rfl⟩
    have hz1 := (hz.below hb1).more hb1.size
    go_wp2_with fail
    refine (toIntS_any _ _ _ _ hz1 (by omega)).mono ?_
    rintro e w2 ⟨g2, rfl, hb2, hg2, hi2⟩
    go_wp2_with fail
    refine (sumCosts_any _ _ _ _ _ hi2).mono ?_
    rintro e w2' ⟨rfl, rfl⟩
    have hz2 := (hz1.below hb2).more hb2.size
    go_wp2_with fail
    refine (toIntS_any _ _ _ _ hz2 (by omega)).mono ?_
    rintro e w3 ⟨g3, rfl, hb3, hg3, hi3⟩
    go_wp2_with fail
    refine (eqIntS_same _ _ _ _ _ _ _ _ (hi2.below hb3) hi3).mono ?_
    rintro e w4 ⟨rfl, m, rfl⟩
    go_wp2_with fail
    go_ret
    exact ⟨rfl, below_drewN ((hb1.trans (hb2.mono hb1.size)).trans (hb3.mono (Nat.le_trans hb1.size hb2.size))) m⟩

theorem FnExactLeastCost_walk (A : Option Addr) (cap : Nat) (zs : List Int) (w : World) (hz : IRow .i64 w w.heap.size A zs) :
    Calls Try.prog 11 #[.slice A zs.length cap] w fun e w' => e = .returned (.bool true) ∧ Below w.heap.size w w' := by
  have hl := hz.len
  by_cases hs : 1048576 < zs.length
  · have hs' : (1048576 : Int) < (zs.length : Int) := by omega
    go_enter Try.func11, Try.ntmps11
    go_wp2_with fail
    go_ret
    exact ⟨rfl, Below.refl _ _⟩
  · have hs' : ¬ (1048576 : Int) < (zs.length : Int) := by omega
    go_enter Try.func11, Try.ntmps11
    go_wp2_with fail
    refine (toIntS_any _ _ _ _ hz (by omega)).mono ?_
    rintro e w1 ⟨g1, rfl, hb1, hg1, hi1⟩
    go_wp2_with fail
    refine (sLeastCost_any _ _ _ _ _ hi1).mono ?_
    rintro e w1' ⟨rfl, rfl⟩
    have hz1 := (hz.below hb1).more hb1.size
    go_wp2_with fail
    refine (toIntS_any _ _ _ _ hz1 (by omega)).mono ?_
    rintro e w2 ⟨g2, rfl, hb2, hg2, hi2⟩
    go_wp2_with fail
    refine (leastCost_any _ _ _ _ _ hi2).mono ?_
    rintro e w2' ⟨rfl, rfl⟩
    have hz2 := (hz1.below hb2).more hb2.size
    go_wp2_with fail
    refine (toIntS_any _ _ _ _ hz2 (by omega)).mono ?_
    rintro e w3 ⟨g3, rfl, hb3, hg3, hi3⟩
    go_wp2_with fail
    refine (eqIntS_same _ _ _ _ _ _ _ _ (hi2.below hb3) hi3).mono ?_
    rintro e w4 ⟨rfl, m, rfl⟩
    go_wp2_with fail
    go_ret
    exact ⟨rfl, below_drewN ((hb1.trans (hb2.mono hb1.size)).trans (hb3.mono (Nat.le_trans hb1.size hb2.size))) m⟩
end Go.Proofs.Ytgnphlegbbplcaa
