/- The unit square, and squares turned: each the plain function of its numbers, in new memory; nothing that was there changes. -/
import Derived.Test.YtocjjclegpbobaaSq3
import Derived.Deep.LoopGhost
namespace Go.Proofs.Ytocjjclegpbobaa
open Go.RowKit
set_option maxHeartbeats 1000000
set_option linter.unusedVariables false
theorem getD_set (cs : List Int) (j q : Nat) (v : Int) (hj : j < cs.length) : (cs.set j v).getD q 0 = if q = j then v else cs.getD q 0 := by
  rw [List.getD_eq_getElem?_getD, List.getElem?_set]
  by_cases h : j = q
  · subst h; simp [hj]
  · rw [if_neg h, if_neg (fun e => h e.symm), List.getD_eq_getElem?_getD]
theorem eq_of_getD {xs ys : List Int} (hl : xs.length = ys.length) (h : ∀ q, q < xs.length → xs.getD q 0 = ys.getD q 0) : xs = ys := by
  apply List.ext_getElem hl
  intro q h1 h2
  have := h q h1
  rwa [List.getD_eq_getElem?_getD, List.getElem?_eq_getElem h1, List.getD_eq_getElem?_getD, List.getElem?_eq_getElem h2] at this
theorem unitL_at {n q : Nat} (hq : q < n * n) : (unitL n).getD q 0 = if q / n = q % n then 0 else 1000000 := by
  unfold unitL; rw [ofF_getD _ hq]; rfl
theorem grown_dr {w w' : World} {r : Option Nat} (h : w.grownBy w' r) (m : Nat) : w.grownBy (w'.drewN m) r := ⟨h.os, h.tape, h.output, h.size, h.block⟩

end Go.Proofs.Ytocjjclegpbobaa
