/- MinMatrix, as the program has it: the plain function of its numbers, in new memory; nothing that was there changes. -/
import Derived.Test.YtaiplhddbmhodaaFace
namespace Go.Proofs.Ytaiplhddbmhodaa
open Go.RowKit
set_option maxHeartbeats 1000000
set_option maxRecDepth 100000
set_option linter.unusedVariables false

theorem twoOk_t {m m' : Int} {zs ys : List Int} (h : twoOk m zs m' ys = true) : ∃ n : Nat, m = (n : Int) ∧ m' = (n : Int) ∧ MV n zs ∧ MV n ys := by
  simp only [twoOk, Bool.and_eq_true, decide_eq_true_eq] at h
  obtain ⟨h1, h2, h3⟩ := h
  obtain ⟨n, rfl, mv⟩ := matOk_t h1
  subst h3
  obtain ⟨n', e, mv'⟩ := matOk_t h2
  have : n = n' := by omega
  subst this
  exact ⟨n, rfl, rfl, mv, mv'⟩

end Go.Proofs.Ytaiplhddbmhodaa
