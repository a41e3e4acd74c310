/- Small things on rows of the call's own. No condition. -/
import Derived.Test.YtdfnlaclggjckaaMarkB
namespace Go.Proofs.Ytdfnlaclggjckaa
open Go.RowKit
set_option maxHeartbeats 400000
set_option linter.unusedVariables false

theorem own_ne {x : Value} {r : Option Nat} (h : ∀ j, x.ownBlock = some j → ¬ r = some j) : x.ownBlock = none ∨ x.ownBlock ≠ r := by
  rcases hx : x.ownBlock with _ | j
  · exact Or.inl rfl
  · exact Or.inr (fun e => h j hx e.symm)
theorem own_ne_none (x : Value) : x.ownBlock = none ∨ x.ownBlock ≠ none := by
  rcases hx : x.ownBlock with _ | j
  · exact Or.inl rfl
  · exact Or.inr (by simp)
/-- What is appended to a row that was only just made touches nothing that was there. -/
theorem grow_new {w w' : World} {o : Obj} {n c : Nat} (h : (w.alloc o).grownBy w' (Value.slice (some ⟨w.heap.size, 0, none⟩) n c).ownBlock) : w.grownBy w' none :=
  ⟨h.os, h.tape, h.output, Nat.le_trans (by simp) h.size, fun k hk _ => (h.block k (by simp; omega) (by intro e; simp [Value.ownBlock] at e; omega)).trans (Below.heap_alloc w o k hk)⟩
theorem below_of_grown {w w' : World} (h : w.grownBy w' none) : Below w.heap.size w w' := ⟨h.os, h.tape, h.output, h.size, fun k hk => h.block k hk (by simp)⟩
theorem four_set {w : World} {g : Nat} {t : TypeId} {u0 u1 u2 u3 : Value} (h : Blk w g t #[u0, u1, u2, u3]) (v0 v1 v2 v3 : Value) : Blk ((((w.setCell ⟨g, 0, none⟩ v0).setCell ⟨g, 1, none⟩ v1).setCell ⟨g, 2, none⟩ v2).setCell ⟨g, 3, none⟩ v3) g t #[v0, v1, v2, v3] := (((h.set_ 0 v0).set_ 1 v1).set_ 2 v2).set_ 3 v3
theorem four_grow (w : World) (g : Nat) (v0 v1 v2 v3 : Value) : w.grownBy ((((w.setCell ⟨g, 0, none⟩ v0).setCell ⟨g, 1, none⟩ v1).setCell ⟨g, 2, none⟩ v2).setCell ⟨g, 3, none⟩ v3) (some g) := grow_trans (grow_trans (grow_trans (grow_set _ g _ _) (grow_set _ g _ _)) (grow_set _ g _ _)) (grow_set _ g _ _)
end Go.Proofs.Ytdfnlaclggjckaa
