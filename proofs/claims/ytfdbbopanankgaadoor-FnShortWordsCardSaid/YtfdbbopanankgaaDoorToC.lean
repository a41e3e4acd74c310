/- A copy of an automaton in rows of its own, as the exact laws make it. No condition but the sizes. -/
import Derived.Test.YtfdbbopanankgaaDoorToB
import Derived.Test.YtfdbbopanankgaaDoorCopyM
import Derived.Test.YtfdbbopanankgaaDoorVar
namespace Go.Proofs.YtfdbbopanankgaaDoor
open Go.RowKit
set_option maxHeartbeats 2000000
set_option maxRecDepth 100000
set_option linter.unusedVariables false

theorem own_set_g {w : World} {base n k : Nat} {t t' : TypeId} {x : Value} {xs : List Value} {cs : Array Value} (ho : w.ownsRow base t 1 x n xs) (hk : Blk w k t' cs) (hne : t ≠ t') (i : Nat) (v : Value) : (w.setCell ⟨k, i, none⟩ v).ownsRow base t 1 x n xs := by
  refine ho.kept (grow_set w k i v) ?_
  have := own_other ho hk hne
  rcases h0 : x.ownBlock with _ | j
  · exact Or.inl rfl
  · right; intro he; exact this (by rw [h0]; exact he.symm)
/-- An automaton that a call has copied, with rows of its own. -/
def CopB (m : Int) (xs ys : List Int) (ss : List StepD) (w : World) (e : Ending) (w' : World) : Prop :=
  ∃ g1 g2 g3, e = .returned (.agg #[.int .i64 m, .slice (some ⟨g1, 0, none⟩) xs.length xs.length, .slice (some ⟨g2, 0, none⟩) ys.length ys.length, .slice (some ⟨g3, 0, none⟩) ss.length ss.length]) ∧
    w.heap.size ≤ g1 ∧ g1 < g2 ∧ g2 < g3 ∧ Hid (w'.ownsRow w.heap.size 3 1 (.slice (some ⟨g1, 0, none⟩) xs.length xs.length) xs.length (xs.map (Value.int .i64))) ∧ Hid (w'.ownsRow w.heap.size 3 1 (.slice (some ⟨g2, 0, none⟩) ys.length ys.length) ys.length (ys.map (Value.int .i64))) ∧ Hid (SBlk w' g3 75 ss) ∧ Hid (Below w.heap.size w w')
end Go.Proofs.YtfdbbopanankgaaDoor
