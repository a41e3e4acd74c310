/- The reading of a cost's text: readCost returns the number, or panics; ParseCost returns the number and true, or 0 and false; nothing that was there changes. No condition. -/
import Derived.Test.YtmdddjiegjcekaaDoorCostA
import Derived.Test.YtmdddjiegjcekaaDoorDigits
import Derived.WalkLawsBesides
import Derived.Defers
import Derived.Recover
import Derived.Laws.RangeAny
namespace Go.Proofs.YtmdddjiegjcekaaDoor
open Go.RowKit
set_option maxHeartbeats 400000
set_option linter.unusedVariables false

/-- How readCost ends. -/
def ReadEnd (r : Option Int) (w : World) (e : Ending) (w' : World) : Prop :=
  Below w.heap.size w w' ∧ ((∃ v, r = some v ∧ e = .returned (.int .i64 v)) ∨ (r = none ∧ ∃ v, e = .panicked [{ v := .iface 9 v, recovered := false }]))

theorem below_iter {B : Nat} {w : World} (hB : B ≤ w.heap.size) (s : ByteArray) (k : Nat) : Below B w (w.iter s k) := (Below.refl _ _).alloc hB _

theorem ReadEnd.bad {r : Option Int} {w w' : World} {v : Value} (h : r = none) (hb : Below w.heap.size w w') : ReadEnd r w (.panicked [{ v := .iface 9 v, recovered := false }]) w' := ⟨hb, .inr ⟨h, _, rfl⟩⟩
theorem ReadEnd.good {r : Option Int} {w w' : World} {v : Int} (h : r = some v) (hb : Below w.heap.size w w') : ReadEnd r w (.returned (.int .i64 v)) w' := ⟨hb, .inl ⟨_, h, rfl⟩⟩

/-! The deferred closure, and ParseCost. -/
end Go.Proofs.YtmdddjiegjcekaaDoor
