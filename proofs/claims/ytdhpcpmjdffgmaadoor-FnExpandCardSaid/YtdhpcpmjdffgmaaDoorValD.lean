/- What makes steps and lists of states valid: the plain functions, and the program's and the model's. Conditions: as each says. What makes one step valid, the program's and the model's. No condition. What makes one step valid, as the model has it, and which of two valid steps comes first. Conditions: one to four states; the letters are a or b. What makes a list of states valid, the program's and the model's. Condition: one to four states. -/
import Derived.Test.YtdhpcpmjdffgmaaDoorEqA
import Derived.Deep.RegionHeld3
import Derived.Deep.DeepCutAuto
namespace Go.Proofs.YtdhpcpmjdffgmaaDoor
open Go.RowKit
set_option maxHeartbeats 1000000
set_option maxRecDepth 100000
set_option linter.unusedVariables false

theorem three_ints (w : World) (a b c : Int) (t : TypeId) : Ints (w.alloc (.cells #[.int .i64 a, .int .i64 b, .int .i64 c] t)) (w.heap.size + 1) (some ⟨w.heap.size, 0, none⟩) [a, b, c] :=
  ⟨by simp [maxLen], fun _ => ⟨w.heap.size, 0, rfl, by omega, fun k hk => by
    have hk3 : k = 0 ∨ k = 1 ∨ k = 2 := by simp at hk; omega
    rw [Nat.zero_add, (Blk.new w t _).cell k]
    rcases hk3 with rfl | rfl | rfl <;> rfl⟩⟩
/-- The order of two steps as the program tells it. -/
def cmpS (s t : StepD) : Int := orF [cmpI s.fr t.fr, Lib.compareBytes s.le.data.toList t.le.data.toList, cmpI s.to_ t.to_]
end Go.Proofs.YtdhpcpmjdffgmaaDoor
namespace Go.Proofs.YtdhpcpmjdffgmaaDoor
open Go.RowKit
set_option maxHeartbeats 1000000
set_option maxRecDepth 100000
set_option linter.unusedVariables false

def letOk (le : ByteArray) : Bool := (le.toList == [97]) || (le.toList == [98])
def stepOk (n : Int) (s : StepD) : Bool := decide (0 ≤ s.fr ∧ s.fr < n) && (decide (0 ≤ s.to_ ∧ s.to_ < n) && (letOk s.le && decide (0 ≤ s.co ∧ s.co ≤ 3)))
end Go.Proofs.YtdhpcpmjdffgmaaDoor
namespace Go.Proofs.YtdhpcpmjdffgmaaDoor
open Go.RowKit
set_option maxHeartbeats 1000000
set_option maxRecDepth 100000
set_option linter.unusedVariables false

theorem below_dec (x n : Int) : decide (0 ≤ x ∧ x ≤ n - 1) = decide (0 ≤ x ∧ x < n) := by
  apply decide_eq_decide.2
  omega
/-- A letter. -/
def IsL (le : ByteArray) : Prop := le = ⟨#[97]⟩ ∨ le = ⟨#[98]⟩
theorem isL_of {le : ByteArray} (h : letOk le = true) : IsL le := by
  unfold letOk at h
  rw [ByteArray.toList_eq] at h
  rw [Bool.or_eq_true] at h
  rcases h with h | h
  · left; apply Go.WideShapes.bytes_inj; exact eq_of_beq h
  · right; apply Go.WideShapes.bytes_inj; exact eq_of_beq h
/-- Which of two steps comes first. -/
def befS (s t : StepD) : Bool := decide (cmpS s t < 0)
end Go.Proofs.YtdhpcpmjdffgmaaDoor
namespace Go.Proofs.YtdhpcpmjdffgmaaDoor
open Go.RowKit
set_option maxHeartbeats 1000000
set_option maxRecDepth 100000
set_option linter.unusedVariables false

def marksF (n last : Int) : List Int → Bool
  | [] => true
  | p :: ps => decide (last < p) && (decide (p < n) && marksF n p ps)
theorem marks_go {n last p : Int} (ps : List Int) (h1 : last < p) (h2 : p < n) : marksF n last (p :: ps) = marksF n p ps := by simp [marksF, h1, h2]
theorem marks_lo {n last p : Int} (ps : List Int) (h1 : ¬ last < p) : marksF n last (p :: ps) = false := by simp [marksF, h1]
theorem marks_hi {n last p : Int} (ps : List Int) (h1 : ¬ p < n) : marksF n last (p :: ps) = false := by simp [marksF, h1]
end Go.Proofs.YtdhpcpmjdffgmaaDoor
