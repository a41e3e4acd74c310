/- How many repeated parts lie within each other: the meaning of nodes in numbers. Nothing that was there changes. No condition. The weight of nodes, each letter as much, so many times for what is repeated: the meaning of nodes in costs. Nothing that was there changes. Conditions: a letter's weight is a cost, the times are no less than 0. -/
import Derived.Test.YthcfdmphephfpaaGreatNodeOf
import Derived.Test.YthcfdmphephfpaaGreatLastOp
import Derived.Shelf.RegionOpen
import Derived.Test.YthcfdmphephfpaaGreatCosts2
namespace Go.Proofs.YthcfdmphephfpaaGreat
open Go.RowKit
set_option maxHeartbeats 4000000
set_option maxRecDepth 100000
set_option linter.unusedVariables false

def depthE : Ex → Int
  | .lit _ => 0
  | .join x y => max (depthE x) (depthE y)
  | .rep x => depthE x + 1
def sizeE : Ex → Nat
  | .lit _ => 1
  | .join x y => sizeE x + sizeE y
  | .rep x => sizeE x + 3
theorem depth_le : ∀ x : Ex, 0 ≤ depthE x ∧ depthE x ≤ (sizeE x : Int)
  | .lit _ => ⟨Int.le_refl _, by simp [depthE, sizeE]⟩
  | .join x y => by
    obtain ⟨a, b⟩ := depth_le x
    obtain ⟨c, d⟩ := depth_le y
    simp only [depthE, sizeE]
    omega
  | .rep x => by
    obtain ⟨a, b⟩ := depth_le x
    simp only [depthE, sizeE]
    omega
theorem taLL (v : Value) (w : World) : (Instr.typeAssert (.iface 88 v) 53 88 true).run Tryz.prog w = .ok (.tuple #[v, .bool true]) w := by kernel_rfl
theorem taJL (v : Value) (w : World) : (Instr.typeAssert (.iface 90 v) 53 88 true).run Tryz.prog w = .ok (.tuple #[.string ⟨#[]⟩, .bool false]) w := by kernel_rfl
theorem taJJ (v : Value) (w : World) : (Instr.typeAssert (.iface 90 v) 53 90 true).run Tryz.prog w = .ok (.tuple #[v, .bool true]) w := by kernel_rfl
theorem taRL (v : Value) (w : World) : (Instr.typeAssert (.iface 92 v) 53 88 true).run Tryz.prog w = .ok (.tuple #[.string ⟨#[]⟩, .bool false]) w := by kernel_rfl
theorem taRJ (v : Value) (w : World) : (Instr.typeAssert (.iface 92 v) 53 90 true).run Tryz.prog w = .ok (.tuple #[.agg #[.nilIface, .nilIface], .bool false]) w := by kernel_rfl
theorem taRR (v : Value) (w : World) : (Instr.typeAssert (.iface 92 v) 53 92 true).run Tryz.prog w = .ok (.tuple #[v, .bool true]) w := by kernel_rfl
end Go.Proofs.YthcfdmphephfpaaGreat
namespace Go.Proofs.YthcfdmphephfpaaGreat
open Go.RowKit
set_option maxHeartbeats 4000000
set_option maxRecDepth 100000
set_option linter.unusedVariables false

def weightE (l n : Int) : Ex → Int
  | .lit _ => l
  | .join x y => min (weightE l n x + weightE l n y) 1000000
  | .rep x => timesF n (weightE l n x)
theorem timesF_vld {n a : Int} (hn : 0 ≤ n) (h0 : 0 ≤ a) (h1 : a ≤ 1000000) : 0 ≤ timesF n a ∧ timesF n a ≤ 1000000 := by
  have hv : vld a = true := vld_yes ⟨h0, h1⟩
  by_cases hz : a = 0
  · rw [timesF_zero hn hv hz]; omega
  · by_cases ho : 1000000 / a < n
    · rw [timesF_over hn hv hz ho]; omega
    · rw [timesF_in hn hv hz ho]
      exact ⟨Int.mul_nonneg hn h0, Int.mul_le_of_le_ediv (by omega) (by omega)⟩
theorem weight_vld {l n : Int} (h0 : 0 ≤ l) (h1 : l ≤ 1000000) (hn : 0 ≤ n) : ∀ x : Ex, 0 ≤ weightE l n x ∧ weightE l n x ≤ 1000000
  | .lit _ => ⟨h0, h1⟩
  | .join x y => by
    have := weight_vld h0 h1 hn x
    have := weight_vld h0 h1 hn y
    simp only [weightE]
    omega
  | .rep x => timesF_vld hn (weight_vld h0 h1 hn x).1 (weight_vld h0 h1 hn x).2
end Go.Proofs.YthcfdmphephfpaaGreat
