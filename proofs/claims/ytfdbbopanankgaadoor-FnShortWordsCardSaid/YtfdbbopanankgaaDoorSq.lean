/- Sq. The methods of squares of costs: a matrix of one, what a row becomes, products, lesser ones, turned ones: each the plain function of its numbers, in new memory; nothing that was there changes. Lesser squares, turned ones, units: each the plain function of its numbers, in new memory; nothing that was there changes. The unit square, and squares turned: each the plain function of its numbers, in new memory; nothing that was there changes. Squares turned: the plain function of their numbers, in new memory; nothing that was there changes. -/
import Derived.Test.YtfdbbopanankgaaDoorMats
import Derived.Laws.EntriesVeiled
import Derived.IntWalk
import Derived.Deep.OwnRows
import Derived.Deep.RegionHeld3
import Derived.Laws.CopyOwn
import Derived.Deep.LoopGhost
namespace Go.Proofs.YtfdbbopanankgaaDoor
open Go.RowKit
set_option maxHeartbeats 1000000
set_option linter.unusedVariables false
theorem w64_nat {p : Nat} (h : p < 9223372036854775808) : wrap64 (p : Int) = (p : Int) := by unfold wrap64; omega
theorem info_cost : (Tryd.prog.info? 48).map (fun i => (i.zero, i.size, i.bytes)) = some (some (.int .i64 0), 1, 8) := by kernel_rfl
/-- A block of numbers known whole. -/
def Nm (w : World) (g : Nat) (t : TypeId) (zs : List Int) : Prop := Blk w g t (zs.map (Value.int .i64)).toArray
abbrev Sq (w : World) (g : Nat) (zs : List Int) : Prop := Nm w g 48 zs
theorem Nm.ints {w : World} {g : Nat} {t : TypeId} {zs : List Int} (h : Nm w g t zs) (hm : zs.length ≤ 1048577) : Ints w w.heap.size (some ⟨g, 0, none⟩) zs :=
  ⟨by unfold maxLen; omega, fun _ => ⟨g, 0, rfl, h.lt, fun k hk => by
    rw [Nat.zero_add, Blk.cell h k, List.getElem?_toArray, List.getElem?_map, List.getElem?_eq_getElem hk, List.getD_eq_getElem?_getD, List.getElem?_eq_getElem hk]; rfl⟩⟩
theorem Nm.below {w w' : World} {g : Nat} {t : TypeId} {zs : List Int} (h : Nm w g t zs) (hb : Below w.heap.size w w') : Nm w' g t zs := Blk.below h hb (Blk.lt h)
theorem Nm.set_ {w : World} {g : Nat} {t : TypeId} {zs : List Int} (h : Nm w g t zs) (k : Nat) (v : Int) : Nm (w.setCell ⟨g, k, none⟩ (.int .i64 v)) g t (zs.set k v) := by
  have h2 := Blk.set_ h k (.int .i64 v)
  unfold Nm
  rw [List.map_set]
  simpa using h2
theorem Nm.at_ {w : World} {g : Nat} {t : TypeId} {zs : List Int} (h : Nm w g t zs) {k : Nat} (hk : k < zs.length) : w.cell? ⟨g, k, none⟩ = some (.int .i64 (zs.getD k 0)) := by
  rw [Blk.cell h k, List.getElem?_toArray, List.getElem?_map, List.getElem?_eq_getElem hk, List.getD_eq_getElem?_getD, List.getElem?_eq_getElem hk]; rfl
theorem Nm.fz {w : World} {g : Nat} {t : TypeId} {zs : List Int} (h : Nm w g t zs) (k : Nat) : w.frozen? ⟨g, k, none⟩ = false := Blk.frozen h k
theorem Nm.own {w : World} {g base : Nat} {t : TypeId} {zs : List Int} (h : Nm w g t zs) (hb : base ≤ g) (hm : zs.length ≤ 1048577) : w.ownsRow base t 1 (.slice (some ⟨g, 0, none⟩) zs.length zs.length) zs.length (zs.map (Value.int .i64)) :=
  ⟨by simp, Or.inr ⟨g, zs.length, _, rfl, hb, h, Nat.le_refl _, by unfold maxLen; omega, by simp, by simp only [Nat.mul_one]; exact List.take_of_length_le (by simp)⟩⟩
theorem made_zero (p : Nat) : madeCells #[Value.int .i64 0] p = ((List.replicate p (0 : Int)).map (Value.int .i64)).toArray := by
  apply Array.ext
  · simp [size_madeCells]
  · intro i h1 h2
    simp [madeCells, Nat.mod_one]
theorem Blk.grown {w w' : World} {g j : Nat} {t : TypeId} {cs : Array Value} (h : Blk w j t cs) (hg : w.grownBy w' (some g)) (hne : ¬ j = g) : Blk w' j t cs :=
  (hg.block j h.lt (fun e => hne (Option.some.inj e))).trans h
theorem grow_below_any {w w' : World} (h : Below w.heap.size w w') (r : Option Nat) : w.grownBy w' r := ⟨h.os, h.tape, h.output, h.size, fun k hk _ => h.block k hk⟩
theorem ints_grown {w w' : World} {g : Nat} {B : Nat} {A : Option Addr} {zs : List Int} (h : Ints w B A zs) (hg : w.grownBy w' (some g)) (hB : B ≤ g) (hs : B ≤ w.heap.size) : Ints w' B A zs :=
  h.below (grow_below hg hB hs)
theorem grow_six (w : World) (g : Nat) (v0 v1 v2 v3 v4 v5 : Value) : w.grownBy (((((((w.setCell ⟨g, 0, none⟩ v0).setCell ⟨g, 1, none⟩ v1).setCell ⟨g, 2, none⟩ v2).setCell ⟨g, 3, none⟩ v3).setCell ⟨g, 4, none⟩ v4).setCell ⟨g, 5, none⟩ v5)) (some g) :=
  grow_trans (grow_trans (grow_trans (grow_trans (grow_trans (grow_set w g 0 v0) (grow_set _ g 1 v1)) (grow_set _ g 2 v2)) (grow_set _ g 3 v3)) (grow_set _ g 4 v4)) (grow_set _ g 5 v5)
theorem blk_six {w : World} {g : Nat} {t : TypeId} {u0 u1 u2 u3 u4 u5 v0 v1 v2 v3 v4 v5 : Value} (h : Blk w g t #[u0, u1, u2, u3, u4, u5]) : Blk (((((((w.setCell ⟨g, 0, none⟩ v0).setCell ⟨g, 1, none⟩ v1).setCell ⟨g, 2, none⟩ v2).setCell ⟨g, 3, none⟩ v3).setCell ⟨g, 4, none⟩ v4).setCell ⟨g, 5, none⟩ v5)) g t #[v0, v1, v2, v3, v4, v5] :=
  (((((h.set_ 0 v0).set_ 1 v1).set_ 2 v2).set_ 3 v3).set_ 4 v4).set_ 5 v5
theorem six_cells {w : World} {g : Nat} {t : TypeId} {u0 u1 u2 u3 u4 u5 : Value} (h : Blk w g t #[u0, u1, u2, u3, u4, u5]) :
    w.cell? ⟨g, 0, none⟩ = some u0 ∧ w.cell? ⟨g, 1, none⟩ = some u1 ∧ w.cell? ⟨g, 2, none⟩ = some u2 ∧ w.cell? ⟨g, 3, none⟩ = some u3 ∧ w.cell? ⟨g, 4, none⟩ = some u4 ∧ w.cell? ⟨g, 5, none⟩ = some u5 :=
  ⟨h.cell 0, h.cell 1, h.cell 2, h.cell 3, h.cell 4, h.cell 5⟩
theorem six_frozen {w : World} {g : Nat} {t : TypeId} {cs : Array Value} (h : Blk w g t cs) :
    w.frozen? ⟨g, 0, none⟩ = false ∧ w.frozen? ⟨g, 1, none⟩ = false ∧ w.frozen? ⟨g, 2, none⟩ = false ∧ w.frozen? ⟨g, 3, none⟩ = false ∧ w.frozen? ⟨g, 4, none⟩ = false ∧ w.frozen? ⟨g, 5, none⟩ = false :=
  ⟨h.frozen 0, h.frozen 1, h.frozen 2, h.frozen 3, h.frozen 4, h.frozen 5⟩
theorem set_prefix {k : Nat} {cs zs : List Int} {z : Int} (h : cs.take k = zs.take k) (hk : k < zs.length) (hl : cs.length = zs.length) (hz : zs.getD k 0 = z) : (cs.set k z).take (k + 1) = zs.take (k + 1) := by
  rw [take_set_snoc _ _ _ (by omega), h, List.take_succ_eq_append_getElem hk]
  rw [List.getD_eq_getElem?_getD, List.getElem?_eq_getElem hk] at hz
  rw [← hz]; rfl

end Go.Proofs.YtfdbbopanankgaaDoor
namespace Go.Proofs.YtfdbbopanankgaaDoor
open Go.RowKit
set_option maxHeartbeats 1000000
set_option linter.unusedVariables false

theorem info_int' : (Tryd.prog.info? 3).map (fun i => (i.zero, i.size, i.bytes)) = some (some (.int .i64 0), 1, 8) := by kernel_rfl
end Go.Proofs.YtfdbbopanankgaaDoor
namespace Go.Proofs.YtfdbbopanankgaaDoor
open Go.RowKit
set_option maxHeartbeats 1000000
set_option linter.unusedVariables false

theorem grow_drew (w : World) (r : Option Nat) : w.grownBy w.drew r := ⟨rfl, rfl, rfl, Nat.le_refl _, fun _ _ _ => rfl⟩
end Go.Proofs.YtfdbbopanankgaaDoor
namespace Go.Proofs.YtfdbbopanankgaaDoor
open Go.RowKit
set_option maxHeartbeats 1000000
set_option linter.unusedVariables false
theorem getD_set (cs : List Int) (j q : Nat) (v : Int) (hj : j < cs.length) : (cs.set j v).getD q 0 = if q = j then v else cs.getD q 0 := by
  rw [List.getD_eq_getElem?_getD, List.getElem?_set]
  by_cases h : j = q
  · subst h; simp [hj]
  · rw [if_neg h, if_neg (fun e => h e.symm), List.getD_eq_getElem?_getD]
theorem eq_of_getD {xs ys : List Int} (hl : xs.length = ys.length) (h : ∀ q, q < xs.length → xs.getD q 0 = ys.getD q 0) : xs = ys := by
  apply List.ext_getElem hl
  intro q h1 h2
  have := h q h1
  rwa [List.getD_eq_getElem?_getD, List.getElem?_eq_getElem h1, List.getD_eq_getElem?_getD, List.getElem?_eq_getElem h2] at this
theorem unitL_at {n q : Nat} (hq : q < n * n) : (unitL n).getD q 0 = if q / n = q % n then 0 else 1000000 := by
  unfold unitL; rw [ofF_getD _ hq]; rfl
theorem grown_dr {w w' : World} {r : Option Nat} (h : w.grownBy w' r) (m : Nat) : w.grownBy (w'.drewN m) r := ⟨h.os, h.tape, h.output, h.size, h.block⟩

end Go.Proofs.YtfdbbopanankgaaDoor
namespace Go.Proofs.YtfdbbopanankgaaDoor
open Go.RowKit
set_option maxHeartbeats 1000000
set_option linter.unusedVariables false
theorem turnL_at {n a b : Nat} (zs : List Int) (ha : a < n) (hb : b < n) : (turnL n zs).getD (a * n + b) 0 = zs.getD (b * n + a) 0 := by
  have h := cel_ofF (turnF (cel n zs)) ha hb
  exact h
end Go.Proofs.YtfdbbopanankgaaDoor
