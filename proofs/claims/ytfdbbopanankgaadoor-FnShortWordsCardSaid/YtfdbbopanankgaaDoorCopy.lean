/- A slice of ints copied, and two slices compared, as the laws do it: the copy is new memory that reads as the same numbers; the comparison tells whether the numbers are the same. Condition of the copy: at most 2^40 numbers. -/
import Derived.Test.YtfdbbopanankgaaDoorRows
import Derived.Test.YtfdbbopanankgaaDoorPlain
import Derived.WalkKit
import Derived.Lib.Hide
import Derived.Handy
import Derived.RegionTactic
import Derived.BigQuiet
namespace Go.Proofs.YtfdbbopanankgaaDoor
open Go.RowKit
set_option maxHeartbeats 400000
set_option linter.unusedVariables false

theorem info_int : (Tryd.prog.info? 3).map (fun i => (i.zero, i.size, i.bytes)) = some (some (.int .i64 0), 1, 8) := by kernel_rfl

/-- What a call that copies leaves: a new row that reads as the numbers. -/
def Copied (w : World) (zs : List Int) (e : Ending) (w' : World) : Prop :=
  ∃ g, e = .returned (.slice (some ⟨g, 0, none⟩) zs.length zs.length) ∧ Below w.heap.size w w' ∧ w.heap.size ≤ g ∧ Ints w' w'.heap.size (some ⟨g, 0, none⟩) zs

theorem ints_of_own {w : World} {base : Nat} {t : TypeId} {g n cap : Nat} {cs : List Value} {zs : List Int} (h : w.ownsRow base t 1 (.slice (some ⟨g, 0, none⟩) n cap) n cs) (hm : n ≤ maxLen) (hn : n = zs.length) (hc : cs = zs.map (Value.int .i64)) :
    Ints w w.heap.size (some ⟨g, 0, none⟩) zs := by
  subst hn
  refine ⟨hm, fun h0 => ⟨g, 0, rfl, (h.lt g rfl).2, fun k hk => ?_⟩⟩
  rw [Nat.zero_add, h.cellAt k (by omega), hc, List.getElem?_map, List.getElem?_eq_getElem hk, List.getD_eq_getElem?_getD, List.getElem?_eq_getElem hk]
  rfl

theorem take_set_snoc {α : Type} (cs : List α) (k : Nat) (u : α) (h : k < cs.length) : (cs.set k u).take (k + 1) = cs.take k ++ [u] := by
  rw [List.take_succ_eq_append_getElem (by simpa using h)]
  simp only [List.getElem_set_self]
  rw [List.take_set, List.set_eq_of_length_le (by simp; omega)]

end Go.Proofs.YtfdbbopanankgaaDoor
