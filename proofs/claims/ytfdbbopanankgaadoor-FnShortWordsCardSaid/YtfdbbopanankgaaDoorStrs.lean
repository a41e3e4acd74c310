/- Rows of texts of the call's own: compared with their like, marked, held. Conditions: at most 2^20 and one texts. -/
import Derived.Test.YtfdbbopanankgaaDoorOwn
import Derived.Test.YtfdbbopanankgaaDoorMarkA
import Derived.Deep.RegionHeld3
namespace Go.Proofs.YtfdbbopanankgaaDoor
open Go.RowKit
set_option maxHeartbeats 4000000
set_option maxRecDepth 100000
set_option linter.unusedVariables false

theorem str_cell {w : World} {base n g cap : Nat} {t : TypeId} {vs : List ByteArray} (h : w.ownsRow base t 1 (.slice (some ⟨g, 0, none⟩) n cap) n (vs.map Value.string)) {k : Nat} {s : ByteArray} (hk : vs[k]? = some s) : w.cell? ⟨g, k, none⟩ = some (.string s) := by
  have h := h.cells (g := g) rfl k (.string s) (by rw [List.getElem?_map, hk]; rfl)
  have e : ((⟨g, 0, none⟩ : Addr).add k) = ⟨g, k, none⟩ := by rw [Addr.add_lit, Nat.zero_add]
  rwa [e] at h
/-- What a row looks like. -/
theorem str_form {w : World} {base n : Nat} {t : TypeId} {x : Value} {cs : List Value} (h : w.ownsRow base t 1 x n cs) : (n = 0 ∧ cs = [] ∧ ∃ A cap, x = .slice A 0 cap ∧ (A = none → cap = 0)) ∨ (0 < n ∧ ∃ g cap, x = .slice (some ⟨g, 0, none⟩) n cap ∧ g < w.heap.size ∧ n ≤ maxLen) := by
  rcases Nat.eq_zero_or_pos n with h0 | h0
  · left
    subst h0
    have hl := h.1
    refine ⟨rfl, List.eq_nil_of_length_eq_zero (by omega), ?_⟩
    rcases h.2 with ⟨rfl, _⟩ | ⟨g, cap, cur, rfl, _⟩
    · exact ⟨none, 0, rfl, fun _ => rfl⟩
    · exact ⟨some ⟨g, 0, none⟩, cap, rfl, fun e => by cases e⟩
  · right
    refine ⟨h0, ?_⟩
    rcases h.2 with ⟨_, e⟩ | ⟨g, cap, cur, rfl, hb, hg, hnc, hcm, _⟩
    · omega
    · exact ⟨g, cap, rfl, (Array.getElem?_eq_some_iff.1 hg).1, Nat.le_trans hnc hcm⟩

/-- The marks: one for each text. -/
def mks (n : Nat) : List ByteArray := (List.range n).map fun i => mtx (i + 1)
theorem mks_len (n : Nat) : (mks n).length = n := by simp [mks]
theorem mks_at {n k : Nat} (h : k < n) : (mks n)[k]? = some (mtx (k + 1)) := by simp [mks, h]
theorem mks_next (k : Nat) : (mks k).map Value.string ++ [.string (mtx (k + 1))] = (mks (k + 1)).map Value.string := by simp [mks, List.range_succ]

end Go.Proofs.YtfdbbopanankgaaDoor
