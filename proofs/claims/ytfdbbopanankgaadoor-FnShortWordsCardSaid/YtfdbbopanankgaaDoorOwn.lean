/- Rows of numbers of the call's own: opened, kept, marked, held and compared. Conditions: at most 2^20 and one numbers where they are marked. -/
import Derived.Test.YtfdbbopanankgaaDoorCopy
namespace Go.Proofs.YtfdbbopanankgaaDoor
open Go.RowKit
set_option maxHeartbeats 1000000
set_option linter.unusedVariables false

theorem grow_own {g : Nat} {row : Option Nat} {w a b : World} (h : w.grownBy a (some g)) (k : a.grownBy b row) (hr : ∀ j, row = some j → w.heap.size ≤ j) : w.grownBy b (some g) :=
  ⟨k.os.trans h.os, k.tape.trans h.tape, k.output.trans h.output, Nat.le_trans h.size k.size, fun i hi hne => (k.block i (Nat.lt_of_lt_of_le hi h.size) (fun e => by have := hr i e.symm; omega)).trans (h.block i hi hne)⟩
theorem own_far {w w' : World} {base g n : Nat} {t : TypeId} {x : Value} {xs : List Value} (h : w.ownsRow base t 1 x n xs) (hg : w.grownBy w' (some g)) (hlt : g < base) : w'.ownsRow base t 1 x n xs := by
  refine h.kept hg ?_
  rcases ho : x.ownBlock with _ | j
  · exact Or.inl rfl
  · right
    have := (h.lt j ho).1
    intro he
    cases he
    omega
/-- A row of the call's own, as my contracts take it. -/
theorem own_ints {w : World} {base : Nat} {t : TypeId} {v : Value} {vs : List Int} (h : w.ownsRow base t 1 v vs.length (vs.map (Value.int .i64))) (hm : vs.length ≤ maxLen) :
    ∃ A cap, v = .slice A vs.length cap ∧ vs.length ≤ cap ∧ Ints w w.heap.size A vs := by
  rcases h.2 with ⟨hv, hx⟩ | ⟨g, cap, cur, hv, hb, hg, hnc, hcm, hcs, htake⟩
  · have hvs : vs = [] := by simpa using hx
    subst hvs
    exact ⟨none, 0, hv, Nat.le_refl _, ⟨Nat.zero_le _, fun h0 => absurd h0 (by simp)⟩⟩
  · subst hv
    exact ⟨_, cap, rfl, hnc, ints_of_own h hm rfl rfl⟩
theorem snoc_map (vs : List Int) (a : Int) : vs.map (Value.int .i64) ++ [.int .i64 a] = (vs ++ [a]).map (Value.int .i64) := by simp
/-- Two rows of different element types share no block. -/
theorem own_other {w : World} {base n g : Nat} {t t' : TypeId} {x : Value} {xs : List Value} {cur : Array Value} {fz : Nat × Nat} (h : w.ownsRow base t 1 x n xs) (hg : w.heap[g]? = some (.cells cur t' fz)) (hne : t ≠ t') : some g ≠ x.ownBlock := by
  rcases h.2 with ⟨rfl, _⟩ | ⟨g', cap, cur', rfl, _, hh, _⟩
  · simp [Value.ownBlock]
  · intro he
    simp [Value.ownBlock] at he
    subst he
    rw [hh] at hg
    injection hg with hg
    injection hg with _ ht
    exact hne ht
theorem int_snoc (vs : List Int) (a : Int) : vs.map (Value.int .i64) ++ [.int .i64 a] = (vs ++ [a]).map (Value.int .i64) := by simp
theorem own_under {w w' : World} {base n : Nat} {t : TypeId} {x : Value} {xs : List Value} (h : w.ownsRow base t 1 x n xs) (hb : Below w.heap.size w w') : w'.ownsRow base t 1 x n xs := by
  refine h.kept (row := none) ⟨hb.os, hb.tape, hb.output, hb.size, fun k hk _ => hb.block k hk⟩ ?_
  cases x.ownBlock
  · exact Or.inl rfl
  · exact Or.inr (by simp)
/-- 1, 2, 3 and so on. -/
def ms (n : Nat) : List Int := (List.range n).map fun (i : Nat) => (i : Int) + 1
theorem ms_len (n : Nat) : (ms n).length = n := by simp [ms]
theorem ms_at {n k : Nat} (h : k < n) : (ms n).getD k 0 = (k : Int) + 1 := by
  rw [List.getD_eq_getElem?_getD, List.getElem?_eq_getElem (by rw [ms_len]; exact h)]; simp [ms]
theorem ms_next (k : Nat) : ms k ++ [(k : Int) + 1] = ms (k + 1) := by simp [ms, List.range_succ]
theorem below_on' {w0 w w' : World} (h : Below w0.heap.size w0 w) (h' : Below w.heap.size w w') : Below w0.heap.size w0 w' := h.trans (h'.mono h.size)
theorem below_dr {B : Nat} {a w : World} (h : Below B a w) (m : Nat) : Below B a (w.drewN m) := ⟨h.os, h.tape, h.output, h.size, h.block⟩
theorem own_dr {w : World} {base n : Nat} {t : TypeId} {x : Value} {xs : List Value} (h : w.ownsRow base t 1 x n xs) (m : Nat) : (w.drewN m).ownsRow base t 1 x n xs := h

end Go.Proofs.YtfdbbopanankgaaDoor
