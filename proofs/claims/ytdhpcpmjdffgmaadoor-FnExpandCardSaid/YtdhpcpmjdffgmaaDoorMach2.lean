/- The program's machines: sets of states, and an automaton as a machine: its numbers, its sets, and a map that tells each step's cost; in new memory; nothing that was there changes. No condition but that the automaton is valid, or that it isn't. An automaton as the program's machine: its numbers, its sets, and a map that tells each step's cost; in new memory; nothing that was there changes. No condition but that the automaton is valid, or that it isn't. -/
import Derived.Test.YtdhpcpmjdffgmaaDoorAutS
import Derived.Test.YtdhpcpmjdffgmaaDoorMapK
import Derived.Deep.RegionHeld3
import Derived.Deep.DeepCutAuto
import Derived.Test.YtdhpcpmjdffgmaaDoorLastOp
namespace Go.Proofs.YtdhpcpmjdffgmaaDoor
open Go.RowKit
set_option maxHeartbeats 2000000
set_option maxRecDepth 100000
set_option linter.unusedVariables false

def hasB (xs : List Int) (p : Int) : Bool := xs.contains p
def setC (xs : List Int) : Array Value := #[.bool (hasB xs 0), .bool (hasB xs 1), .bool (hasB xs 2), .bool (hasB xs 3)]
theorem setC_snoc (xs : List Int) {q : Nat} (hq : q < 4) : (setC xs).setIfInBounds q (.bool true) = setC (xs ++ [(q : Int)]) := by
  have h : q = 0 ∨ q = 1 ∨ q = 2 ∨ q = 3 := by omega
  rcases h with rfl | rfl | rfl | rfl <;> simp [setC, hasB]
theorem setC_cell {w : World} {g : Nat} {t : TypeId} {xs : List Int} (h : Blk w g t (setC xs)) {q : Nat} (hq : q < 4) : w.cell? ⟨g, q, none⟩ = some (.bool (hasB xs q)) := by
  rw [h.cell q]
  have h : q = 0 ∨ q = 1 ∨ q = 2 ∨ q = 3 := by omega
  rcases h with rfl | rfl | rfl | rfl <;> rfl
theorem take_snoc_i {xs : List Int} {k : Nat} {z : Int} (hk : k < xs.length) (hz : xs.getD k 0 = z) : xs.take (k + 1) = xs.take k ++ [z] := by
  rw [List.take_succ_eq_append_getElem hk]
  rw [List.getD_eq_getElem?_getD, List.getElem?_eq_getElem hk] at hz
  simp at hz
  rw [hz]
theorem getD_mem {xs : List Int} {k : Nat} {z : Int} (hk : k < xs.length) (hz : xs.getD k 0 = z) : z ∈ xs := by
  rw [List.getD_eq_getElem?_getD, List.getElem?_eq_getElem hk] at hz
  simp at hz
  rw [← hz]
  exact List.getElem_mem _
/-- What it costs to go by a letter, where the last one of several steps counts. -/
def costAt (ss : List StepD) : Int → ByteArray → Int → Option Int := ss.foldl (fun F s => updC F s.fr s.le s.to_ s.co) (fun _ _ _ => none)
theorem costAt_take {ss : List StepD} {k : Nat} {s : StepD} (hk : k < ss.length) (hs : ss.getD k default = s) : costAt (ss.take (k + 1)) = updC (costAt (ss.take k)) s.fr s.le s.to_ s.co := by
  have e : ss[k] = s := by rw [List.getD_eq_getElem?_getD, List.getElem?_eq_getElem hk] at hs; exact hs
  unfold costAt
  rw [List.take_succ_eq_append_getElem hk, List.foldl_append, e]
  rfl
theorem wf_small {k : Nat} (h : k ≤ 1000000) : (Lit.int .i64 (k : Int)).wf = true := by
  simp only [Lit.wf, IntKind.min, IntKind.max, IntKind.signed, IntKind.bits, Bool.and_eq_true, decide_eq_true_eq, if_true]
  omega
theorem wf_between {k : Int} (h0 : 0 ≤ k) (h : k ≤ 1000000) : (Lit.int .i64 k).wf = true := by
  obtain ⟨n, rfl⟩ := Int.eq_ofNat_of_zero_le h0
  exact wf_small (by omega)
theorem stepOk_in {n : Nat} {s : StepD} (h : stepOk n s = true) : ∃ i k c : Nat, s.fr = (i : Int) ∧ i < n ∧ s.to_ = (k : Int) ∧ k < n ∧ s.co = (c : Int) ∧ c ≤ 3 ∧ IsL s.le := by
  have hl := stepOk_l h
  unfold stepOk at h
  simp only [Bool.and_eq_true, decide_eq_true_eq] at h
  obtain ⟨⟨h1, h2⟩, ⟨h3, h4⟩, _, h5, h6⟩ := h
  exact ⟨s.fr.toNat, s.to_.toNat, s.co.toNat, by omega, by omega, by omega, by omega, by omega, by omega, hl⟩

theorem marks_in : ∀ {n last : Int} {xs : List Int}, marksF n last xs = true → ∀ x ∈ xs, last < x ∧ x < n
  | n, last, [], _, x, hx => by cases hx
  | n, last, p :: ps, h, x, hx => by
    by_cases h1 : last < p
    · by_cases h2 : p < n
      · rw [marks_go ps h1 h2] at h
        rcases List.mem_cons.1 hx with rfl | hx
        · exact ⟨h1, h2⟩
        · have := marks_in h x hx
          exact ⟨by omega, this.2⟩
      · rw [marks_hi ps h2] at h; cases h
    · rw [marks_lo ps h1] at h; cases h
theorem steps_in : ∀ {n : Int} {o : Option StepD} {ss : List StepD}, stepsF n o ss = true → ∀ s ∈ ss, stepOk n s = true
  | n, o, [], _, s, hs => by cases hs
  | n, none, t :: r, h, s, hs => by
    simp only [stepsF, Bool.and_eq_true] at h
    rcases List.mem_cons.1 hs with rfl | hs
    · exact h.1
    · exact steps_in h.2 s hs
  | n, some q, t :: r, h, s, hs => by
    simp only [stepsF, Bool.and_eq_true] at h
    rcases List.mem_cons.1 hs with rfl | hs
    · exact h.1
    · exact steps_in h.2.2 s hs
theorem auto_in {m : Int} {xs ys : List Int} {ss : List StepD} (h : autoOk m xs ys ss = true) : ∃ n : Nat, m = (n : Int) ∧ 1 ≤ n ∧ n ≤ 4 ∧ (∀ x ∈ xs, 0 ≤ x ∧ x < m) ∧ (∀ y ∈ ys, 0 ≤ y ∧ y < m) ∧ ss.length ≤ 24 ∧ ∀ s ∈ ss, stepOk m s = true := by
  unfold autoOk at h
  simp only [Bool.and_eq_true, decide_eq_true_eq] at h
  obtain ⟨⟨h1, h2⟩, h3, h4, h5, h6⟩ := h
  exact ⟨m.toNat, by omega, by omega, by omega, fun x hx => by have := marks_in h3 x hx; omega, fun x hx => by have := marks_in h4 x hx; omega, h5, steps_in h6⟩

theorem ten_cells {w : World} {g : Nat} {t : TypeId} {u0 u1 u2 u3 u4 u5 u6 u7 u8 u9 : Value} (h : Blk w g t #[u0, u1, u2, u3, u4, u5, u6, u7, u8, u9]) :
    w.cell? ⟨g, 0, none⟩ = some u0 ∧ w.cell? ⟨g, 1, none⟩ = some u1 ∧ w.cell? ⟨g, 2, none⟩ = some u2 ∧ w.cell? ⟨g, 3, none⟩ = some u3 ∧ w.cell? ⟨g, 4, none⟩ = some u4 ∧ w.cell? ⟨g, 5, none⟩ = some u5 ∧ w.cell? ⟨g, 6, none⟩ = some u6 ∧ w.cell? ⟨g, 7, none⟩ = some u7 ∧ w.cell? ⟨g, 8, none⟩ = some u8 ∧ w.cell? ⟨g, 9, none⟩ = some u9 :=
  ⟨h.cell 0, h.cell 1, h.cell 2, h.cell 3, h.cell 4, h.cell 5, h.cell 6, h.cell 7, h.cell 8, h.cell 9⟩
theorem ten_frozen {w : World} {g : Nat} {t : TypeId} {cs : Array Value} (h : Blk w g t cs) :
    w.frozen? ⟨g, 0, none⟩ = false ∧ w.frozen? ⟨g, 1, none⟩ = false ∧ w.frozen? ⟨g, 2, none⟩ = false ∧ w.frozen? ⟨g, 3, none⟩ = false ∧ w.frozen? ⟨g, 4, none⟩ = false ∧ w.frozen? ⟨g, 5, none⟩ = false ∧ w.frozen? ⟨g, 6, none⟩ = false ∧ w.frozen? ⟨g, 7, none⟩ = false ∧ w.frozen? ⟨g, 8, none⟩ = false ∧ w.frozen? ⟨g, 9, none⟩ = false :=
  ⟨h.frozen 0, h.frozen 1, h.frozen 2, h.frozen 3, h.frozen 4, h.frozen 5, h.frozen 6, h.frozen 7, h.frozen 8, h.frozen 9⟩
def ten (w : World) (g : Nat) (v0 v1 v2 v3 v4 v5 v6 v7 v8 v9 : Value) : World := (((((((((w.setCell ⟨g, 0, none⟩ v0).setCell ⟨g, 1, none⟩ v1).setCell ⟨g, 2, none⟩ v2).setCell ⟨g, 3, none⟩ v3).setCell ⟨g, 4, none⟩ v4).setCell ⟨g, 5, none⟩ v5).setCell ⟨g, 6, none⟩ v6).setCell ⟨g, 7, none⟩ v7).setCell ⟨g, 8, none⟩ v8).setCell ⟨g, 9, none⟩ v9
theorem ten_grow (w : World) (g : Nat) (v0 v1 v2 v3 v4 v5 v6 v7 v8 v9 : Value) : w.grownBy (ten w g v0 v1 v2 v3 v4 v5 v6 v7 v8 v9) (some g) := by
  unfold ten
  exact grow_trans (grow_trans (grow_trans (grow_trans (grow_trans (grow_trans (grow_trans (grow_trans (grow_trans (grow_set _ g 0 v0) (grow_set _ g 1 v1)) (grow_set _ g 2 v2)) (grow_set _ g 3 v3)) (grow_set _ g 4 v4)) (grow_set _ g 5 v5)) (grow_set _ g 6 v6)) (grow_set _ g 7 v7)) (grow_set _ g 8 v8)) (grow_set _ g 9 v9)
theorem ten_blk {w : World} {g : Nat} {t : TypeId} {u0 u1 u2 u3 u4 u5 u6 u7 u8 u9 : Value} (h : Blk w g t #[u0, u1, u2, u3, u4, u5, u6, u7, u8, u9]) (v0 v1 v2 v3 v4 v5 v6 v7 v8 v9 : Value) : Blk (ten w g v0 v1 v2 v3 v4 v5 v6 v7 v8 v9) g t #[v0, v1, v2, v3, v4, v5, v6, v7, v8, v9] := by
  unfold ten
  have h0 : Blk _ g t #[v0, u1, u2, u3, u4, u5, u6, u7, u8, u9] := h.set_ 0 v0
  have h1 : Blk _ g t #[v0, v1, u2, u3, u4, u5, u6, u7, u8, u9] := h0.set_ 1 v1
  have h2 : Blk _ g t #[v0, v1, v2, u3, u4, u5, u6, u7, u8, u9] := h1.set_ 2 v2
  have h3 : Blk _ g t #[v0, v1, v2, v3, u4, u5, u6, u7, u8, u9] := h2.set_ 3 v3
  have h4 : Blk _ g t #[v0, v1, v2, v3, v4, u5, u6, u7, u8, u9] := h3.set_ 4 v4
  have h5 : Blk _ g t #[v0, v1, v2, v3, v4, v5, u6, u7, u8, u9] := h4.set_ 5 v5
  have h6 : Blk _ g t #[v0, v1, v2, v3, v4, v5, v6, u7, u8, u9] := h5.set_ 6 v6
  have h7 : Blk _ g t #[v0, v1, v2, v3, v4, v5, v6, v7, u8, u9] := h6.set_ 7 v7
  have h8 : Blk _ g t #[v0, v1, v2, v3, v4, v5, v6, v7, v8, u9] := h7.set_ 8 v8
  have h9 : Blk _ g t #[v0, v1, v2, v3, v4, v5, v6, v7, v8, v9] := h8.set_ 9 v9
  exact h9
theorem blk_gr {w w' : World} {g j : Nat} {t : TypeId} {cs : Array Value} (h : Blk w j t cs) (hg : w.grownBy w' (some g)) (hne : ¬ j = g) : Blk w' j t cs :=
  (hg.block j h.lt (fun e => hne (by cases e; rfl))).trans h
end Go.Proofs.YtdhpcpmjdffgmaaDoor
namespace Go.Proofs.YtdhpcpmjdffgmaaDoor
open Go.RowKit
set_option maxHeartbeats 2000000
set_option maxRecDepth 100000
set_option linter.unusedVariables false

theorem map_at {w : World} {g : Nat} (h : g = w.heap.size) : (w.alloc (.map #[] 0)).heap[g]? = some (.map #[] 0) := by subst h; exact heap_alloc_new w _
theorem map_new (w : World) : (w.alloc (.map #[] 0)).heap[w.heap.size]? = some (.map #[] 0) := heap_alloc_new w _
theorem map_al {w : World} {M : Nat} (h : w.heap[M]? = some (.map #[] 0)) (o : Obj) : (w.alloc o).heap[M]? = some (.map #[] 0) := (Below.heap_alloc w o M (Array.getElem?_eq_some_iff.1 h).1).trans h
theorem map_b {w w' : World} {M : Nat} (h : w.heap[M]? = some (.map #[] 0)) (hb : Below w.heap.size w w') : w'.heap[M]? = some (.map #[] 0) := (hb.block M (Array.getElem?_eq_some_iff.1 h).1).trans h

end Go.Proofs.YtdhpcpmjdffgmaaDoor
