/- Steps and automata marked and held, as the laws do it. Conditions: at most 2^20 and one of each. -/
import Derived.Test.YtfdbbopanankgaaDoorCopyM
import Derived.Test.YtfdbbopanankgaaDoorToB
import Derived.Test.YtfdbbopanankgaaDoorDigits
namespace Go.Proofs.YtfdbbopanankgaaDoor
open Go.RowKit
set_option maxHeartbeats 2000000
set_option maxRecDepth 100000
set_option linter.unusedVariables false

def mtx (k : Nat) : ByteArray := ⟨#[109]⟩ ++ ⟨(Lib.decDigits k).toArray⟩
def digs (k : Nat) : List UInt8 := if k = 0 then [] else Lib.decDigits k
theorem digs_step {k : Nat} (h : 0 < k) : digs k = digs (k / 10) ++ [48 + UInt8.ofNat (k % 10)] := by
  unfold digs
  rw [if_neg (by omega)]
  by_cases h9 : 9 < k
  · rw [if_neg (by omega), dec_big h9]
  · rw [if_pos (by omega), dec_small h9, Nat.mod_eq_of_lt (by omega)]; rfl
theorem flatS_set0 : ∀ (ss : List StepD) (k : Nat) (v : Int), k < ss.length → (flatS ss).set (k * 4) (.int .i64 v) = flatS (ss.set k { ss.getD k default with fr := v })
  | [], k, v, h => by simp at h
  | t :: ss, 0, v, _ => by simp [flatS]
  | t :: ss, k + 1, v, h => by
    have ih := flatS_set0 ss k v (by simpa using h)
    have e0 : (k + 1) * 4 = k * 4 + 4 := by omega
    rw [e0]
    simp only [flatS, List.set_cons_succ, List.getD_cons_succ]
    rw [ih]
theorem flatS_set1 : ∀ (ss : List StepD) (k : Nat) (v : ByteArray), k < ss.length → (flatS ss).set (k * 4 + 1) (.string v) = flatS (ss.set k { ss.getD k default with le := v })
  | [], k, v, h => by simp at h
  | t :: ss, 0, v, _ => by simp [flatS]
  | t :: ss, k + 1, v, h => by
    have ih := flatS_set1 ss k v (by simpa using h)
    have e0 : (k + 1) * 4 + 1 = k * 4 + 1 + 4 := by omega
    rw [e0]
    simp only [flatS, List.set_cons_succ, List.getD_cons_succ]
    rw [ih]
theorem flatS_set2 : ∀ (ss : List StepD) (k : Nat) (v : Int), k < ss.length → (flatS ss).set (k * 4 + 2) (.int .i64 v) = flatS (ss.set k { ss.getD k default with to_ := v })
  | [], k, v, h => by simp at h
  | t :: ss, 0, v, _ => by simp [flatS]
  | t :: ss, k + 1, v, h => by
    have ih := flatS_set2 ss k v (by simpa using h)
    have e0 : (k + 1) * 4 + 2 = k * 4 + 2 + 4 := by omega
    rw [e0]
    simp only [flatS, List.set_cons_succ, List.getD_cons_succ]
    rw [ih]
theorem flatS_set3 : ∀ (ss : List StepD) (k : Nat) (v : Int), k < ss.length → (flatS ss).set (k * 4 + 3) (.int .i64 v) = flatS (ss.set k { ss.getD k default with co := v })
  | [], k, v, h => by simp at h
  | t :: ss, 0, v, _ => by simp [flatS]
  | t :: ss, k + 1, v, h => by
    have ih := flatS_set3 ss k v (by simpa using h)
    have e0 : (k + 1) * 4 + 3 = k * 4 + 3 + 4 := by omega
    rw [e0]
    simp only [flatS, List.set_cons_succ, List.getD_cons_succ]
    rw [ih]
theorem SBlk.of_set {w : World} {g : Nat} {t : TypeId} {ss us : List StepD} (h : SBlk w g t ss) {i : Nat} {u : Value} (he : (flatS ss).set i u = flatS us) : SBlk (w.setCell ⟨g, i, none⟩ u) g t us := by
  have h1 := Blk.set_ h i u
  unfold SBlk
  rw [← he]
  simpa using h1

def markS (k : Nat) (n : Nat) : List StepD := (List.range n).map fun i => ⟨((k + 4 * i : Nat) : Int), mtx (k + 4 * i + 1), ((k + 4 * i + 2 : Nat) : Int), ((k + 4 * i + 3 : Nat) : Int)⟩
theorem markS_len (k n : Nat) : (markS k n).length = n := by simp [markS]
theorem markS_next (k n : Nat) : markS k (n + 1) = markS k n ++ [⟨((k + 4 * n : Nat) : Int), mtx (k + 4 * n + 1), ((k + 4 * n + 2 : Nat) : Int), ((k + 4 * n + 3 : Nat) : Int)⟩] := by simp [markS, List.range_succ]
theorem markS_at {k n i : Nat} (h : i < n) : (markS k n).getD i default = ⟨((k + 4 * i : Nat) : Int), mtx (k + 4 * i + 1), ((k + 4 * i + 2 : Nat) : Int), ((k + 4 * i + 3 : Nat) : Int)⟩ := by
  rw [List.getD_eq_getElem?_getD, List.getElem?_eq_getElem (by rw [markS_len]; exact h)]; simp [markS]

theorem grow_of_below {w w' : World} (h : Below w.heap.size w w') (r : Option Nat) : w.grownBy w' r := ⟨h.os, h.tape, h.output, h.size, fun k hk _ => h.block k hk⟩
theorem set_getD {us : List StepD} {j : Nat} (h : j < us.length) (x : StepD) : (us.set j x).getD j default = x := by
  simp [List.getD_eq_getElem?_getD, h]
theorem set_four {us : List StepD} {j : Nat} (h : j < us.length) (a : Int) (t : ByteArray) (b c : Int) :
    (((us.set j { us.getD j default with fr := a }).set j { (us.set j { us.getD j default with fr := a }).getD j default with le := t }).set j { ((us.set j { us.getD j default with fr := a }).set j { (us.set j { us.getD j default with fr := a }).getD j default with le := t }).getD j default with to_ := b }).set j
      { (((us.set j { us.getD j default with fr := a }).set j { (us.set j { us.getD j default with fr := a }).getD j default with le := t }).set j { ((us.set j { us.getD j default with fr := a }).set j { (us.set j { us.getD j default with fr := a }).getD j default with le := t }).getD j default with to_ := b }).getD j default with co := c } = us.set j ⟨a, t, b, c⟩ := by
  have h1 : ∀ x, (us.set j x).getD j default = x := set_getD h
  simp only [h1, List.set_set]
theorem take_mark {us : List StepD} {j n k0 : Nat} {x : StepD} (hl : us.length = n) (hj : j < n) (ht : us.take j = markS k0 j) (hx : x = ⟨((k0 + 4 * j : Nat) : Int), mtx (k0 + 4 * j + 1), ((k0 + 4 * j + 2 : Nat) : Int), ((k0 + 4 * j + 3 : Nat) : Int)⟩) : (us.set j x).take (j + 1) = markS k0 (j + 1) := by
  rw [markS_next, ← hx, ← ht]
  have h1 : j < (us.set j x).length := by rw [List.length_set, hl]; exact hj
  rw [List.take_succ_eq_append_getElem h1, List.getElem_set_self, List.take_set, List.set_eq_of_length_le (by simp; omega)]

/-- Nothing is turned but what lies from block B on and below block T. -/
def Ins (B T : Nat) (w w' : World) : Prop := w'.os = w.os ∧ w'.tape = w.tape ∧ w'.output = w.output ∧ w.heap.size ≤ w'.heap.size ∧ ∀ j, j < w.heap.size → (j < B ∨ T ≤ j) → w'.heap[j]? = w.heap[j]?
theorem Ins.of_grow {B T : Nat} {w w' : World} {r : Option Nat} (h : w.grownBy w' r) (hr : ∀ j, r = some j → B ≤ j ∧ j < T) : Ins B T w w' :=
  ⟨h.os, h.tape, h.output, h.size, fun j hj ho => h.block j hj (fun e => by have := hr j e.symm; omega)⟩
theorem Ins.trans {B T : Nat} {a b c : World} (h1 : Ins B T a b) (h2 : Ins B T b c) : Ins B T a c :=
  ⟨h2.1.trans h1.1, h2.2.1.trans h1.2.1, h2.2.2.1.trans h1.2.2.1, Nat.le_trans h1.2.2.2.1 h2.2.2.2.1, fun j hj ho => (h2.2.2.2.2 j (Nat.lt_of_lt_of_le hj h1.2.2.2.1) ho).trans (h1.2.2.2.2 j hj ho)⟩
theorem Ins.blk {B T : Nat} {w w' : World} (h : Ins B T w w') {k : Nat} {t : TypeId} {cs : Array Value} (hk : Blk w k t cs) (ho : k < B ∨ T ≤ k) : Blk w' k t cs := (h.2.2.2.2 k (Blk.lt hk) ho).trans hk
theorem Ins.own {B T base n : Nat} {w w' : World} {t : TypeId} {x : Value} {xs : List Value} (h : Ins B T w w') (hx : w.ownsRow base t 1 x n xs) (ho : ∀ j, x.ownBlock = some j → j < B ∨ T ≤ j) : w'.ownsRow base t 1 x n xs := by
  rcases hx with ⟨h1, h2 | ⟨g, cap, cur, rfl, hb, hg, hr⟩⟩
  · exact ⟨h1, Or.inl h2⟩
  · exact ⟨h1, Or.inr ⟨g, cap, cur, rfl, hb, (h.2.2.2.2 g (Array.getElem?_eq_some_iff.1 hg).1 (ho g rfl)).trans hg, hr⟩⟩
theorem Ins.below {B T b : Nat} {a w w' : World} (h : Ins B T w w') (hb : Below b a w) (hB : b ≤ B) (hw : b ≤ w.heap.size) : Below b a w' :=
  ⟨h.1.trans hb.os, h.2.1.trans hb.tape, h.2.2.1.trans hb.output, Nat.le_trans hb.size h.2.2.2.1, fun k hk => (h.2.2.2.2 k (Nat.lt_of_lt_of_le hk hw) (Or.inl (Nat.lt_of_lt_of_le hk hB))).trans (hb.block k hk)⟩
end Go.Proofs.YtfdbbopanankgaaDoor
