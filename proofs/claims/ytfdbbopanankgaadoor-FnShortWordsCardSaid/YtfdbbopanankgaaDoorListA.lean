/- The states of a set, listed: a new slice of the call's own. No condition. -/
import Derived.Test.YtfdbbopanankgaaDoorOwnK
import Derived.Test.YtfdbbopanankgaaDoorMarkB
import Derived.Deep.AppendLies
namespace Go.Proofs.YtfdbbopanankgaaDoor
open Go.RowKit
set_option maxHeartbeats 4000000
set_option maxRecDepth 100000
set_option linter.unusedVariables false

def bAt (b0 b1 b2 b3 : Bool) : Nat → Bool
  | 0 => b0
  | 1 => b1
  | 2 => b2
  | 3 => b3
  | _ => false
/-- Which of the first k numbers a set of four has, in their order. -/
def selB (f : Nat → Bool) : Nat → List Int
  | 0 => []
  | k + 1 => if f k = true then selB f k ++ [(k : Int)] else selB f k
theorem selB_t {f : Nat → Bool} {k : Nat} (h : f k = true) : selB f (k + 1) = selB f k ++ [(k : Int)] := by rw [selB, if_pos h]
theorem selB_f {f : Nat → Bool} {k : Nat} (h : f k = false) : selB f (k + 1) = selB f k := by rw [selB, if_neg (by rw [h]; decide)]
theorem selB_len (f : Nat → Bool) : ∀ k, (selB f k).length ≤ k
  | 0 => Nat.le_refl _
  | k + 1 => by
    have := selB_len f k
    rcases h : f k with _ | _
    · rw [selB_f h]; omega
    · rw [selB_t h]; simp; omega
theorem selB_mem (f : Nat → Bool) : ∀ k (x : Int), x ∈ selB f k ↔ ∃ j : Nat, j < k ∧ f j = true ∧ x = (j : Int)
  | 0, x => by simp [selB]
  | k + 1, x => by
    have ih := selB_mem f k x
    rcases h : f k with _ | _
    · rw [selB_f h, ih]
      exact ⟨fun ⟨j, a, b, c⟩ => ⟨j, by omega, b, c⟩, fun ⟨j, a, b, c⟩ => by
        rcases Nat.lt_or_ge j k with h2 | h2
        · exact ⟨j, h2, b, c⟩
        · have e : j = k := by omega
          rw [e, h] at b
          cases b⟩
    · rw [selB_t h, List.mem_append, ih, List.mem_singleton]
      constructor
      · rintro (⟨j, a, b, c⟩ | rfl)
        · exact ⟨j, by omega, b, c⟩
        · exact ⟨k, by omega, h, rfl⟩
      · rintro ⟨j, a, b, c⟩
        rcases Nat.lt_or_ge j k with h2 | h2
        · exact Or.inl ⟨j, h2, b, c⟩
        · have : j = k := by omega
          subst this; exact Or.inr c
theorem selB_pw (f : Nat → Bool) : ∀ k, (selB f k).Pairwise (· < ·)
  | 0 => List.Pairwise.nil
  | k + 1 => by
    have ih := selB_pw f k
    rcases h : f k with _ | _
    · rw [selB_f h]; exact ih
    · rw [selB_t h, List.pairwise_append]
      refine ⟨ih, List.pairwise_singleton _ _, fun x hx y hy => ?_⟩
      obtain ⟨j, a, b, rfl⟩ := (selB_mem f k x).1 hx
      rw [List.mem_singleton] at hy
      subst hy
      omega
theorem int_ext : ∀ (us vs : List Int), us.Pairwise (· < ·) → vs.Pairwise (· < ·) → (∀ s, s ∈ us ↔ s ∈ vs) → us = vs
  | [], [], _, _, _ => rfl
  | [], v :: vs, _, _, h => absurd ((h v).2 (by simp)) (by simp)
  | u :: us, [], _, _, h => absurd ((h u).1 (by simp)) (by simp)
  | u :: us, v :: vs, hu, hv, h => by
    rw [List.pairwise_cons] at hu hv
    have e : u = v := by
      rcases List.mem_cons.1 ((h u).1 (by simp)) with e | e
      · exact e
      · rcases List.mem_cons.1 ((h v).2 (by simp)) with f | f
        · exact f.symm
        · have h1 := hv.1 u e
          have h2 := hu.1 v f
          omega
    subst e
    rw [int_ext us vs hu.2 hv.2 (fun s => ⟨fun hs => by
      rcases List.mem_cons.1 ((h s).1 (List.mem_cons_of_mem _ hs)) with e | e
      · subst e; have := hu.1 s hs; omega
      · exact e, fun hs => by
      rcases List.mem_cons.1 ((h s).2 (List.mem_cons_of_mem _ hs)) with e | e
      · subst e; have := hv.1 s hs; omega
      · exact e⟩)]
theorem marks_pw : ∀ {n last : Int} {xs : List Int}, marksF n last xs = true → xs.Pairwise (· < ·)
  | n, last, [], _ => List.Pairwise.nil
  | n, last, x :: xs, h => by
    unfold marksF at h
    simp only [Bool.and_eq_true, decide_eq_true_eq] at h
    exact List.pairwise_cons.2 ⟨fun y hy => (marks_in h.2.2 y hy).1, marks_pw h.2.2⟩
/-- The states of a list in ascending order are those of its set. -/
theorem selB_has {n : Nat} {xs : List Int} (n4 : n ≤ 4) (h : marksF (n : Int) (-1) xs = true) : selB (bAt (hasB xs 0) (hasB xs 1) (hasB xs 2) (hasB xs 3)) 4 = xs := by
  refine int_ext _ _ (selB_pw _ _) (marks_pw h) (fun x => ?_)
  rw [selB_mem]
  constructor
  · rintro ⟨j, a, b, rfl⟩
    have hj : j = 0 ∨ j = 1 ∨ j = 2 ∨ j = 3 := by omega
    rcases hj with rfl | rfl | rfl | rfl <;> exact List.contains_iff_mem.1 b
  · intro hx
    have h1 := marks_in h x hx
    have hj : x = 0 ∨ x = 1 ∨ x = 2 ∨ x = 3 := by omega
    rcases hj with rfl | rfl | rfl | rfl
    · exact ⟨0, by omega, List.contains_iff_mem.2 hx, rfl⟩
    · exact ⟨1, by omega, List.contains_iff_mem.2 hx, rfl⟩
    · exact ⟨2, by omega, List.contains_iff_mem.2 hx, rfl⟩
    · exact ⟨3, by omega, List.contains_iff_mem.2 hx, rfl⟩

theorem snoc_own {w : World} {B n : Nat} {x : Value} {zs : List Int} {z : Int} (h : w.ownsRow B 3 1 x n (zs.map (Value.int .i64) ++ [.int .i64 z])) (hn : n = zs.length + 1) : w.ownsRow B 3 1 x (zs ++ [z]).length ((zs ++ [z]).map (Value.int .i64)) := by
  subst hn
  rw [List.map_append, List.length_append]
  exact h
theorem lit_news (w : World) (cs : Array Value) (t : TypeId) : ∀ j u, cs.toList[j]? = some u → (w.alloc (.cells cs t)).cell? ((⟨w.heap.size, 0, none⟩ : Addr).add j) = some u := World.news_of_block (heap_alloc_new w _)
theorem info_step' : ∃ i, Tryd.prog.info? 75 = some i ∧ i.zero = some (.agg #[.int .i64 0, .string ByteArray.empty, .int .i64 0, .int .i64 0]) ∧ i.size = 4 ∧ i.bytes = 40 := by
  have h := info_step
  rw [Option.map_eq_some_iff] at h
  obtain ⟨i, h1, h2⟩ := h
  simp only [Prod.mk.injEq] at h2
  exact ⟨i, h1, h2.1, h2.2.1, h2.2.2⟩
theorem flatS_snoc (ss : List StepD) (s : StepD) : flatS (ss ++ [s]) = flatS ss ++ stepC s := by
  induction ss with
  | nil => simp [flatS, stepC]
  | cons t ts ih => simp [flatS, ih]
end Go.Proofs.YtfdbbopanankgaaDoor
