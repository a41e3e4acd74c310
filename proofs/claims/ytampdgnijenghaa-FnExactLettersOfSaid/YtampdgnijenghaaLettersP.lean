/- Plain: letters sorted, and what is left of them when neighbours that are equal become one. -/
import Derived.Lib.SlicesCompact
namespace Go.Proofs.Ytampdgnijenghaa
open Go Go.Lib
set_option maxHeartbeats 1000000
set_option linter.unusedVariables false

abbrev LA : List UInt8 := [97]
abbrev LB : List UInt8 := [98]
theorem la_lb : (LA ≤ LB) := by decide
theorem not_ba : ¬ (LB ≤ LA) := by decide
theorem two_sorted : ∀ (l : List (List UInt8)), (∀ x ∈ l, x = LA ∨ x = LB) → l.Pairwise (fun x y => x ≤ y) → ∃ p q, l = List.replicate p LA ++ List.replicate q LB
  | [], _, _ => ⟨0, 0, rfl⟩
  | x :: t, h, hp => by
    obtain ⟨h1, h2⟩ := List.pairwise_cons.1 hp
    obtain ⟨p, q, e⟩ := two_sorted t (fun y hy => h y (List.mem_cons_of_mem _ hy)) h2
    rcases h x (by simp) with hx | hx
    · exact ⟨p + 1, q, by rw [e, hx, List.replicate_succ]; rfl⟩
    · have hb : ∀ y ∈ t, y = LB := fun y hy => by
        rcases h y (List.mem_cons_of_mem _ hy) with e | e
        · have := h1 y hy
          rw [hx, e] at this
          exact absurd this not_ba
        · exact e
      refine ⟨0, t.length + 1, ?_⟩
      rw [hx, List.eq_replicate_of_mem hb]
      simp [List.replicate_succ]
theorem rep_get (p q m : Nat) (h : m < p + q) : (List.replicate p LA ++ List.replicate q LB).toArray[m]! = if m < p then LA else LB := by
  rw [getElem!_pos _ m (by simp; omega)]
  simp only [List.getElem_toArray]
  by_cases hm : m < p
  · rw [List.getElem_append_left (by simpa using hm), if_pos hm]; simp
  · rw [List.getElem_append_right (by simp; omega), if_neg hm]; simp
theorem compact_rep (p q : Nat) : ∀ m, m ≤ p + q → compactUpTo (List.replicate p LA ++ List.replicate q LB).toArray m = (if 0 < m ∧ 0 < p then [LA] else []) ++ (if p < m then [LB] else [])
  | 0, _ => by simp [compactUpTo]
  | m + 1, h => by
    rw [compactUpTo_succ, compact_rep p q m (by omega), rep_get p q m (by omega)]
    unfold keeps
    rcases Nat.eq_zero_or_pos m with h0 | h0
    · subst h0
      by_cases hp : 0 < p
      · simp [hp, show ¬ p < 0 + 1 by omega]
      · have : p = 0 := by omega
        subst this
        simp
    · rw [rep_get p q m (by omega), rep_get p q (m - 1) (by omega)]
      by_cases h1 : m < p
      · rw [if_pos h1, if_pos (show m - 1 < p by omega)]
        have : ¬ p < m := by omega
        have : ¬ p < m + 1 := by omega
        simp [*]
        omega
      · rw [if_neg h1]
        by_cases h2 : m - 1 < p
        · have : m = p := by omega
          subst this
          rw [if_pos h2]
          have hne : LB ≠ LA := by decide
          simp [h0, hne]
        · rw [if_neg h2]
          have e1 : p < m := by omega
          have e2 : p < m + 1 := by omega
          simp [e1, e2, h0]
          intro hm
          omega
theorem letters_sorted (l : List (List UInt8)) (h : ∀ x ∈ l, x = LA ∨ x = LB) :
    compact (l.mergeSort fun x y => decide (x ≤ y)) = (if LA ∈ l then [LA] else []) ++ (if LB ∈ l then [LB] else []) := by
  have hs : (l.mergeSort fun x y => decide (x ≤ y)).Pairwise (fun x y => x ≤ y) := by
    have := List.pairwise_mergeSort (le := fun x y : List UInt8 => decide (x ≤ y)) (fun a b c h1 h2 => by simp at *; exact List.le_trans h1 h2) (fun a b => by simp; exact List.le_total a b) l
    exact this.imp (by simp)
  obtain ⟨p, q, e⟩ := two_sorted _ (fun x hx => h x (List.mem_mergeSort.1 hx)) hs
  have ha : LA ∈ l ↔ 0 < p := by
    rw [← List.mem_mergeSort (le := fun x y : List UInt8 => decide (x ≤ y)), e]
    simp [List.mem_replicate]
    omega
  have hb : LB ∈ l ↔ 0 < q := by
    rw [← List.mem_mergeSort (le := fun x y : List UInt8 => decide (x ≤ y)), e]
    simp [List.mem_replicate]
    omega
  rw [e]
  unfold compact
  rw [List.length_append, List.length_replicate, List.length_replicate, compact_rep p q (p + q) (Nat.le_refl _)]
  congr 1
  · by_cases hp : 0 < p
    · rw [if_pos ⟨by omega, hp⟩, if_pos (ha.2 hp)]
    · rw [if_neg (by omega), if_neg (fun h => hp (ha.1 h))]
  · by_cases hq : 0 < q
    · rw [if_pos (by omega), if_pos (hb.2 hq)]
    · rw [if_neg (by omega), if_neg (fun h => hq (hb.1 h))]
end Go.Proofs.Ytampdgnijenghaa
