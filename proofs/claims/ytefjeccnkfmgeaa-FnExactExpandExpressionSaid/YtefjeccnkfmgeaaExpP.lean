/- Plain mathematics of expansions: what is repeated stands so many times. No condition. -/
import Derived.Test.YtefjeccnkfmgeaaBound
namespace Go.Proofs.Ytefjeccnkfmgeaa
open Go.RowKit
set_option linter.unusedVariables false

def repL (n : Nat) (l : List UInt8) : List UInt8 := (List.replicate n l).flatten
theorem repL_len (n : Nat) (l : List UInt8) : (repL n l).length = n * l.length := by
  unfold repL
  rw [List.length_flatten, List.map_replicate, List.sum_replicate_nat]
theorem repL_succ (n : Nat) (l : List UInt8) : repL (n + 1) l = repL n l ++ l := by
  unfold repL
  rw [List.replicate_succ', List.flatten_append]; simp
theorem repL_one (l : List UInt8) : repL 1 l = l := by simp [repL]
theorem repL_zero (l : List UInt8) : repL 0 l = [] := rfl
def expT (n : Nat) : Tx → List UInt8
  | .nil => []
  | .lit b r => chr b :: expT n r
  | .rep i r => repL n (expT n i) ++ expT n r
def expE (n : Nat) : Ex → List UInt8
  | .lit b => [chr b]
  | .join x y => expE n x ++ expE n y
  | .rep x => repL n (expE n x)
def accX (n : Nat) : Option Ex → List UInt8
  | none => []
  | some x => expE n x
theorem ex_exp (n : Nat) : ∀ (t : Tx) (acc : Option Ex) (y : Ex), t.ex acc = some y → expE n y = accX n acc ++ expT n t
  | .nil, acc, y, h => by
    have : acc = some y := h
    subst this
    simp [accX, expT]
  | .lit b r, acc, y, h => by
    rw [ex_exp n r _ y h]
    cases acc <;> simp [addE, accX, expE, expT]
  | .rep i r, acc, y, h => by
    simp only [Tx.ex] at h
    cases hi : i.ex none with
    | none => rw [hi] at h; cases h
    | some x =>
      rw [hi] at h
      have e1 := ex_exp n i none x hi
      simp only [accX, List.nil_append] at e1
      rw [ex_exp n r _ y h]
      cases acc <;> simp [addE, accX, expE, expT, e1]
/-- The weight with letters of weight 1 is the length, up to a million. -/
theorem times_len {n m : Nat} (hn : 1 ≤ n) : timesF n (min (m : Int) 1000000) = min ((n * m : Nat) : Int) 1000000 := by
  have hn0 : (0 : Int) ≤ (n : Int) := by omega
  have hv : vld (min (m : Int) 1000000) = true := vld_yes ⟨by omega, by omega⟩
  by_cases hz : m = 0
  · subst hz
    rw [timesF_zero hn0 hv (by omega)]
    simp only [Nat.mul_zero]
    omega
  · by_cases hm : m ≤ 1000000
    · have e : min (m : Int) 1000000 = m := by omega
      rw [e] at hv ⊢
      by_cases ho : (1000000 : Int) / m < n
      · rw [timesF_over hn0 hv (by omega) ho]
        have h1 : (1000000 : Int) < n * m := Int.lt_mul_of_ediv_lt (by omega) ho
        have h2 : ((n * m : Nat) : Int) = n * m := by push_cast; rfl
        omega
      · rw [timesF_in hn0 hv (by omega) ho]
        have h1 : (n : Int) * m ≤ 1000000 := Int.mul_le_of_le_ediv (by omega) (by omega)
        have h2 : ((n * m : Nat) : Int) = n * m := by push_cast; rfl
        omega
    · have e : min (m : Int) 1000000 = 1000000 := by omega
      rw [e] at hv ⊢
      have h3 : m ≤ n * m := Nat.le_mul_of_pos_left m hn
      by_cases ho : (1000000 : Int) / 1000000 < n
      · rw [timesF_over hn0 hv (by omega) ho]
        omega
      · rw [timesF_in hn0 hv (by omega) ho]
        have : (n : Int) = 1 := by
          have : (1000000 : Int) / 1000000 = 1 := by decide
          omega
        rw [this]
        omega
theorem weight_len {n : Nat} (hn : 1 ≤ n) : ∀ x : Ex, weightE 1 n x = min ((expE n x).length : Int) 1000000
  | .lit b => by simp only [weightE, expE, List.length_singleton]; omega
  | .join x y => by
    simp only [weightE, expE, weight_len hn x, weight_len hn y, List.length_append]
    omega
  | .rep x => by
    simp only [weightE, expE, weight_len hn x, repL_len]
    exact times_len hn
theorem weight_fits {n : Nat} (hn : 1 ≤ n) (x : Ex) : (1000 < weightE 1 n x) ↔ ¬ (expE n x).length ≤ 1000 := by
  rw [weight_len hn x]; omega
/-- How a text q tells a word W: whole, or too long as W is. -/
def Tells (W q : List UInt8) : Prop := (W.length ≤ 1000 → q = W) ∧ (¬ W.length ≤ 1000 → 1000 < q.length)
/-- A part's word has been written so many times as went in. -/
theorem step_fin {F O R W q : List UInt8} {T k : Nat} (hF : F = O ++ (repL T W ++ R)) (hq : Tells W q) (hT : 1 ≤ T) (hk : k ≤ T) (hend : k = T ∨ 1000 < (O ++ repL k q).length) :
    F = (O ++ repL k q) ++ R ∨ (1000 < (O ++ repL k q).length ∧ 1000 < F.length) := by
  have hFl : F.length = O.length + T * W.length + R.length := by rw [hF, List.length_append, List.length_append, repL_len]; omega
  have hOl : (O ++ repL k q).length = O.length + k * q.length := by rw [List.length_append, repL_len]
  by_cases hW : W.length ≤ 1000
  · have e := hq.1 hW
    subst e
    rcases hend with rfl | h
    · left; rw [hF, List.append_assoc]
    · right
      refine ⟨h, ?_⟩
      have : k * q.length ≤ T * q.length := Nat.mul_le_mul_right _ hk
      omega
  · have h1 := hq.2 hW
    right
    have h2 : W.length ≤ T * W.length := Nat.le_mul_of_pos_left _ hT
    refine ⟨?_, by omega⟩
    rcases hend with rfl | h
    · have h3 : q.length ≤ k * q.length := Nat.le_mul_of_pos_left _ hT
      omega
    · exact h
end Go.Proofs.Ytefjeccnkfmgeaa
