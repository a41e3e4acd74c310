/- Plain mathematics of texts of matrices of grades: rows of letters with strokes between them; no condition. -/
import Derived.Test.YtmdddjiegjcekaaDoorGr
import Derived.Lib.Join
namespace Go.Proofs.YtmdddjiegjcekaaDoor
open Go.RowKit
set_option linter.unusedVariables false

/-- The letter of a grade. -/
def gch (g : Int) : UInt8 := if g = 0 then 48 else if g = 1 then 49 else if g = 2 then 119 else 45
/-- Row i of numbers that stand row by row, and its letters. -/
def rowG (n : Nat) (zs : List Int) (i : Nat) : List Int := (zs.drop (i * n)).take n
def rowT (n : Nat) (zs : List Int) (i : Nat) : List UInt8 := (rowG n zs i).map gch
def rowsT (n : Nat) (zs : List Int) (k : Nat) : List (List UInt8) := (List.range k).map (rowT n zs)
theorem rowsT_succ (n : Nat) (zs : List Int) (k : Nat) : rowsT n zs (k + 1) = rowsT n zs k ++ [rowT n zs k] := by unfold rowsT; rw [List.range_succ, List.map_append]; rfl
theorem rowsT_len (n : Nat) (zs : List Int) (k : Nat) : (rowsT n zs k).length = k := by unfold rowsT; simp
theorem rowsT_at {n k i : Nat} (zs : List Int) (hi : i < k) : (rowsT n zs k).getD i [] = rowT n zs i := by
  unfold rowsT
  rw [List.getD_eq_getElem?_getD, List.getElem?_map, List.getElem?_range hi]; rfl
theorem rowG_len {n i : Nat} {zs : List Int} (h : (i + 1) * n ≤ zs.length) : (rowG n zs i).length = n := by
  unfold rowG
  rw [Nat.succ_mul] at h
  rw [List.length_take, List.length_drop]; omega
theorem rowT_len {n i : Nat} {zs : List Int} (h : (i + 1) * n ≤ zs.length) : (rowT n zs i).length = n := by unfold rowT; rw [List.length_map, rowG_len h]
theorem rowG_snoc {n i j : Nat} {zs : List Int} (h : (i + 1) * n ≤ zs.length) (hj : j < n) : (rowG n zs i).take (j + 1) = (rowG n zs i).take j ++ [zs.getD (i * n + j) 0] := by
  have hl := rowG_len h
  rw [List.take_succ_eq_append_getElem (by omega)]
  congr 2
  unfold rowG
  rw [Nat.succ_mul] at h
  rw [List.getElem_take, List.getElem_drop, List.getD_eq_getElem?_getD, List.getElem?_eq_getElem (by omega)]; rfl
theorem rowT_snoc {n i j : Nat} {zs : List Int} (h : (i + 1) * n ≤ zs.length) (hj : j < n) : (rowT n zs i).take (j + 1) = (rowT n zs i).take j ++ [gch (zs.getD (i * n + j) 0)] := by
  unfold rowT
  rw [← List.map_take, ← List.map_take, rowG_snoc h hj, List.map_append]; rfl
/-- The bytes of the text of a matrix of grades. -/
def gtxt (m : Int) (zs : List Int) : List UInt8 := if gradeOk m zs = true then Lib.join (rowsT m.toNat zs m.toNat) [47] else []
theorem gtxt_no {m : Int} {zs : List Int} (h : gradeOk m zs = false) : gtxt m zs = [] := by unfold gtxt; rw [h]; simp
theorem gtxt_ok {n : Nat} {zs : List Int} (h : gradeOk (n : Int) zs = true) : gtxt (n : Int) zs = Lib.join (rowsT n zs n) [47] := by unfold gtxt; rw [if_pos h, Int.toNat_natCast]
/-- The text of the first k numbers, a stroke ahead of each row but the first. -/
def tx (n : Nat) (zs : List Int) : Nat → List UInt8
  | 0 => []
  | k + 1 => tx n zs k ++ ((if 0 < k ∧ k % n = 0 then [47] else []) ++ [gch (zs.getD k 0)])
theorem joinTail_snoc (s x : List UInt8) : ∀ r : List (List UInt8), Lib.joinTail s (r ++ [x]) = Lib.joinTail s r ++ (s ++ x)
  | [] => by simp [Lib.joinTail]
  | a :: r => by
    have ih := joinTail_snoc s x r
    simp [Lib.joinTail] at ih ⊢
theorem join_snoc (s x : List UInt8) (l : List (List UInt8)) : Lib.join (l ++ [x]) s = if l = [] then x else Lib.join l s ++ (s ++ x) := by
  cases l with
  | nil => simp [Lib.join_one]
  | cons a r =>
    rw [List.cons_append, Lib.join_cons, joinTail_snoc, if_neg (by simp), Lib.join_cons, List.append_assoc]
theorem tx_row {n : Nat} {zs : List Int} (n1 : 1 ≤ n) : ∀ i j, (i + 1) * n ≤ zs.length → j < n → tx n zs (i * n + (j + 1)) = Lib.join (rowsT n zs i ++ [(rowT n zs i).take (j + 1)]) [47]
  | 0, j, h, hj => by
    have h0 : rowsT n zs 0 = [] := rfl
    rw [h0, List.nil_append, Lib.join_one, Nat.zero_mul, Nat.zero_add]
    induction j with
    | zero =>
      rw [rowT_snoc h hj]
      simp [tx]
    | succ j ih =>
      rw [rowT_snoc h hj, ← ih (by omega), tx, if_neg (by rw [Nat.mod_eq_of_lt hj]; omega), List.nil_append, Nat.zero_mul, Nat.zero_add]
  | i + 1, j, h, hj => by
    have hi : (i + 1) * n ≤ zs.length := by rw [Nat.succ_mul (i + 1)] at h; omega
    induction j with
    | zero =>
      have h1 := tx_row n1 i (n - 1) hi (by omega)
      have e1 : i * n + (n - 1 + 1) = (i + 1) * n := by rw [Nat.succ_mul]; omega
      rw [e1, List.take_of_length_le (by rw [rowT_len hi]; omega), ← rowsT_succ] at h1
      have e2 : (i + 1) * n % n = 0 := Nat.mul_mod_left _ _
      have e3 : 0 < (i + 1) * n := Nat.mul_pos (Nat.succ_pos i) n1
      have hne : ¬ rowsT n zs (i + 1) = [] := by intro e; have := congrArg List.length e; rw [rowsT_len] at this; simp at this
      rw [← Nat.add_assoc, Nat.add_zero, tx, if_pos ⟨e3, e2⟩, h1, join_snoc, if_neg hne, rowT_snoc h hj]
      simp
    | succ j ih =>
      have e2 : ((i + 1) * n + (j + 1)) % n = j + 1 := by rw [Nat.mul_comm, Nat.mul_add_mod, Nat.mod_eq_of_lt hj]
      have hne : ¬ rowsT n zs (i + 1) = [] := by intro e; have := congrArg List.length e; rw [rowsT_len] at this; simp at this
      have h1 := ih (by omega)
      rw [join_snoc, if_neg hne] at h1
      rw [← Nat.add_assoc, tx, if_neg (by omega), List.nil_append, h1, join_snoc, if_neg hne, rowT_snoc h hj]
      simp
theorem tx_all {n : Nat} {zs : List Int} (n1 : 1 ≤ n) (h : zs.length = n * n) : tx n zs (n * n) = Lib.join (rowsT n zs n) [47] := by
  obtain ⟨i, rfl⟩ : ∃ i, n = i + 1 := ⟨n - 1, by omega⟩
  have h1 := tx_row (zs := zs) n1 i i (by omega) (by omega)
  have e1 : i * (i + 1) + (i + 1) = (i + 1) * (i + 1) := by rw [Nat.succ_mul]
  rw [e1, List.take_of_length_le (by rw [rowT_len (by omega)]; omega), ← rowsT_succ] at h1
  exact h1
theorem tx_len (n : Nat) (zs : List Int) : ∀ k, (tx n zs k).length ≤ 2 * k
  | 0 => by simp [tx]
  | k + 1 => by
    have := tx_len n zs k
    unfold tx
    split <;> simp <;> omega
end Go.Proofs.YtmdddjiegjcekaaDoor
