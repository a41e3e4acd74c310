/- Plain mathematics of texts of matrices: what is written is read again, and what is read is written again; no condition. -/
import Derived.Test.YtonnolpjfjbjpaaDoorRound
import Derived.Test.YtonnolpjfjbjpaaDoorMat
namespace Go.Proofs.YtonnolpjfjbjpaaDoor
open Go.RowKit
set_option linter.unusedVariables false

theorem jt_cons (c : UInt8) (y : List UInt8) (r : List (List UInt8)) : Lib.joinTail [c] (y :: r) = c :: (y ++ Lib.joinTail [c] r) := by simp [Lib.joinTail]
theorem cut_join_c (c : UInt8) : ∀ (r : List (List UInt8)) (x : List UInt8), (∀ y ∈ x :: r, ∀ b ∈ y, ¬ b = c) → cutL c (x ++ Lib.joinTail [c] r) = x :: r
  | [], x, h => by
    have e : Lib.joinTail [c] ([] : List (List UInt8)) = [] := rfl
    rw [e, List.append_nil]; exact cut_none x (h x (by simp))
  | y :: r, x, h => by
    rw [jt_cons, cut_at _ x (h x (by simp)), cut_join_c c r y (fun z hz => h z (by simp at hz ⊢; exact Or.inr hz))]
theorem join_tail_c (c : UInt8) (y : List UInt8) (r : List (List UInt8)) : Lib.joinTail [c] (y :: r) = c :: Lib.join (y :: r) [c] := by rw [jt_cons, Lib.join_cons]
theorem join_cut_c (c : UInt8) : ∀ l : List UInt8, Lib.join (cutL c l) [c] = l
  | [] => by simp [cutL, Lib.join_one]
  | b :: l => by
    have ih := join_cut_c c l
    cases hc : cutL c l with
    | nil => exact absurd hc (cutL_ne _ _)
    | cons p ps =>
      rw [hc] at ih
      by_cases h : b = c
      · rw [cut_hit _ h, hc, Lib.join_cons, join_tail_c, ih, h]; rfl
      · rw [cut_miss _ h, hc]
        show Lib.join (([b] ++ p) :: ps) [c] = b :: l
        rw [Lib.join_cons, List.append_assoc, ← Lib.join_cons, ih]; rfl
theorem cut_of_join {c : UInt8} {L : List (List UInt8)} (hn : ¬ L = []) (h : ∀ y ∈ L, ∀ b ∈ y, ¬ b = c) : cutL c (Lib.join L [c]) = L := by
  cases L with
  | nil => exact absurd rfl hn
  | cons x r => rw [Lib.join_cons]; exact cut_join_c c r x h

/-- No text of costs has a stroke. -/
theorem fmt_strokeless (a : Int) : ∀ b ∈ fmtF a, ¬ b = 47 := by
  intro b hb he
  subst he
  unfold fmtF at hb
  split at hb
  · split at hb
    · exact absurd hb (by decide)
    · exact absurd (dec_digs _ _ hb) (by decide)
  · cases hb
theorem mem_joinTail {c b : UInt8} : ∀ (r : List (List UInt8)), b ∈ Lib.joinTail [c] r → b = c ∨ ∃ y ∈ r, b ∈ y
  | [], h => by cases h
  | y :: r, h => by
    rw [jt_cons] at h
    rcases List.mem_cons.1 h with h | h
    · exact Or.inl h
    · rcases List.mem_append.1 h with h | h
      · exact Or.inr ⟨y, by simp, h⟩
      · rcases mem_joinTail r h with h | ⟨z, hz, hb⟩
        · exact Or.inl h
        · exact Or.inr ⟨z, by simp [hz], hb⟩
theorem mem_join {c b : UInt8} (L : List (List UInt8)) (h : b ∈ Lib.join L [c]) : b = c ∨ ∃ y ∈ L, b ∈ y := by
  cases L with
  | nil => rw [Lib.join_nil] at h; cases h
  | cons x r =>
    rw [Lib.join_cons] at h
    rcases List.mem_append.1 h with h | h
    · exact Or.inr ⟨x, by simp, h⟩
    · rcases mem_joinTail r h with h | ⟨z, hz, hb⟩
      · exact Or.inl h
      · exact Or.inr ⟨z, by simp [hz], hb⟩
theorem costs_strokeless (zs : List Int) : ∀ b ∈ costsF zs, ¬ b = 47 := by
  intro b hb he
  unfold costsF at hb
  split at hb
  · rcases mem_join _ hb with h | ⟨y, hy, h⟩
    · subst he; exact absurd h (by decide)
    · obtain ⟨a, _, rfl⟩ := List.mem_map.1 hy
      exact fmt_strokeless a b h he
  · cases hb

/-- Row i of numbers that stand row by row. -/
def rowL (n : Nat) (zs : List Int) (i : Nat) : List Int := (zs.drop (i * n)).take n
/-- The texts of the first k rows. -/
def rowsF (n : Nat) (zs : List Int) (k : Nat) : List (List UInt8) := (List.range k).map fun i => costsF (rowL n zs i)
theorem rowsF_succ (n : Nat) (zs : List Int) (k : Nat) : rowsF n zs (k + 1) = rowsF n zs k ++ [costsF (rowL n zs k)] := by unfold rowsF; rw [List.range_succ, List.map_append]; rfl
theorem rowsF_len (n : Nat) (zs : List Int) (k : Nat) : (rowsF n zs k).length = k := by unfold rowsF; simp
/-- The bytes of the text of a matrix. -/
def matF (m : Int) (zs : List Int) : List UInt8 := if matOk m zs = true then Lib.join (rowsF m.toNat zs m.toNat) [47] else []
theorem matF_no {m : Int} {zs : List Int} (h : matOk m zs = false) : matF m zs = [] := by unfold matF; rw [h]; simp
theorem matF_ok {n : Nat} {zs : List Int} (h : matOk (n : Int) zs = true) : matF (n : Int) zs = Lib.join (rowsF n zs n) [47] := by unfold matF; rw [if_pos h, Int.toNat_natCast]

/-- What rows read as. -/
def pM (n : Nat) : List (List UInt8) → Option (List Int)
  | [] => some []
  | p :: ps => match parsesF p with
    | none => none
    | some us => if us.length = n then (pM n ps).map (us ++ ·) else none
theorem pM_bad {n : Nat} {p : List UInt8} (ps : List (List UInt8)) (h : parsesF p = none) : pM n (p :: ps) = none := by simp [pM, h]
theorem pM_len_ {n : Nat} {p : List UInt8} {us : List Int} (ps : List (List UInt8)) (h : parsesF p = some us) (hn : ¬ us.length = n) : pM n (p :: ps) = none := by simp [pM, h, hn]
theorem pM_good {n : Nat} {p : List UInt8} {us : List Int} (ps : List (List UInt8)) (h : parsesF p = some us) (hn : us.length = n) : pM n (p :: ps) = (pM n ps).map (us ++ ·) := by simp [pM, h, hn]
/-- What a text of a matrix reads as. -/
def parseM (l : List UInt8) : Option (Int × List Int) := if (cutL 47 l).length ≤ 4 then (pM (cutL 47 l).length (cutL 47 l)).map fun zs => (((cutL 47 l).length : Int), zs) else none

theorem rowL_zero (n : Nat) (us vs : List Int) (h : us.length = n) : rowL n (us ++ vs) 0 = us := by
  unfold rowL
  rw [Nat.zero_mul, List.drop_zero, List.take_append_of_le_length (by omega), List.take_of_length_le (by omega)]
theorem rowL_succ (n i : Nat) (us vs : List Int) (h : us.length = n) : rowL n (us ++ vs) (i + 1) = rowL n vs i := by
  unfold rowL
  rw [Nat.succ_mul, Nat.add_comm (i * n) n, ← List.drop_drop, ← h, List.drop_left]
theorem rowsF_cons (n k : Nat) (us vs : List Int) (h : us.length = n) : rowsF n (us ++ vs) (k + 1) = costsF us :: rowsF n vs k := by
  unfold rowsF
  rw [List.range_succ_eq_map, List.map_cons, rowL_zero n us vs h, List.map_map]
  congr 1
  apply List.map_congr_left
  intro i _
  show costsF (rowL n (us ++ vs) (i + 1)) = _
  rw [rowL_succ n i us vs h]

theorem pM_read : ∀ (n : Nat) (L : List (List UInt8)) (zs : List Int), pM n L = some zs → zs.length = L.length * n ∧ allV zs = true ∧ rowsF n zs L.length = L
  | n, [], zs, h => by simp [pM] at h; subst h; exact ⟨by simp, rfl, rfl⟩
  | n, p :: ps, zs, h => by
    cases hr : parsesF p with
    | none => rw [pM_bad ps hr] at h; cases h
    | some us =>
      by_cases hn : us.length = n
      · rw [pM_good ps hr hn] at h
        cases hp : pM n ps with
        | none => rw [hp] at h; cases h
        | some vs =>
          rw [hp] at h
          simp at h
          subst h
          obtain ⟨h1, h2, h3⟩ := pM_read n ps vs hp
          obtain ⟨h4, h5⟩ := costs_parses hr
          refine ⟨by rw [List.length_append, h1, hn, List.length_cons, Nat.succ_mul]; omega, by simp [allV] at h2 h4 ⊢; exact ⟨h4, h2⟩, ?_⟩
          rw [List.length_cons, rowsF_cons n _ us vs hn, h3, h5]
      · rw [pM_len_ ps hr hn] at h; cases h
theorem pM_fmt : ∀ (n k : Nat) (zs : List Int), zs.length = k * n → allV zs = true → pM n (rowsF n zs k) = some zs
  | n, 0, zs, hl, _ => by
    have : zs = [] := List.eq_nil_of_length_eq_zero (by rw [hl]; simp)
    subst this; rfl
  | n, k + 1, zs, hl, hv => by
    rw [Nat.succ_mul] at hl
    have hn : (zs.take n).length = n := by rw [List.length_take]; omega
    have e : zs = zs.take n ++ zs.drop n := (List.take_append_drop n zs).symm
    have hv1 : allV (zs.take n) = true := by simp [allV] at hv ⊢; intro x hx; exact hv x (List.mem_of_mem_take hx)
    have hv2 : allV (zs.drop n) = true := by simp [allV] at hv ⊢; intro x hx; exact hv x (List.mem_of_mem_drop hx)
    have h2 := pM_fmt n k (zs.drop n) (by rw [List.length_drop]; omega) hv2
    rw [e, rowsF_cons n k _ _ hn, pM_good _ (parses_costs hv1) hn, h2]
    simp
theorem parse_mat {m : Int} {zs : List Int} (h : matOk m zs = true) : parseM (matF m zs) = some (m, zs) := by
  obtain ⟨n, rfl, mv⟩ := matOk_t h
  have n1 := mv.lo
  have n2 := mv.hi
  rw [matF_ok h]
  have hc : cutL 47 (Lib.join (rowsF n zs n) [47]) = rowsF n zs n := by
    apply cut_of_join
    · intro he; have := congrArg List.length he; rw [rowsF_len] at this; simp at this; omega
    · intro y hy b hb
      unfold rowsF at hy
      obtain ⟨i, _, rfl⟩ := List.mem_map.1 hy
      exact costs_strokeless _ b hb
  have hv : allV zs = true := by
    have h' := h
    rw [matOk_all ⟨by omega, by omega⟩ (by rw [mv.len]; simp)] at h'
    exact h'
  unfold parseM
  rw [hc, rowsF_len, if_pos n2, pM_fmt n n zs mv.len hv]
  rfl
theorem mat_parse {l : List UInt8} {m : Int} {zs : List Int} (h : parseM l = some (m, zs)) : matOk m zs = true ∧ matF m zs = l := by
  unfold parseM at h
  split at h
  · rename_i h4
    cases hp : pM (cutL 47 l).length (cutL 47 l) with
    | none => rw [hp] at h; cases h
    | some us =>
      rw [hp] at h
      simp at h
      obtain ⟨rfl, rfl⟩ := h
      obtain ⟨h1, h2, h3⟩ := pM_read _ _ _ hp
      have hpos : 1 ≤ (cutL 47 l).length := by
        have : ¬ (cutL 47 l).length = 0 := fun h0 => cutL_ne 47 l (List.eq_nil_of_length_eq_zero h0)
        omega
      have hok : matOk ((cutL 47 l).length : Int) us = true := by
        rw [matOk_all ⟨by omega, by omega⟩ (by rw [h1]; simp)]
        exact h2
      exact ⟨hok, by rw [matF_ok hok, h3, join_cut_c]⟩
  · cases h
end Go.Proofs.YtonnolpjfjbjpaaDoor
