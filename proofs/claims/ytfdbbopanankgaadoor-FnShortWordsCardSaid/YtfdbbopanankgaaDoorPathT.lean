/- Plain mathematics of costs along a word: the costs of all states after each letter are the least ones of rows of the product of the letters' matrices. Condition: all are costs. -/
import Derived.Test.YtfdbbopanankgaaDoorStepM
import Derived.Test.YtfdbbopanankgaaDoorWordT
namespace Go.Proofs.YtfdbbopanankgaaDoor
open Go.RowKit
set_option maxHeartbeats 1000000
set_option linter.unusedVariables false

abbrev VF := Nat → Int
/-- All four are costs, and those of no state can't be had. -/
def InV (n : Nat) (v : VF) : Prop := ∀ k, 0 ≤ v k ∧ v k ≤ 1000000 ∧ (n ≤ k → v k = 1000000)
def startV (xs : List Int) : VF := fun p => if hasB xs p = true then 0 else 1000000
def nextV (n : Nat) (m : MF) (v : VF) : VF := fun k => if k < n then dot v (fun l => m l k) n else 1000000
def leastV (ys : List Int) (v : VF) : Nat → Int
  | 0 => 1000000
  | q + 1 => if hasB ys q = true then min (leastV ys v q) (v q) else leastV ys v q
theorem le_leastV (ys : List Int) (v : VF) (x : Int) : ∀ q : Nat, x ≤ leastV ys v q ↔ x ≤ 1000000 ∧ ∀ k : Nat, k < q → (k : Int) ∈ ys → x ≤ v k
  | 0 => by simp [leastV]
  | q + 1 => by
    have ih := le_leastV ys v x q
    unfold leastV
    by_cases h : hasB ys q = true
    · have hm : (q : Int) ∈ ys := by unfold hasB at h; exact List.contains_iff_mem.1 h
      rw [if_pos h]
      constructor
      · intro hx
        have h1 := ih.1 (by omega)
        refine ⟨h1.1, fun k hk hy => ?_⟩
        by_cases e : k = q
        · subst e; omega
        · exact h1.2 k (by omega) hy
      · rintro ⟨h1, h2⟩
        have := ih.2 ⟨h1, fun k hk hy => h2 k (by omega) hy⟩
        have := h2 q (by omega) hm
        omega
    · rw [if_neg h]
      have hm : ¬ (q : Int) ∈ ys := fun hm => h (by unfold hasB; exact List.contains_iff_mem.2 hm)
      rw [ih]
      constructor
      · rintro ⟨h1, h2⟩
        refine ⟨h1, fun k hk hy => ?_⟩
        by_cases e : k = q
        · subst e; exact absurd hy hm
        · exact h2 k (by omega) hy
      · rintro ⟨h1, h2⟩
        exact ⟨h1, fun k hk hy => h2 k (by omega) hy⟩
theorem startV_in {n : Nat} {xs : List Int} (h : ∀ x ∈ xs, 0 ≤ x ∧ x < (n : Int)) : InV n (startV xs) := fun k => by
  unfold startV
  split
  · rename_i hb
    have hm : (k : Int) ∈ xs := by unfold hasB at hb; exact List.contains_iff_mem.1 hb
    have := h _ hm
    exact ⟨by omega, by omega, fun hn => by omega⟩
  · exact ⟨by omega, by omega, fun _ => rfl⟩
theorem nextV_in {n : Nat} {m : MF} {v : VF} (hm : InR n m) (hv : InV n v) : InV n (nextV n m v) := fun k => by
  unfold nextV
  split
  · rename_i hk
    exact ⟨dot_ge (fun l hl => (hv l).1) (fun l hl => (hm l k hl hk).1), dot_le _ _ _, fun hn => by omega⟩
  · exact ⟨by omega, by omega, fun _ => rfl⟩
/-- The vector's number at k is the least one of those of the matrix's rows of xs. -/
def RowsOf (n : Nat) (xs : List Int) (v : VF) (m : MF) : Prop := ∀ k, k < n → ∀ x : Int, x ≤ v k ↔ x ≤ 1000000 ∧ ∀ i : Nat, (i : Int) ∈ xs → x ≤ m i k
theorem rows_start {n : Nat} {xs : List Int} : RowsOf n xs (startV xs) unitF := fun k hk x => by
  unfold startV
  by_cases h : hasB xs k = true
  · have hm : (k : Int) ∈ xs := by unfold hasB at h; exact List.contains_iff_mem.1 h
    rw [if_pos h]
    constructor
    · intro hx
      refine ⟨by omega, fun i hi => ?_⟩
      unfold unitF; split <;> omega
    · rintro ⟨_, h2⟩
      have := h2 k hm
      unfold unitF at this
      rw [if_pos rfl] at this
      exact this
  · have hm : ¬ (k : Int) ∈ xs := fun hm => h (by unfold hasB; exact List.contains_iff_mem.2 hm)
    rw [if_neg h]
    constructor
    · intro hx
      refine ⟨hx, fun i hi => ?_⟩
      have : i ≠ k := fun e => hm (by rw [← e]; exact hi)
      unfold unitF
      rw [if_neg this]; exact hx
    · exact fun h => h.1
theorem rows_next {n : Nat} {xs : List Int} {v : VF} {m l : MF} (hl : InR n l) (h : RowsOf n xs v m) : RowsOf n xs (nextV n l v) (mulF n m l) := fun k hk x => by
  unfold nextV mulF
  rw [if_pos hk, le_dot]
  constructor
  · rintro ⟨hx, h1⟩
    refine ⟨hx, fun i hi => ?_⟩
    rw [le_dot]
    refine ⟨hx, fun j hj => ?_⟩
    have h2 : x ≤ v j + l j k := h1 j hj
    have h3 := ((h j hj (x - l j k)).1 (by omega)).2 i hi
    show x ≤ m i j + l j k
    omega
  · rintro ⟨hx, h1⟩
    refine ⟨hx, fun j hj => ?_⟩
    have h3 := (h j hj (x - l j k)).2 ⟨by have := (hl j k hj hk).1; omega, fun i hi => by
      have := ((le_dot _ _ _ _).1 (h1 i hi)).2 j hj
      have h4 : x ≤ m i j + l j k := this
      omega⟩
    show x ≤ v j + l j k
    omega
theorem rows_congr {n : Nat} {xs : List Int} {v : VF} {m m' : MF} (hx : ∀ x ∈ xs, 0 ≤ x ∧ x < (n : Int)) (he : ∀ i k, i < n → k < n → m i k = m' i k) (h : RowsOf n xs v m) : RowsOf n xs v m' := fun k hk x => by
  rw [h k hk x]
  constructor
  · rintro ⟨h1, h2⟩
    exact ⟨h1, fun i hi => by rw [← he i k (by have := hx _ hi; omega) hk]; exact h2 i hi⟩
  · rintro ⟨h1, h2⟩
    exact ⟨h1, fun i hi => by rw [he i k (by have := hx _ hi; omega) hk]; exact h2 i hi⟩

/-- The costs of all states behind some letters. -/
def alongV (n : Nat) (ss : List StepD) (xs : List Int) (l : List UInt8) : VF := l.foldl (fun v b => nextV n (cellF (costAt ss) (ltr b)) v) (startV xs)
/-- The product of the letters' matrices. -/
def prodL (n : Nat) (ss : List StepD) (l : List UInt8) : List Int := l.foldl (fun m b => mulL n m (stepL n ss (ltr b))) (unitL n)
theorem alongV_snoc (n : Nat) (ss : List StepD) (xs : List Int) (l : List UInt8) (b : UInt8) : alongV n ss xs (l ++ [b]) = nextV n (cellF (costAt ss) (ltr b)) (alongV n ss xs l) := by unfold alongV; rw [List.foldl_append]; rfl
theorem prodL_snoc (n : Nat) (ss : List StepD) (l : List UInt8) (b : UInt8) : prodL n ss (l ++ [b]) = mulL n (prodL n ss l) (stepL n ss (ltr b)) := by unfold prodL; rw [List.foldl_append]; rfl
theorem cellF_in {n : Nat} {ss : List StepD} (hok : ∀ s ∈ ss, stepOk n s = true) (l : ByteArray) : InR n (cellF (costAt ss) l) := fun i k _ _ => by
  unfold cellF
  rcases h : costAt ss i l k with _ | c
  · exact ⟨by simp, by simp⟩
  · have := costAt_in hok h
    simp only [Option.getD_some]; omega
theorem stepL_ok {n : Nat} {ss : List StepD} (n1 : 1 ≤ n) (n2 : n ≤ 4) (hok : ∀ s ∈ ss, stepOk n s = true) (l : ByteArray) : MV n (stepL n ss l) := MV.of_ n1 n2 (cellF_in hok l)
theorem snoc_ind {P : List UInt8 → Prop} (h0 : P []) (h1 : ∀ l b, P l → P (l ++ [b])) : ∀ (k : Nat) (l : List UInt8), l.length = k → P l
  | 0, l, hl => by rw [List.eq_nil_of_length_eq_zero hl]; exact h0
  | k + 1, l, hl => by
    have hne : l ≠ [] := fun e => by rw [e] at hl; cases hl
    have e : l = l.dropLast ++ [l.getLast hne] := (List.dropLast_concat_getLast hne).symm
    rw [e]
    exact h1 _ _ (snoc_ind h0 h1 k _ (by simp; omega))
theorem prodL_ok {n : Nat} {ss : List StepD} (n1 : 1 ≤ n) (n2 : n ≤ 4) (hok : ∀ s ∈ ss, stepOk n s = true) (l : List UInt8) : MV n (prodL n ss l) :=
  snoc_ind (P := fun l => MV n (prodL n ss l)) (unitL_ok n1 n2) (fun l b h => by rw [prodL_snoc]; exact mulL_ok h (stepL_ok n1 n2 hok _)) _ l rfl
theorem alongV_in {n : Nat} {ss : List StepD} {xs : List Int} (hx : ∀ x ∈ xs, 0 ≤ x ∧ x < (n : Int)) (hok : ∀ s ∈ ss, stepOk n s = true) (l : List UInt8) : InV n (alongV n ss xs l) :=
  snoc_ind (P := fun l => InV n (alongV n ss xs l)) (startV_in hx) (fun l b h => by rw [alongV_snoc]; exact nextV_in (cellF_in hok _) h) _ l rfl
theorem along_rows {n : Nat} {ss : List StepD} {xs : List Int} (hx : ∀ x ∈ xs, 0 ≤ x ∧ x < (n : Int)) (hok : ∀ s ∈ ss, stepOk n s = true) (l : List UInt8) : RowsOf n xs (alongV n ss xs l) (cel n (prodL n ss l)) :=
  snoc_ind (P := fun l => RowsOf n xs (alongV n ss xs l) (cel n (prodL n ss l)))
    (rows_congr hx (fun i k hi hk => (cel_ofF _ hi hk).symm) rows_start)
    (fun l b h => by
      rw [alongV_snoc, prodL_snoc]
      refine rows_congr hx (fun i k hi hk => ?_) (rows_next (cellF_in hok _) h)
      unfold mulL
      rw [cel_ofF _ hi hk]
      exact mulF_cel (fun _ _ _ _ => rfl) (fun i k hi hk => by unfold stepL; rw [cel_ofF _ hi hk]) hi hk) _ l rfl

/-- The least cost from xs to ys in a matrix, in the model's order. -/
def leastYF (n : Nat) (zs : List Int) (i : Int) : Int → List Int → Int
  | acc, [] => acc
  | acc, y :: ys => leastYF n zs i (min acc (zs.getD (i * n + y).toNat 0)) ys
def leastXF (n : Nat) (zs ys : List Int) : Int → List Int → Int
  | acc, [] => acc
  | acc, x :: xs => leastXF n zs ys (leastYF n zs x acc ys) xs
theorem le_leastYF (n : Nat) (zs : List Int) (i x : Int) : ∀ (ys : List Int) (acc : Int), x ≤ leastYF n zs i acc ys ↔ x ≤ acc ∧ ∀ y ∈ ys, x ≤ zs.getD (i * n + y).toNat 0
  | [], acc => by simp [leastYF]
  | y :: ys, acc => by
    unfold leastYF
    rw [le_leastYF n zs i x ys]
    simp only [List.mem_cons, forall_eq_or_imp]
    constructor
    · rintro ⟨h1, h2⟩; exact ⟨by omega, by omega, h2⟩
    · rintro ⟨h1, h2, h3⟩; exact ⟨by omega, h3⟩
theorem le_leastXF (n : Nat) (zs ys : List Int) (x : Int) : ∀ (xs : List Int) (acc : Int), x ≤ leastXF n zs ys acc xs ↔ x ≤ acc ∧ ∀ i ∈ xs, ∀ y ∈ ys, x ≤ zs.getD (i * n + y).toNat 0
  | [], acc => by simp [leastXF]
  | i :: xs, acc => by
    unfold leastXF
    rw [le_leastXF n zs ys x xs, le_leastYF]
    simp only [List.mem_cons, forall_eq_or_imp]
    constructor
    · rintro ⟨⟨h1, h2⟩, h3⟩; exact ⟨h1, h2, h3⟩
    · rintro ⟨h1, h2, h3⟩; exact ⟨⟨h1, h2⟩, h3⟩
/-- What a word costs. -/
def costF (n : Nat) (xs ys : List Int) (ss : List StepD) (l : List UInt8) : Int := leastV ys (alongV n ss xs l) 4
theorem cost_eq {n : Nat} {xs ys : List Int} {ss : List StepD} (n2 : n ≤ 4) (hx : ∀ x ∈ xs, 0 ≤ x ∧ x < (n : Int)) (hy : ∀ y ∈ ys, 0 ≤ y ∧ y < (n : Int)) (hok : ∀ s ∈ ss, stepOk n s = true) (l : List UInt8) :
    leastXF n (prodL n ss l) ys 1000000 xs = costF n xs ys ss l := by
  apply eq_of_le
  intro x
  unfold costF
  rw [le_leastXF, le_leastV]
  have hr := along_rows hx hok l
  constructor
  · rintro ⟨h1, h2⟩
    refine ⟨h1, fun k hk hky => ?_⟩
    have hkn := hy _ hky
    refine (hr k (by omega) x).2 ⟨h1, fun i hi => ?_⟩
    have h3 := h2 _ hi _ hky
    have e : ((i : Int) * n + k).toNat = i * n + k := by rw [← Int.natCast_mul]; omega
    rw [e] at h3
    exact h3
  · rintro ⟨h1, h2⟩
    refine ⟨h1, fun i hi y hyy => ?_⟩
    obtain ⟨i, rfl⟩ := Int.eq_ofNat_of_zero_le (hx _ hi).1
    obtain ⟨y, rfl⟩ := Int.eq_ofNat_of_zero_le (hy _ hyy).1
    have hyn := hy _ hyy
    have h3 := ((hr y (by omega) x).1 (h2 y (by omega) hyy)).2 i hi
    have e : ((i : Int) * n + y).toNat = i * n + y := by rw [← Int.natCast_mul]; omega
    rw [e]
    exact h3
end Go.Proofs.YtfdbbopanankgaaDoor
