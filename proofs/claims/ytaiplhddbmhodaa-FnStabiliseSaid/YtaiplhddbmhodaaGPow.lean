/- Some power of a matrix of grades is its own square, and none of the exponents is large (plain). -/
import Derived.Test.YtaiplhddbmhodaaGr
namespace Go.Proofs.Ytaiplhddbmhodaa
set_option linter.unusedVariables false

/-- More pigeons than holes. -/
theorem pigeon : ∀ (N : Nat) (f : Nat → Nat), (∀ i, i ≤ N → f i < N) → ∃ i j, i < j ∧ j ≤ N ∧ f i = f j
  | 0, f, h => absurd (h 0 (Nat.le_refl _)) (Nat.not_lt_zero _)
  | N + 1, f, h => by
    by_cases hc : ∃ i, i ≤ N ∧ f i = f (N + 1)
    · obtain ⟨i, hi, he⟩ := hc
      exact ⟨i, N + 1, by omega, Nat.le_refl _, he⟩
    · have hne : ∀ i, i ≤ N → f i ≠ f (N + 1) := fun i hi he => hc ⟨i, hi, he⟩
      have hl := h (N + 1) (Nat.le_refl _)
      obtain ⟨i, j, h1, h2, h3⟩ := pigeon N (fun i => if f (N + 1) < f i then f i - 1 else f i) (fun i hi => by
        have h1 := h i (by omega)
        have h2 := hne i hi
        show (if f (N + 1) < f i then f i - 1 else f i) < N
        split <;> omega)
      refine ⟨i, j, h1, by omega, ?_⟩
      have a := hne i (by omega)
      have b := hne j h2
      replace h3 : (if f (N + 1) < f i then f i - 1 else f i) = (if f (N + 1) < f j then f j - 1 else f j) := h3
      split at h3 <;> split at h3 <;> omega

/-- A list of grades as a number with digits below 4. -/
def gnum : List Int → Nat
  | [] => 0
  | z :: zs => z.toNat + 4 * gnum zs
theorem gnum_lt : ∀ {zs : List Int}, gAll zs = true → gnum zs < 4 ^ zs.length
  | [], _ => by simp [gnum]
  | z :: zs, h => by
    simp only [gAll, List.all_cons, Bool.and_eq_true] at h
    have h1 := gvld_t h.1
    have h2 := gnum_lt (zs := zs) h.2
    simp only [gnum, List.length_cons, Nat.pow_succ]
    omega
theorem gnum_inj : ∀ {zs ys : List Int}, gAll zs = true → gAll ys = true → zs.length = ys.length → gnum zs = gnum ys → zs = ys
  | [], [], _, _, _, _ => rfl
  | [], y :: ys, _, _, h, _ => by simp at h
  | z :: zs, [], _, _, h, _ => by simp at h
  | z :: zs, y :: ys, h, h', hl, he => by
    simp only [gAll, List.all_cons, Bool.and_eq_true] at h h'
    have h1 := gvld_t h.1
    have h2 := gvld_t h'.1
    simp only [gnum] at he
    have e1 : z = y := by omega
    have e2 : gnum zs = gnum ys := by omega
    rw [e1, gnum_inj (zs := zs) (ys := ys) h.2 h'.2 (by simpa using hl) e2]

/-- The power with the exponent e + 1. -/
def gpw (n : Nat) (zs : List Int) : Nat → List Int
  | 0 => zs
  | e + 1 => gmulL n (gpw n zs e) zs
theorem gpw_ok {n : Nat} {zs : List Int} (h : GV n zs) : ∀ e, GV n (gpw n zs e)
  | 0 => h
  | e + 1 => gmulL_ok (gpw_ok h e) h
theorem gpw_add (n : Nat) (zs : List Int) (e : Nat) : ∀ k, gpw n zs (e + k + 1) = gmulL n (gpw n zs e) (gpw n zs k)
  | 0 => rfl
  | k + 1 => by
    show gmulL n (gpw n zs (e + k + 1)) zs = gmulL n (gpw n zs e) (gmulL n (gpw n zs k) zs)
    rw [gpw_add n zs e k, gmulL_assoc]
/-- What two equal powers have behind them is equal, too. -/
theorem gpw_shift {n : Nat} {zs : List Int} {i j : Nat} (h : gpw n zs i = gpw n zs j) : ∀ k, gpw n zs (i + k) = gpw n zs (j + k)
  | 0 => h
  | k + 1 => by
    show gmulL n (gpw n zs (i + k)) zs = gmulL n (gpw n zs (j + k)) zs
    rw [gpw_shift h k]
theorem gpw_loop {n : Nat} {zs : List Int} {i p : Nat} (h : gpw n zs i = gpw n zs (i + p)) (k : Nat) : ∀ m, gpw n zs (i + k) = gpw n zs (i + k + m * p)
  | 0 => by simp
  | m + 1 => by
    rw [gpw_loop h k m, show i + k + (m + 1) * p = i + p + (k + m * p) by rw [Nat.add_mul]; omega, ← gpw_shift h (k + m * p)]
    congr 1
    omega

/-- Some power below 4^16 + 1 is its own square. -/
theorem some_idem {n : Nat} {zs : List Int} (h : GV n zs) : ∃ e, e ≤ 4294967296 ∧ gmulL n (gpw n zs e) (gpw n zs e) = gpw n zs e := by
  have hl : ∀ e, (gpw n zs e).length ≤ 16 := fun e => by rw [(gpw_ok h e).len]; exact (gpw_ok h e).mv.sq
  have hb : ∀ e, gnum (gpw n zs e) < 4294967296 := fun e =>
    Nat.lt_of_lt_of_le (gnum_lt (gpw_ok h e).all) (Nat.le_trans (Nat.pow_le_pow_right (by decide) (hl e)) (by decide))
  obtain ⟨i, j, h1, h2, h3⟩ := pigeon 4294967296 (fun e => gnum (gpw n zs e)) (fun e _ => hb e)
  have he : gpw n zs i = gpw n zs j := gnum_inj (gpw_ok h i).all (gpw_ok h j).all (by rw [(gpw_ok h i).len, (gpw_ok h j).len]) h3
  obtain ⟨p, hp⟩ : ∃ p, j = i + p := ⟨j - i, by omega⟩
  subst hp
  have hp0 : 0 < p := by omega
  -- the exponent: the least multiple of p above i
  obtain ⟨c, hc⟩ : ∃ c, c = i / p + 1 := ⟨_, rfl⟩
  have hd := Nat.div_add_mod i p
  have hm := Nat.mod_lt i hp0
  have hcp : c * p = p * (i / p) + p := by rw [hc, Nat.add_mul, Nat.mul_comm]; omega
  refine ⟨c * p - 1, by omega, ?_⟩
  rw [← gpw_add]
  have e1 : c * p - 1 + (c * p - 1) + 1 = i + (c * p - 1 - i) + c * p := by omega
  have e2 : gpw n zs (c * p - 1) = gpw n zs (i + (c * p - 1 - i)) := by congr 1; omega
  rw [e1, e2]
  exact (gpw_loop he _ c).symm

end Go.Proofs.Ytaiplhddbmhodaa
