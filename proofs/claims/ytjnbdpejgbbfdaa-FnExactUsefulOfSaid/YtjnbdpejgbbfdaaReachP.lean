/- Plain mathematics of what is reached by steps from some states: sets of at most four states, what is reached, the rounds of the model. No condition but that the steps lie within the states. -/
import Derived.Test.YtjnbdpejgbbfdaaWordT
import Derived.Test.YtjnbdpejgbbfdaaMach2
namespace Go.Proofs.Ytjnbdpejgbbfdaa
open Go.RowKit
set_option maxHeartbeats 1000000
set_option linter.unusedVariables false

/-- Sets of states. -/
abbrev VB := Nat → Bool
/-- What is reached. -/
inductive Rch (E : Nat → Nat → Prop) (A : VB) : Nat → Prop
  | base {q : Nat} (h : A q = true) : Rch E A q
  | step {p q : Nat} (h : Rch E A p) (e : E p q) : Rch E A q
theorem Rch.least {E : Nat → Nat → Prop} {A S : VB} (h0 : ∀ q, A q = true → S q = true) (hc : ∀ p q, S p = true → E p q → S q = true) {q : Nat} (h : Rch E A q) : S q = true := by
  induction h with
  | base h => exact h0 _ h
  | step h e ih => exact hc _ _ ih e
/-- A set that holds the first states, is closed, and holds no more than is reached. -/
structure IsRch (E : Nat → Nat → Prop) (A S : VB) : Prop where
  base : ∀ q, A q = true → S q = true
  closed : ∀ p q, S p = true → E p q → S q = true
  sound : ∀ q, S q = true → Rch E A q
theorem IsRch.eq {E : Nat → Nat → Prop} {A S T : VB} (h : IsRch E A S) (k : IsRch E A T) : S = T := by
  funext q
  have h1 : S q = true → T q = true := fun e => (h.sound q e).least k.base k.closed
  have h2 : T q = true → S q = true := fun e => (k.sound q e).least h.base h.closed
  rcases hs : S q with _ | _
  · rcases ht : T q with _ | _
    · rfl
    · rw [h2 ht] at hs; cases hs
  · rw [h1 hs]

/-- The moves of some steps. -/
def edge (ss : List StepD) (p q : Nat) : Prop := ∃ s ∈ ss, s.fr = (p : Int) ∧ s.to_ = (q : Int)
def setAt (u : VB) (q : Nat) : VB := fun i => if i = q then true else u i
/-- A step of the model. -/
def rstep (u : VB) (s : StepD) : VB := if u s.fr.toNat then setAt u s.to_.toNat else u
def rround (ss : List StepD) (u : VB) : VB := ss.foldl rstep u
def rrounds (ss : List StepD) (u : VB) : Nat → VB
  | 0 => u
  | k + 1 => rround ss (rrounds ss u k)
theorem rstep_sup (u : VB) (s : StepD) (q : Nat) (h : u q = true) : rstep u s q = true := by
  unfold rstep setAt
  by_cases hu : u s.fr.toNat = true
  · rw [if_pos hu]; split
    · rfl
    · exact h
  · rw [if_neg hu]; exact h
theorem rround_sup : ∀ (ss : List StepD) (u : VB) (q : Nat), u q = true → rround ss u q = true
  | [], u, q, h => h
  | s :: ss, u, q, h => rround_sup ss (rstep u s) q (rstep_sup u s q h)
theorem rrounds_sup (ss : List StepD) (u : VB) : ∀ (k : Nat) (q : Nat), u q = true → rrounds ss u k q = true
  | 0, q, h => h
  | k + 1, q, h => rround_sup ss _ q (rrounds_sup ss u k q h)
theorem rround_sound {ss : List StepD} {A : VB} (n : Nat) (hok : ∀ s ∈ ss, stepOk n s = true) : ∀ (l : List StepD) (u : VB), (∀ s ∈ l, s ∈ ss) → (∀ q, u q = true → Rch (edge ss) A q) → ∀ q, rround l u q = true → Rch (edge ss) A q
  | [], u, _, h, q, hq => h q hq
  | s :: l, u, hl, h, q, hq => by
    refine rround_sound n hok l (rstep u s) (fun x hx => hl x (List.mem_cons_of_mem _ hx)) ?_ q hq
    intro q hq
    unfold rstep setAt at hq
    by_cases hu : u s.fr.toNat = true
    · rw [if_pos hu] at hq
      by_cases e : q = s.to_.toNat
      · have hs := hl s (by simp)
        obtain ⟨i, k, c, h1, h2, h3, h4, h5, h6, _⟩ := stepOk_in (hok s hs)
        rw [e]
        exact Rch.step (h _ hu) ⟨s, hs, by omega, by omega⟩
      · rw [if_neg e] at hq
        exact h q hq
    · rw [if_neg hu] at hq
      exact h q hq
theorem rrounds_sound {ss : List StepD} (n : Nat) (hok : ∀ s ∈ ss, stepOk n s = true) (A : VB) : ∀ (k : Nat) (q : Nat), rrounds ss A k q = true → Rch (edge ss) A q
  | 0, q, h => Rch.base h
  | k + 1, q, h => rround_sound n hok ss _ (fun s hs => hs) (fun q hq => rrounds_sound n hok A k q hq) q h
theorem rround_has : ∀ (ss : List StepD) (u : VB) (s : StepD), s ∈ ss → u s.fr.toNat = true → rround ss u s.to_.toNat = true
  | [], u, s, h, _ => by cases h
  | t :: ss, u, s, h, hu => by
    rcases List.mem_cons.1 h with rfl | h
    · refine rround_sup ss _ _ ?_
      unfold rstep setAt
      rw [if_pos hu]; simp
    · exact rround_has ss (rstep u t) s h (rstep_sup u t _ hu)
theorem fixed_closed {ss : List StepD} {u : VB} (h : rround ss u = u) : ∀ p q, u p = true → edge ss p q → u q = true := by
  rintro p q hp ⟨s, hs, h1, h2⟩
  have := rround_has ss u s hs (by rw [h1]; exact hp)
  rw [h, h2] at this
  exact this

/-- How many of four. -/
def cnt4 (u : VB) : Nat := (u 0).toNat + (u 1).toNat + (u 2).toNat + (u 3).toNat
theorem toNat_le {a b : Bool} (h : a = true → b = true) : a.toNat ≤ b.toNat := by
  cases a <;> cases b <;> simp_all
theorem toNat_lt {a b : Bool} (h : a = true → b = true) (hne : a ≠ b) : a.toNat < b.toNat := by
  cases a <;> cases b <;> simp_all
theorem cnt4_lt {u v : VB} (hs : ∀ q, u q = true → v q = true) (hu : ∀ q, v q = true → q < 4) (hne : u ≠ v) : cnt4 u < cnt4 v := by
  have l0 := toNat_le (hs 0)
  have l1 := toNat_le (hs 1)
  have l2 := toNat_le (hs 2)
  have l3 := toNat_le (hs 3)
  unfold cnt4
  by_cases h0 : u 0 = v 0
  · by_cases h1 : u 1 = v 1
    · by_cases h2 : u 2 = v 2
      · by_cases h3 : u 3 = v 3
        · exfalso
          apply hne
          funext q
          by_cases hq : q < 4
          · match q, hq with
            | 0, _ => exact h0
            | 1, _ => exact h1
            | 2, _ => exact h2
            | 3, _ => exact h3
          · rcases hv : v q with _ | _
            · rcases hu' : u q with _ | _
              · rfl
              · rw [hs q hu'] at hv; cases hv
            · exact absurd (hu q hv) hq
        · have := toNat_lt (hs 3) h3; omega
      · have := toNat_lt (hs 2) h2; omega
    · have := toNat_lt (hs 1) h1; omega
  · have := toNat_lt (hs 0) h0; omega
theorem cnt4_le (u : VB) (n : Nat) (hu : ∀ q, u q = true → q < n) (hn : n ≤ 4) : cnt4 u ≤ n := by
  have z : ∀ q, n ≤ q → (u q).toNat = 0 := fun q hq => by
    rcases h : u q with _ | _
    · rfl
    · have := hu q h; omega
  have o : ∀ q, (u q).toNat ≤ 1 := fun q => Bool.toNat_le _
  have o0 := o 0
  have o1 := o 1
  have o2 := o 2
  have o3 := o 3
  unfold cnt4
  rcases Nat.lt_or_ge 0 n with h0 | h0
  · rcases Nat.lt_or_ge 1 n with h1 | h1
    · rcases Nat.lt_or_ge 2 n with h2 | h2
      · rcases Nat.lt_or_ge 3 n with h3 | h3
        · omega
        · have := z 3 h3; omega
      · have := z 2 h2; have := z 3 (by omega); omega
    · have := z 1 h1; have := z 2 (by omega); have := z 3 (by omega); omega
  · have := z 0 h0; have := z 1 (by omega); have := z 2 (by omega); have := z 3 (by omega); omega
theorem rch_in {ss : List StepD} {n : Nat} (hok : ∀ s ∈ ss, stepOk n s = true) {A : VB} (hA : ∀ q, A q = true → q < n) {q : Nat} (h : Rch (edge ss) A q) : q < n := by
  induction h with
  | base h => exact hA _ h
  | step h e ih =>
    obtain ⟨s, hs, h1, h2⟩ := e
    obtain ⟨i, k, c, g1, g2, g3, g4, g5, g6, _⟩ := stepOk_in (hok s hs)
    omega
/-- After as many rounds as there are states nothing is added. -/
theorem rrounds_is {ss : List StepD} {n : Nat} (n4 : n ≤ 4) (hok : ∀ s ∈ ss, stepOk n s = true) {A : VB} (hA : ∀ q, A q = true → q < n) : IsRch (edge ss) A (rrounds ss A n) := by
  have hin : ∀ k q, rrounds ss A k q = true → q < n := fun k q h => rch_in hok hA (rrounds_sound n hok A k q h)
  have key : ∀ k, rround ss (rrounds ss A k) = rrounds ss A k ∨ cnt4 A + k ≤ cnt4 (rrounds ss A k) := by
    intro k
    induction k with
    | zero => right; exact Nat.le_refl _
    | succ k ih =>
      rcases ih with ih | ih
      · left
        show rround ss (rround ss (rrounds ss A k)) = rround ss (rrounds ss A k)
        rw [ih, ih]
      · by_cases e : rrounds ss A k = rrounds ss A (k + 1)
        · left
          have e' : rround ss (rrounds ss A k) = rrounds ss A k := e.symm
          show rround ss (rround ss (rrounds ss A k)) = rround ss (rrounds ss A k)
          rw [e', e']
        · right
          have := cnt4_lt (u := rrounds ss A k) (v := rrounds ss A (k + 1)) (fun q h => rround_sup ss _ q h) (fun q h => by have := hin (k + 1) q h; omega) e
          omega
  have hfix : rround ss (rrounds ss A n) = rrounds ss A n := by
    rcases key n with h | h
    · exact h
    · have h1 := cnt4_le (rrounds ss A n) n (hin n) n4
      have h2 : cnt4 A = 0 := by omega
      have h3 : ∀ q, A q = false := by
        intro q
        rcases hq : A q with _ | _
        · rfl
        · exfalso
          have hq4 : q < 4 := by have := hA q hq; omega
          have : (A q).toNat = 1 := by rw [hq]; rfl
          unfold cnt4 at h2
          match q, hq4 with
          | 0, _ => omega
          | 1, _ => omega
          | 2, _ => omega
          | 3, _ => omega
      have hno : ∀ q, ¬ Rch (edge ss) A q := fun q h => by
        induction h with
        | base h => rw [h3] at h; cases h
        | step h e ih => exact ih
      funext q
      have a1 : rrounds ss A n q = false := by
        rcases hq : rrounds ss A n q with _ | _
        · rfl
        · exact (hno q (rrounds_sound n hok A n q hq)).elim
      have a2 : rround ss (rrounds ss A n) q = false := by
        rcases hq : rround ss (rrounds ss A n) q with _ | _
        · rfl
        · exact (hno q (rrounds_sound n hok A (n + 1) q hq)).elim
      rw [a1, a2]
  exact ⟨fun q h => rrounds_sup ss A n q h, fixed_closed hfix, rrounds_sound n hok A n⟩
end Go.Proofs.Ytjnbdpejgbbfdaa
