/- Steps by the code of their moves, plain: what the comparison of two steps tells, when two ordered lists are one. No condition but that states are below four and letters are letters. A step put into steps in order, plain: what is there behind it. No condition but that states are below four and letters are letters. -/
import Derived.Test.YtfdbbopanankgaaDoorWordT
import Derived.Test.YtfdbbopanankgaaDoorMarkB
namespace Go.Proofs.YtfdbbopanankgaaDoor
open Go.RowKit
set_option maxHeartbeats 1000000
set_option maxRecDepth 100000
set_option linter.unusedVariables false

/-- A step whose states and letter fit; its cost may be anything. -/
def mvOk (s : StepD) : Prop := 0 ≤ s.fr ∧ s.fr < 4 ∧ 0 ≤ s.to_ ∧ s.to_ < 4 ∧ IsL s.le
theorem mvOk_of {n : Nat} {s : StepD} (n4 : n ≤ 4) (h : stepOk n s = true) : mvOk s := by
  obtain ⟨i, k, c, h1, h2, h3, h4, _, _, h7⟩ := stepOk_in h
  exact ⟨by omega, by omega, by omega, by omega, h7⟩
theorem cmp_code {s t : StepD} (hs : mvOk s) (ht : mvOk t) : cmpS s t < 0 ↔ code s < code t := by
  obtain ⟨a1, a2, a3, a4, a5⟩ := hs
  obtain ⟨b1, b2, b3, b4, b5⟩ := ht
  have c1 : Lib.compareBytes [97] [97] = 0 := by decide
  have c2 : Lib.compareBytes [97] [98] = -1 := by decide
  have c3 : Lib.compareBytes [98] [97] = 1 := by decide
  have c4 : Lib.compareBytes [98] [98] = 0 := by decide
  unfold cmpS code cmpI
  rcases a5 with e | e <;> rcases b5 with f | f <;> rw [e, f] <;> simp [orF, c1, c2, c3, c4] <;> (repeat' split) <;> omega
theorem code_ext : ∀ (us vs : List StepD), us.Pairwise (fun s t => code s < code t) → vs.Pairwise (fun s t => code s < code t) → (∀ s, s ∈ us ↔ s ∈ vs) → us = vs
  | [], [], _, _, _ => rfl
  | [], v :: vs, _, _, h => absurd ((h v).2 (by simp)) (by simp)
  | u :: us, [], _, _, h => absurd ((h u).1 (by simp)) (by simp)
  | u :: us, v :: vs, hu, hv, h => by
    rw [List.pairwise_cons] at hu hv
    have e : u = v := by
      rcases List.mem_cons.1 ((h u).1 (by simp)) with e | e
      · exact e
      · rcases List.mem_cons.1 ((h v).2 (by simp)) with f | f
        · exact f.symm
        · have h1 := hv.1 u e
          have h2 := hu.1 v f
          omega
    subst e
    rw [code_ext us vs hu.2 hv.2 (fun s => ⟨fun hs => by
      rcases List.mem_cons.1 ((h s).1 (List.mem_cons_of_mem _ hs)) with e | e
      · subst e; have := hu.1 s hs; omega
      · exact e, fun hs => by
      rcases List.mem_cons.1 ((h s).2 (List.mem_cons_of_mem _ hs)) with e | e
      · subst e; have := hv.1 s hs; omega
      · exact e⟩)]

theorem code_inj {s t : StepD} (hs : mvOk s) (ht : mvOk t) (h : code s = code t) : s.fr = t.fr ∧ s.le = t.le ∧ s.to_ = t.to_ := by
  obtain ⟨a1, a2, a3, a4, a5⟩ := hs
  obtain ⟨b1, b2, b3, b4, b5⟩ := ht
  unfold code at h
  rcases a5 with e | e <;> rcases b5 with f | f <;> rw [e, f] at h ⊢ <;> simp at h ⊢ <;> omega
end Go.Proofs.YtfdbbopanankgaaDoor
namespace Go.Proofs.YtfdbbopanankgaaDoor
open Go.RowKit
set_option maxHeartbeats 1000000
set_option maxRecDepth 100000
set_option linter.unusedVariables false

/-- As the model puts a step into steps in order: a lesser cost into the one that is there. -/
def putL : List StepD → StepD → List StepD
  | [], s => [s]
  | t :: ts, s => if befS t s = true then t :: putL ts s else if befS s t = true then s :: t :: ts else { t with co := min t.co s.co } :: ts
theorem putL_at : ∀ (at_ : Nat) (l : List StepD) (s : StepD), at_ ≤ l.length → (∀ j, j < at_ → befS (l.getD j default) s = true) → (at_ = l.length ∨ befS (l.getD at_ default) s = false) →
    putL l s = if at_ < l.length ∧ befS s (l.getD at_ default) = false then l.set at_ { l.getD at_ default with co := min (l.getD at_ default).co s.co } else l.take at_ ++ s :: l.drop at_
  | 0, [], s, _, _, _ => by simp [putL]
  | 0, t :: ts, s, _, _, he => by
    have h1 : befS t s = false := by simpa using he
    unfold putL
    rw [if_neg (by rw [h1]; simp)]
    rcases h2 : befS s t with _ | _
    · simp [h2]
    · simp [h2]
  | k + 1, [], s, hk, _, _ => by simp at hk
  | k + 1, t :: ts, s, hk, hb, he => by
    have h0 : befS t s = true := by simpa using hb 0 (by omega)
    have ih := putL_at k ts s (by simpa using hk) (fun j hj => by have := hb (j + 1) (by omega); simpa using this) (by
      rcases he with he | he
      · exact Or.inl (by simpa using he)
      · exact Or.inr (by simpa using he))
    unfold putL
    rw [if_pos h0, ih]
    simp only [List.length_cons, List.getD_cons_succ, List.set_cons_succ, List.take_succ_cons, List.drop_succ_cons, Nat.add_lt_add_iff_right]
    split <;> simp
theorem bef_code {s t : StepD} (hs : mvOk s) (ht : mvOk t) : befS s t = decide (code s < code t) := by
  unfold befS
  exact decide_eq_decide.2 (cmp_code hs ht)
/-- Into steps none of which has its move: it is there, and all are in order. -/
theorem putL_new {s : StepD} (hs : mvOk s) : ∀ {l : List StepD}, (∀ t ∈ l, mvOk t) → l.Pairwise (fun x y => code x < code y) → (∀ t ∈ l, ¬ code t = code s) →
    (putL l s).Pairwise (fun x y => code x < code y) ∧ ∀ t, t ∈ putL l s ↔ t ∈ l ∨ t = s
  | [], _, _, _ => ⟨by simp [putL], fun t => by simp [putL]⟩
  | t :: ts, hm, hp, hn => by
    rw [List.pairwise_cons] at hp
    obtain ⟨ih1, ih2⟩ := putL_new hs (fun u hu => hm u (List.mem_cons_of_mem _ hu)) hp.2 (fun u hu => hn u (List.mem_cons_of_mem _ hu))
    have ht := hm t (by simp)
    have hne := hn t (by simp)
    unfold putL
    rw [bef_code ht hs, bef_code hs ht]
    by_cases h1 : code t < code s
    · rw [if_pos (by simpa using h1)]
      refine ⟨List.pairwise_cons.2 ⟨fun u hu => ?_, ih1⟩, fun u => ?_⟩
      · rcases (ih2 u).1 hu with h | rfl
        · exact hp.1 u h
        · exact h1
      · rw [List.mem_cons, ih2 u, List.mem_cons, or_assoc]
    · have h2 : code s < code t := by omega
      rw [if_neg (by simpa using h1), if_pos (by simpa using h2)]
      refine ⟨List.pairwise_cons.2 ⟨fun u hu => ?_, List.pairwise_cons.2 hp⟩, fun u => ?_⟩
      · rcases List.mem_cons.1 hu with rfl | h
        · exact h2
        · have := hp.1 u h; omega
      · rw [List.mem_cons]; exact ⟨fun h => h.symm, fun h => h.symm⟩
theorem putL_len : ∀ (l : List StepD) (s : StepD), (putL l s).length ≤ l.length + 1
  | [], s => by simp [putL]
  | t :: ts, s => by
    have := putL_len ts s
    unfold putL
    split
    · simp; omega
    · split <;> simp
theorem putL_ok {s : StepD} (hs : mvOk s) : ∀ {l : List StepD}, (∀ t ∈ l, mvOk t) → ∀ t ∈ putL l s, mvOk t
  | [], _, t, ht => by simp [putL] at ht; subst ht; exact hs
  | u :: us, hm, t, ht => by
    unfold putL at ht
    have hu := hm u (by simp)
    split at ht
    · rcases List.mem_cons.1 ht with rfl | h
      · exact hu
      · exact putL_ok hs (fun v hv => hm v (List.mem_cons_of_mem _ hv)) t h
    · split at ht
      · rcases List.mem_cons.1 ht with rfl | h
        · exact hs
        · exact hm t h
      · rcases List.mem_cons.1 ht with rfl | h
        · exact hu
        · exact hm t (List.mem_cons_of_mem _ h)
def putsL (us : List StepD) : List StepD := us.foldl putL []
theorem putsL_snoc (us : List StepD) (s : StepD) : putsL (us ++ [s]) = putL (putsL us) s := by unfold putsL; rw [List.foldl_append]; rfl
theorem putsL_len : ∀ (k : Nat) (us : List StepD), us.length = k → (putsL us).length ≤ us.length
  | 0, us, h => by rw [List.eq_nil_of_length_eq_zero h]; simp [putsL]
  | k + 1, us, h => by
    have hne : us ≠ [] := fun e => by rw [e] at h; cases h
    obtain ⟨r, s, rfl⟩ : ∃ r s, us = r ++ [s] := ⟨_, _, (List.dropLast_concat_getLast hne).symm⟩
    have := putsL_len k r (by simpa using h)
    have h2 := putL_len (putsL r) s
    rw [putsL_snoc]
    simp
    omega
/-- Steps with pairwise different moves, put one after the other: the same steps, in order. -/
theorem putsL_new : ∀ (k : Nat) (us : List StepD), us.length = k → (∀ s ∈ us, mvOk s) → us.Pairwise (fun x y => ¬ code x = code y) → (putsL us).Pairwise (fun x y => code x < code y) ∧ ∀ t, t ∈ putsL us ↔ t ∈ us
  | 0, us, h, _, _ => by rw [List.eq_nil_of_length_eq_zero h]; exact ⟨List.Pairwise.nil, fun t => Iff.rfl⟩
  | k + 1, us, h, hm, hp => by
    have hne : us ≠ [] := fun e => by rw [e] at h; cases h
    obtain ⟨r, s, rfl⟩ : ∃ r s, us = r ++ [s] := ⟨_, _, (List.dropLast_concat_getLast hne).symm⟩
    rw [List.pairwise_append] at hp
    obtain ⟨i1, i2⟩ := putsL_new k r (by simpa using h) (fun t ht => hm t (List.mem_append_left _ ht)) hp.1
    rw [putsL_snoc]
    obtain ⟨j1, j2⟩ := putL_new (hm s (by simp)) (fun t ht => hm t (List.mem_append_left _ ((i2 t).1 ht))) i1 (fun t ht => hp.2.2 t ((i2 t).1 ht) s (by simp))
    exact ⟨j1, fun t => by rw [j2 t, i2 t, List.mem_append, List.mem_singleton]⟩
end Go.Proofs.YtfdbbopanankgaaDoor
