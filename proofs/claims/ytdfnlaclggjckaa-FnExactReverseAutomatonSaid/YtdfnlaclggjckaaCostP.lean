/- Steps and the costs that their map tells, plain: what the automaton of a machine made out of another one has. Condition: valid steps. -/
import Derived.Test.YtdfnlaclggjckaaPutP
import Derived.Test.YtdfnlaclggjckaaFreed
import Derived.Test.YtdfnlaclggjckaaFreeS
namespace Go.Proofs.Ytdfnlaclggjckaa
open Go.RowKit
set_option maxHeartbeats 1000000
set_option maxRecDepth 100000
set_option linter.unusedVariables false

theorem cost_mem : ∀ (k : Nat) {ss : List StepD}, ss.length = k → ss.Pairwise (fun s t => code s < code t) → ∀ s ∈ ss, costAt ss s.fr s.le s.to_ = some s.co
  | 0, ss, h, _, s, hs => by rw [List.eq_nil_of_length_eq_zero h] at hs; cases hs
  | k + 1, ss, h, hp, s, hs => by
    have hne : ss ≠ [] := fun e => by rw [e] at h; cases h
    obtain ⟨r, x, rfl⟩ : ∃ r x, ss = r ++ [x] := ⟨_, _, (List.dropLast_concat_getLast hne).symm⟩
    rw [List.pairwise_append] at hp
    rw [costAt_snoc]
    rcases List.mem_append.1 hs with h1 | h1
    · have hlt := hp.2.2 s h1 x (by simp)
      rw [updC_miss (fun e => by have := code_eq e.1 e.2.1 e.2.2; omega)]
      exact cost_mem k (by simpa using h) hp.1 s h1
    · rw [List.mem_singleton] at h1
      subst h1
      exact updC_hit
theorem data_eq {a b : ByteArray} (h : a.data = b.data) : a = b := by cases a; cases b; simp at h; rw [h]
theorem mem_cost {ss : List StepD} (hp : ss.Pairwise (fun s t => code s < code t)) (hok : ∀ s ∈ ss, mvOk s) (s : StepD) : s ∈ ss ↔ mvOk s ∧ costAt ss s.fr s.le s.to_ = some s.co := by
  refine ⟨fun hs => ⟨hok s hs, cost_mem _ rfl hp s hs⟩, fun ⟨_, hc⟩ => ?_⟩
  obtain ⟨x, hx, h1, h2, h3, h4⟩ := costAt_some _ rfl hc
  have e : x = s := by rw [mv_eta s rfl rfl rfl rfl]; exact mv_eta x h1 (data_eq h2) h3 h4
  rw [← e]; exact hx
theorem cost_mv {ss : List StepD} (hok : ∀ s ∈ ss, mvOk s) {f t c d : Int} {l : ByteArray} (h : costAt ss f l t = some c) : mvOk ⟨f, l, t, d⟩ := by
  obtain ⟨x, hx, h1, h2, h3, h4⟩ := costAt_some _ rfl h
  have := hok x hx
  rw [mv_eta x h1 (data_eq h2) h3 rfl] at this
  exact this
theorem auto_mv {m : Int} {xs ys : List Int} {ss : List StepD} (h : autoOk m xs ys ss = true) : ∀ s ∈ ss, mvOk s := fun s hs => by
  obtain ⟨n, h1, h2, h3, h4, h5, h6, h7⟩ := auto_in h
  subst h1
  exact mvOk_of h3 (h7 s hs)
theorem auto_mk {m : Int} {xs ys : List Int} {ss : List StepD} (h : autoOk m xs ys ss = true) : marksF m (-1) xs = true ∧ marksF m (-1) ys = true := by
  unfold autoOk at h
  simp only [Bool.and_eq_true] at h
  exact ⟨h.2.1, h.2.2.1⟩
theorem pw_filter {p : StepD → Bool} {ss : List StepD} (hp : ss.Pairwise (fun s t => code s < code t)) : (ss.filter p).Pairwise (fun s t => code s < code t) := hp.sublist (List.filter_sublist)

theorem free_eq {m : Int} {xs ys : List Int} {ss us : List StepD} (h : autoOk m xs ys ss = true) (hp : us.Pairwise (fun s t => code s < code t)) (hm : ∀ s, s ∈ us ↔ mvOk s ∧ (costAt ss s.fr s.le s.to_).bind phiFree = some s.co) : us = freeL ss := by
  refine code_ext _ _ hp (pw_filter (auto_pw h)) (fun s => ?_)
  rw [hm s]
  unfold freeL
  rw [List.mem_filter, mem_cost (auto_pw h) (auto_mv h)]
  constructor
  · rintro ⟨h1, h2⟩
    rcases hc : costAt ss s.fr s.le s.to_ with _ | c
    · rw [hc] at h2; cases h2
    · rw [hc] at h2
      simp [phiFree] at h2
      exact ⟨⟨h1, by rw [← h2.2]⟩, by simp [← h2.2, h2.1]⟩
  · rintro ⟨⟨h1, h2⟩, h3⟩
    refine ⟨h1, ?_⟩
    rw [h2]
    simp [phiFree] at h3 ⊢
    exact h3
theorem rev_eq {m : Int} {xs ys : List Int} {ss us : List StepD} (h : autoOk m xs ys ss = true) (hp : us.Pairwise (fun s t => code s < code t)) (hm : ∀ s, s ∈ us ↔ mvOk s ∧ costAt ss s.to_ s.le s.fr = some s.co) : us = putsL (ss.map swS) := by
  have hmv := auto_mv h
  have hmv' : ∀ s ∈ ss.map swS, mvOk s := fun s hs => by
    rw [List.mem_map] at hs
    obtain ⟨x, hx, rfl⟩ := hs
    obtain ⟨a1, a2, a3, a4, a5⟩ := hmv x hx
    exact ⟨a3, a4, a1, a2, a5⟩
  have hne : (ss.map swS).Pairwise (fun x y => ¬ code x = code y) := by
    rw [List.pairwise_map]
    have hpp := auto_pw h
    refine hpp.imp_of_mem (fun {a b} ha hb hab e => ?_)
    have ha' := hmv' (swS a) (List.mem_map.2 ⟨a, ha, rfl⟩)
    have hb' := hmv' (swS b) (List.mem_map.2 ⟨b, hb, rfl⟩)
    obtain ⟨e1, e2, e3⟩ := code_inj ha' hb' e
    have := code_eq (s := a) (t := b) e3 (by rw [show a.le = b.le from e2]) e1
    omega
  obtain ⟨p1, p2⟩ := putsL_new _ (ss.map swS) rfl hmv' hne
  refine code_ext _ _ hp p1 (fun s => ?_)
  rw [hm s, p2 s, List.mem_map]
  constructor
  · rintro ⟨h1, h2⟩
    have hs : mvOk (swS s) := ⟨h1.2.2.1, h1.2.2.2.1, h1.1, h1.2.1, h1.2.2.2.2⟩
    exact ⟨swS s, (mem_cost (auto_pw h) hmv (swS s)).2 ⟨hs, h2⟩, rfl⟩
  · rintro ⟨x, hx, rfl⟩
    obtain ⟨a, b⟩ := (mem_cost (auto_pw h) hmv x).1 hx
    exact ⟨hmv' _ (List.mem_map.2 ⟨x, hx, rfl⟩), b⟩
def revV (m : Int) (xs ys : List Int) (ss : List StepD) : AutV := if autoOk m xs ys ss = true then ⟨m, ys, xs, putsL (ss.map swS), true⟩ else noneV
end Go.Proofs.Ytdfnlaclggjckaa
