/- Steps at so many times their costs, plain. Condition: valid steps. -/
import Derived.Test.YtdfnlaclggjckaaCostP
import Derived.Test.YtdfnlaclggjckaaChkI
namespace Go.Proofs.Ytdfnlaclggjckaa
open Go.RowKit
set_option maxHeartbeats 1000000
set_option maxRecDepth 100000
set_option linter.unusedVariables false

def timesS (z : Int) (s : StepD) : StepD := ⟨s.fr, s.le, s.to_, s.co * z⟩
def scaleL (z : Int) (ss : List StepD) : List StepD := ss.map (timesS z)
def scaleV (z : Int) (m : Int) (xs ys : List Int) (ss : List StepD) : AutV := if autoOk m xs ys ss = true ∧ 0 ≤ z ∧ z ≤ 3 then chkV m xs ys (scaleL z ss) else noneV
theorem scaleL_snoc (z : Int) (ss : List StepD) (s : StepD) : scaleL z (ss ++ [s]) = scaleL z ss ++ [timesS z s] := by unfold scaleL; simp
theorem scaleL_len (z : Int) (ss : List StepD) : (scaleL z ss).length = ss.length := by unfold scaleL; simp
theorem scale_eq {z m : Int} {xs ys : List Int} {ss us : List StepD} (h : autoOk m xs ys ss = true) (hp : us.Pairwise (fun s t => code s < code t)) (hm : ∀ s, s ∈ us ↔ mvOk s ∧ (costAt ss s.fr s.le s.to_).bind (phiScale z) = some s.co) : us = scaleL z ss := by
  have hq : (scaleL z ss).Pairwise (fun s t => code s < code t) := by
    unfold scaleL
    rw [List.pairwise_map]
    exact auto_pw h
  refine code_ext _ _ hp hq (fun s => ?_)
  rw [hm s]
  unfold scaleL
  rw [List.mem_map]
  constructor
  · rintro ⟨h1, h2⟩
    rcases hc : costAt ss s.fr s.le s.to_ with _ | c
    · rw [hc] at h2; cases h2
    · rw [hc] at h2
      simp [phiScale] at h2
      have hx : (⟨s.fr, s.le, s.to_, c⟩ : StepD) ∈ ss := (mem_cost (auto_pw h) (auto_mv h) _).2 ⟨h1, hc⟩
      exact ⟨_, hx, by unfold timesS; rw [h2]⟩
  · rintro ⟨x, hx, rfl⟩
    obtain ⟨a, b⟩ := (mem_cost (auto_pw h) (auto_mv h) x).1 hx
    refine ⟨a, ?_⟩
    show (costAt ss x.fr x.le x.to_).bind (phiScale z) = some (x.co * z)
    rw [b]
    rfl
theorem auto_co {m : Int} {xs ys : List Int} {ss : List StepD} (h : autoOk m xs ys ss = true) : ∀ f l t c, costAt ss f l t = some c → 0 ≤ c ∧ c ≤ 3 := fun f l t c hc => by
  obtain ⟨n, h1, h2, h3, h4, h5, h6, h7⟩ := auto_in h
  subst h1
  have := costAt_in h7 hc
  exact ⟨this.2.2.2.2.1, this.2.2.2.2.2⟩
end Go.Proofs.Ytdfnlaclggjckaa
