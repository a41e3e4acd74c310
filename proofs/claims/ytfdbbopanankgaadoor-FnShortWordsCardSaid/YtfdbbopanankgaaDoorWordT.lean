/- Plain mathematics of words and of the steps of a valid automaton: which bytes make a word, that no two steps are for one move, what a move costs. No condition but that the steps are in order. -/
import Derived.Test.YtfdbbopanankgaaDoorMach2
import Derived.Lib.SlTrimSet
namespace Go.Proofs.YtfdbbopanankgaaDoor
open Go.RowKit
set_option maxHeartbeats 1000000
set_option linter.unusedVariables false

def isAB (b : UInt8) : Bool := [97, 98].contains b
def wordOk (s : ByteArray) : Bool := decide (s.size ≤ 1000) && s.data.toList.all isAB
theorem dropWhile_all {p : UInt8 → Bool} : ∀ {l : List UInt8}, l.all p = true → l.dropWhile p = []
  | [], _ => rfl
  | b :: l, h => by
    simp only [List.all_cons, Bool.and_eq_true] at h
    simp only [List.dropWhile_cons, h.1, if_true]
    exact dropWhile_all h.2
theorem all_of_dropWhile {p : UInt8 → Bool} : ∀ {l : List UInt8}, l.dropWhile p = [] → l.all p = true
  | [], _ => rfl
  | b :: l, h => by
    by_cases hb : p b = true
    · simp only [List.dropWhile_cons, hb, if_true] at h
      simp only [List.all_cons, hb, Bool.true_and]
      exact all_of_dropWhile h
    · simp only [List.dropWhile_cons, hb] at h
      cases h
theorem dropWhile_head {p : UInt8 → Bool} : ∀ {l : List UInt8} {b : UInt8} {r : List UInt8}, l.dropWhile p = b :: r → p b = false
  | [], _, _, h => by cases h
  | a :: l, b, r, h => by
    by_cases ha : p a = true
    · simp only [List.dropWhile_cons, ha, if_true] at h
      exact dropWhile_head h
    · simp only [List.dropWhile_cons, ha] at h
      cases h
      simpa using ha
theorem trim_nil (l : List UInt8) : Lib.trimS l [97, 98] = [] ↔ l.all isAB = true := by
  unfold Lib.trimS Lib.trimLeftS Lib.trimRightS
  show List.dropWhile isAB (List.dropWhile isAB l.reverse).reverse = [] ↔ _
  constructor
  · intro h
    have h1 := all_of_dropWhile h
    have h2 : List.dropWhile isAB l.reverse = [] := by
      rcases hd : List.dropWhile isAB l.reverse with _ | ⟨b, r⟩
      · rfl
      · exfalso
        have hb := dropWhile_head hd
        rw [hd] at h1
        have := List.all_eq_true.1 h1 b (by simp)
        rw [hb] at this; cases this
    have h3 := all_of_dropWhile h2
    rwa [List.all_reverse] at h3
  · intro h
    rw [dropWhile_all (p := isAB) (l := l.reverse) (by rw [List.all_reverse]; exact h)]
    rfl
theorem trim_is (s : ByteArray) : (Lib.trimS s.data.toList [97, 98]).isEmpty = s.data.toList.all isAB := by
  rcases h : s.data.toList.all isAB with _ | _
  · rcases h2 : Lib.trimS s.data.toList [97, 98] with _ | _
    · rw [(trim_nil _).1 h2] at h; cases h
    · rfl
  · rw [(trim_nil _).2 h]; rfl
theorem isAB_cases {b : UInt8} (h : isAB b = true) : b = 97 ∨ b = 98 := by
  simpa [isAB] using h
/-- A letter as a text. -/
def ltr (b : UInt8) : ByteArray := ⟨#[b]⟩
theorem isL_ltr {b : UInt8} (h : isAB b = true) : IsL (ltr b) := by
  rcases isAB_cases h with rfl | rfl
  · exact Or.inl rfl
  · exact Or.inr rfl

/-! No two steps are for one move. -/
def code (s : StepD) : Int := s.fr * 1000 + ((if s.le.data.toList = [98] then 100 else 0) + s.to_)
theorem code_lt {n : Int} {s t : StepD} (n4 : n ≤ 4) (hs : stepOk n s = true) (ht : stepOk n t = true) (h : befS s t = true) : code s < code t := by
  have ls := stepOk_l hs
  have lt := stepOk_l ht
  unfold stepOk at hs ht
  simp only [Bool.and_eq_true, decide_eq_true_eq] at hs ht
  obtain ⟨⟨s1, s2⟩, ⟨s3, s4⟩, _⟩ := hs
  obtain ⟨⟨t1, t2⟩, ⟨t3, t4⟩, _⟩ := ht
  unfold befS cmpS at h
  have h := of_decide_eq_true h
  unfold code
  have e1 : Lib.compareBytes [97] [97] = 0 := by decide
  have e2 : Lib.compareBytes [97] [98] = -1 := by decide
  have e3 : Lib.compareBytes [98] [97] = 1 := by decide
  have e4 : Lib.compareBytes [98] [98] = 0 := by decide
  unfold cmpI at h
  rcases ls with hl | hl <;> rcases lt with ht' | ht' <;> rw [hl, ht'] at h ⊢ <;> simp [e1, e2, e3, e4, orF] at h ⊢ <;> (repeat' split at h) <;> omega
theorem steps_pw : ∀ {n : Int} {o : Option StepD} {ss : List StepD}, n ≤ 4 → (∀ q, o = some q → stepOk n q = true) → stepsF n o ss = true → ss.Pairwise (fun s t => code s < code t) ∧ ∀ q, o = some q → ∀ s ∈ ss, code q < code s
  | n, o, [], _, _, _ => ⟨List.Pairwise.nil, fun _ _ s hs => by cases hs⟩
  | n, none, t :: r, n4, hq, h => by
    simp only [stepsF, Bool.and_eq_true] at h
    have ih := steps_pw (o := some t) n4 (fun q hq => by cases hq; exact h.1) h.2
    exact ⟨List.Pairwise.cons (ih.2 t rfl) ih.1, fun q hq => by cases hq⟩
  | n, some q, t :: r, n4, hq, h => by
    simp only [stepsF, Bool.and_eq_true] at h
    have ih := steps_pw (o := some t) n4 (fun q hq => by cases hq; exact h.1) h.2.2
    refine ⟨List.Pairwise.cons (ih.2 t rfl) ih.1, fun q' hq' s hs => ?_⟩
    cases hq'
    have h1 := code_lt n4 (hq q rfl) h.1 h.2.1
    rcases List.mem_cons.1 hs with rfl | hs
    · exact h1
    · have := ih.2 t rfl s hs; omega
theorem updC_hit {F : Int → ByteArray → Int → Option Int} {f t c : Int} {l : ByteArray} : updC F f l t c f l t = some c := by unfold updC; rw [if_pos ⟨rfl, rfl, rfl⟩]
theorem updC_miss {F : Int → ByteArray → Int → Option Int} {f t c f' t' : Int} {l l' : ByteArray} (h : ¬ (f' = f ∧ l'.data = l.data ∧ t' = t)) : updC F f l t c f' l' t' = F f' l' t' := by unfold updC; rw [if_neg h]
theorem costAt_snoc (ss : List StepD) (s : StepD) : costAt (ss ++ [s]) = updC (costAt ss) s.fr s.le s.to_ s.co := by
  unfold costAt; rw [List.foldl_append]; rfl
/-- What a move costs is what some step for it does. -/
theorem costAt_some {f t c : Int} {l : ByteArray} : ∀ (k : Nat) {ss : List StepD}, ss.length = k → costAt ss f l t = some c → ∃ s ∈ ss, s.fr = f ∧ s.le.data = l.data ∧ s.to_ = t ∧ s.co = c
  | 0, ss, hl, h => by
    rw [List.eq_nil_of_length_eq_zero hl] at h; cases h
  | k + 1, ss, hl, h => by
    have hne : ss ≠ [] := fun e => by rw [e] at hl; cases hl
    obtain ⟨r, s, rfl⟩ : ∃ r s, ss = r ++ [s] := ⟨_, _, (List.dropLast_concat_getLast hne).symm⟩
    rw [costAt_snoc] at h
    by_cases e : f = s.fr ∧ l.data = s.le.data ∧ t = s.to_
    · unfold updC at h
      rw [if_pos e] at h
      cases h
      exact ⟨s, by simp, e.1.symm, e.2.1.symm, e.2.2.symm, rfl⟩
    · rw [updC_miss e] at h
      obtain ⟨q, hq, h1⟩ := costAt_some k (ss := r) (by simpa using hl) h
      exact ⟨q, by simp [hq], h1⟩
theorem code_eq {s t : StepD} (h1 : s.fr = t.fr) (h2 : s.le.data = t.le.data) (h3 : s.to_ = t.to_) : code s = code t := by unfold code; rw [h1, h2, h3]
/-- Behind the steps up to k, the move of step k costs nothing that is known yet. -/
theorem costAt_fresh {ss : List StepD} (hp : ss.Pairwise (fun s t => code s < code t)) {k : Nat} {s : StepD} (hk : k < ss.length) (hs : ss.getD k default = s) : costAt (ss.take k) s.fr s.le s.to_ = none := by
  rcases h : costAt (ss.take k) s.fr s.le s.to_ with _ | c
  · rfl
  · exfalso
    obtain ⟨q, hq, h1, h2, h3, _⟩ := costAt_some _ rfl h
    have e : ss[k] = s := by rw [List.getD_eq_getElem?_getD, List.getElem?_eq_getElem hk] at hs; exact hs
    obtain ⟨j, hj, rfl⟩ := List.mem_take_iff_getElem.1 hq
    have hjk : j < k := by omega
    have := List.pairwise_iff_getElem.1 hp j k (by omega) hk hjk
    rw [e, code_eq h1 h2 h3] at this
    omega
theorem costAt_in {n : Nat} {ss : List StepD} (hok : ∀ s ∈ ss, stepOk n s = true) {f t c : Int} {l : ByteArray} (h : costAt ss f l t = some c) : 0 ≤ f ∧ f < n ∧ 0 ≤ t ∧ t < n ∧ 0 ≤ c ∧ c ≤ 3 := by
  obtain ⟨s, hs, rfl, _, rfl, rfl⟩ := costAt_some _ rfl h
  obtain ⟨i, k, c, h1, h2, h3, h4, h5, h6, _⟩ := stepOk_in (hok s hs)
  omega
theorem auto_pw {m : Int} {xs ys : List Int} {ss : List StepD} (h : autoOk m xs ys ss = true) : ss.Pairwise (fun s t => code s < code t) := by
  unfold autoOk at h
  simp only [Bool.and_eq_true, decide_eq_true_eq] at h
  exact (steps_pw (by omega) (fun q hq => by cases hq) h.2.2.2.2).1
end Go.Proofs.YtfdbbopanankgaaDoor
