/- Plain mathematics of expressions: their parts as a tree, how a text reads as one, and the same by single parts. No condition. -/
import Derived.Test.YtefjeccnkfmgeaaPlain
namespace Go.Proofs.Ytefjeccnkfmgeaa
open Go.RowKit
set_option linter.unusedVariables false

/-- An expression as the program's nodes are. -/
inductive Ex where
  | lit (b : Bool) : Ex
  | join (x y : Ex) : Ex
  | rep (x : Ex) : Ex
/-- An expression as its parts one behind the other. -/
inductive Tx where
  | nil : Tx
  | lit (b : Bool) (r : Tx) : Tx
  | rep (i r : Tx) : Tx
def chr (b : Bool) : UInt8 := if b then 97 else 98
def Tx.text : Tx → List UInt8
  | .nil => []
  | .lit b r => chr b :: r.text
  | .rep i r => 40 :: (i.text ++ (41 :: 35 :: r.text))
def Tx.any : Tx → Bool
  | .nil => false
  | _ => true
def Tx.good : Tx → Bool
  | .nil => true
  | .lit _ r => r.good
  | .rep i r => i.any && i.good && r.good
def addE : Option Ex → Ex → Ex
  | none, y => y
  | some x, y => .join x y
def Tx.ex : Tx → Option Ex → Option Ex
  | .nil, acc => acc
  | .lit b r, acc => r.ex (some (addE acc (.lit b)))
  | .rep i r, acc => match i.ex none with
    | some x => r.ex (some (addE acc (.rep x)))
    | none => none
theorem Tx.ex_some : ∀ (t : Tx) (x : Ex), t.good = true → ∃ y, t.ex (some x) = some y
  | .nil, x, _ => ⟨x, rfl⟩
  | .lit b r, x, h => Tx.ex_some r _ h
  | .rep i r, x, h => by
    simp only [Tx.good, Bool.and_eq_true] at h
    obtain ⟨⟨hs, hi⟩, hr⟩ := h
    have : ∃ y, i.ex none = some y := by
      cases i with
      | nil => cases hs
      | lit b r' => exact Tx.ex_some r' _ hi
      | rep i' r' =>
        simp only [Tx.good, Bool.and_eq_true] at hi
        have h1 := Tx.ex_some (.rep i' r') (.lit true) (by simp only [Tx.good, Bool.and_eq_true]; exact hi)
        obtain ⟨y, hy⟩ := h1
        simp only [Tx.ex] at hy ⊢
        cases hx : i'.ex none with
        | none => rw [hx] at hy; cases hy
        | some x' => exact Tx.ex_some r' _ hi.2
    obtain ⟨y, hy⟩ := this
    simp only [Tx.ex, hy]
    exact Tx.ex_some r _ hr
theorem Tx.ex_none {t : Tx} (hs : t.any = true) (hg : t.good = true) : ∃ y, t.ex none = some y := by
  cases t with
  | nil => cases hs
  | lit b r => exact Tx.ex_some r _ hg
  | rep i r =>
    obtain ⟨y, hy⟩ := Tx.ex_some (.rep i r) (.lit true) hg
    simp only [Tx.ex] at hy ⊢
    cases hx : i.ex none with
    | none => rw [hx] at hy; cases hy
    | some x' =>
      simp only [Tx.good, Bool.and_eq_true] at hg
      exact Tx.ex_some r _ hg.2

/-- As many parts as there are, up to the end or a closing bracket. -/
def pT : Nat → List UInt8 → Option (Tx × List UInt8)
  | 0, _ => none
  | _ + 1, [] => some (.nil, [])
  | n + 1, c :: l =>
    if c = 41 then some (.nil, c :: l)
    else if c = 97 then (pT n l).map fun p => (.lit true p.1, p.2)
    else if c = 98 then (pT n l).map fun p => (.lit false p.1, p.2)
    else if c = 40 then match pT n l with
      | some (i, d :: d' :: l') => if d = 41 ∧ d' = 35 ∧ i.any = true then (pT n l').map fun p => (.rep i p.1, p.2) else none
      | _ => none
    else none
def stopL (r : List UInt8) : Prop := r = [] ∨ ∃ r', r = 41 :: r'
theorem pT_spec : ∀ (n : Nat) (l : List UInt8) (t : Tx) (r : List UInt8), pT n l = some (t, r) → l = t.text ++ r ∧ t.good = true ∧ stopL r ∧ r.length ≤ l.length
  | 0, _, _, _, h => by cases h
  | _ + 1, [], t, r, h => by
    simp only [pT, Option.some.injEq, Prod.mk.injEq] at h
    obtain ⟨rfl, rfl⟩ := h
    exact ⟨rfl, rfl, .inl rfl, Nat.le_refl _⟩
  | n + 1, c :: l, t, r, h => by
    simp only [pT] at h
    by_cases h1 : c = 41
    · rw [if_pos h1] at h
      simp only [Option.some.injEq, Prod.mk.injEq] at h
      obtain ⟨rfl, rfl⟩ := h
      exact ⟨rfl, rfl, .inr ⟨l, by rw [h1]⟩, Nat.le_refl _⟩
    rw [if_neg h1] at h
    have lit : ∀ b : Bool, c = chr b → (pT n l).map (fun p => (Tx.lit b p.1, p.2)) = some (t, r) → c :: l = t.text ++ r ∧ t.good = true ∧ stopL r ∧ r.length ≤ (c :: l).length := by
      intro b hc hm
      cases hp : pT n l with
      | none => rw [hp] at hm; cases hm
      | some p =>
        obtain ⟨t', r'⟩ := p
        rw [hp] at hm
        simp only [Option.map_some, Option.some.injEq, Prod.mk.injEq] at hm
        obtain ⟨rfl, rfl⟩ := hm
        obtain ⟨e1, e2, e3, e4⟩ := pT_spec n l t' r' hp
        exact ⟨by rw [hc]; show _ :: l = _ :: (t'.text ++ r'); rw [e1], e2, e3, Nat.le_succ_of_le e4⟩
    by_cases h2 : c = 97
    · rw [if_pos h2] at h; exact lit true h2 h
    rw [if_neg h2] at h
    by_cases h3 : c = 98
    · rw [if_pos h3] at h; exact lit false h3 h
    rw [if_neg h3] at h
    by_cases h4 : c = 40
    · rw [if_pos h4] at h
      cases hp : pT n l with
      | none => rw [hp] at h; cases h
      | some p =>
        obtain ⟨i, ri⟩ := p
        rw [hp] at h
        obtain ⟨e1, e2, e3, e4⟩ := pT_spec n l i ri hp
        cases ri with
        | nil => cases h
        | cons d ri =>
          cases ri with
          | nil => cases h
          | cons d' l' =>
            simp only at h
            by_cases hd : d = 41 ∧ d' = 35 ∧ i.any = true
            · rw [if_pos hd] at h
              obtain ⟨rfl, rfl, hs⟩ := hd
              cases hq : pT n l' with
              | none => rw [hq] at h; cases h
              | some q =>
                obtain ⟨t', r'⟩ := q
                rw [hq] at h
                simp only [Option.map_some, Option.some.injEq, Prod.mk.injEq] at h
                obtain ⟨rfl, rfl⟩ := h
                obtain ⟨f1, f2, f3, f4⟩ := pT_spec n l' t' r' hq
                refine ⟨?_, ?_, f3, ?_⟩
                · rw [h4, e1, f1]; simp [Tx.text]
                · simp [Tx.good, hs, e2, f2]
                · simp only [List.length_cons] at e4 ⊢; omega
            · rw [if_neg hd] at h; cases h
    · rw [if_neg h4] at h; cases h
theorem pT_fuel : ∀ (n m : Nat) (l : List UInt8), l.length < n → l.length < m → pT n l = pT m l
  | 0, _, _, h, _ => by omega
  | _, 0, _, _, h => by omega
  | n + 1, m + 1, [], _, _ => rfl
  | n + 1, m + 1, c :: l, hn, hm => by
    have ih : ∀ l' : List UInt8, l'.length ≤ l.length → pT n l' = pT m l' := fun l' hl => pT_fuel n m l' (by simp only [List.length_cons] at hn; omega) (by simp only [List.length_cons] at hm; omega)
    simp only [pT]
    rw [ih l (Nat.le_refl _)]
    cases hp : pT m l with
    | none => rfl
    | some p =>
      obtain ⟨i, ri⟩ := p
      have e4 := (pT_spec m l i ri hp).2.2.2
      cases ri with
      | nil => rfl
      | cons d ri =>
        cases ri with
        | nil => rfl
        | cons d' l' =>
          simp only
          rw [ih l' (by simp only [List.length_cons] at e4; omega)]
/-- What a text begins with. -/
def P (l : List UInt8) : Option (Tx × List UInt8) := pT (l.length + 1) l
theorem P_spec {l : List UInt8} {t : Tx} {r : List UInt8} (h : P l = some (t, r)) : l = t.text ++ r ∧ t.good = true ∧ stopL r ∧ r.length ≤ l.length := pT_spec _ _ _ _ h
theorem P_at {n : Nat} {l : List UInt8} (h : l.length < n) : pT n l = P l := pT_fuel _ _ _ h (Nat.lt_succ_self _)
theorem P_nil : P [] = some (.nil, []) := rfl
theorem P_close (l : List UInt8) : P (41 :: l) = some (.nil, 41 :: l) := by unfold P; simp only [pT]; rw [if_pos trivial]
theorem P_a (l : List UInt8) : P (97 :: l) = (P l).map fun p => (.lit true p.1, p.2) := by
  unfold P
  simp only [pT, List.length_cons]
  rw [if_neg (by decide), if_pos trivial]
theorem P_b (l : List UInt8) : P (98 :: l) = (P l).map fun p => (.lit false p.1, p.2) := by
  unfold P
  simp only [pT, List.length_cons]
  rw [if_neg (by decide), if_neg (by decide), if_pos trivial]
theorem P_lit (b : Bool) (l : List UInt8) : P (chr b :: l) = (P l).map fun p => (.lit b p.1, p.2) := by cases b <;> first | exact P_a l | exact P_b l
theorem P_bad {c : UInt8} (l : List UInt8) (h1 : c ≠ 41) (h2 : c ≠ 97) (h3 : c ≠ 98) (h4 : c ≠ 40) : P (c :: l) = none := by
  unfold P
  simp only [pT]
  rw [if_neg h1, if_neg h2, if_neg h3, if_neg h4]
theorem P_open (l : List UInt8) : P (40 :: l) = match P l with
    | some (i, d :: d' :: l') => if d = 41 ∧ d' = 35 ∧ i.any = true then (P l').map (fun p => (.rep i p.1, p.2)) else none
    | _ => none := by
  have e : P (40 :: l) = pT (l.length + 2) (40 :: l) := rfl
  rw [e]
  simp only [pT]
  rw [if_neg (by decide), if_neg (by decide), if_neg (by decide), if_pos trivial, P_at (Nat.lt_succ_self _)]
  cases hp : P l with
  | none => rfl
  | some p =>
    obtain ⟨i, ri⟩ := p
    have e4 := (P_spec hp).2.2.2
    cases ri with
    | nil => rfl
    | cons d ri =>
      cases ri with
      | nil => rfl
      | cons d' l' =>
        simp only
        rw [P_at (n := l.length + 1) (l := l') (by simp only [List.length_cons] at e4; omega)]
theorem P_text : ∀ (t : Tx) (r : List UInt8), t.good = true → stopL r → P (t.text ++ r) = some (t, r)
  | .nil, r, _, hr => by
    rcases hr with rfl | ⟨r', rfl⟩
    · exact P_nil
    · exact P_close r'
  | .lit b t, r, hg, hr => by
    show P (chr b :: (t.text ++ r)) = _
    rw [P_lit, P_text t r hg hr]
    rfl
  | .rep i t, r, hg, hr => by
    simp only [Tx.good, Bool.and_eq_true] at hg
    obtain ⟨⟨hs, hi⟩, ht⟩ := hg
    have e : (Tx.rep i t).text ++ r = 40 :: (i.text ++ (41 :: 35 :: (t.text ++ r))) := by simp [Tx.text]
    rw [e, P_open, P_text i _ hi (.inr ⟨_, rfl⟩)]
    simp only
    rw [if_pos ⟨trivial, trivial, hs⟩, P_text t r ht hr]
    rfl

/-- The program's way: part by part. -/
def endB (r : List UInt8) : Bool := r.isEmpty || [41, 35].isPrefixOf r
def genF (acc : Option Ex) (l : List UInt8) : Option (Ex × List UInt8) := match P l with
  | some (t, r) => if endB r = true then (t.ex acc).map fun x => (x, r) else none
  | none => none
def behindF : Option (Ex × List UInt8) → Option (Ex × List UInt8)
  | some (x, d :: d' :: r) => if d = 41 ∧ d' = 35 then some (.rep x, r) else none
  | _ => none
def partF : List UInt8 → Option (Ex × List UInt8)
  | [] => none
  | c :: l => if c = 97 then some (.lit true, l) else if c = 98 then some (.lit false, l) else if c = 40 then behindF (genF none l) else none
theorem part_a (l : List UInt8) : partF (97 :: l) = some (.lit true, l) := by simp [partF]
theorem part_b (l : List UInt8) : partF (98 :: l) = some (.lit false, l) := by simp [partF]
theorem part_open (l : List UInt8) : partF (40 :: l) = behindF (genF none l) := by simp [partF]
theorem part_bad {c : UInt8} (l : List UInt8) (h2 : c ≠ 97) (h3 : c ≠ 98) (h4 : c ≠ 40) : partF (c :: l) = none := by simp [partF, h2, h3, h4]
theorem gen_end {x : Ex} {l : List UInt8} (h : endB l = true) : genF (some x) l = some (x, l) := by
  unfold endB at h
  cases l with
  | nil => rfl
  | cons c l =>
    cases l with
    | nil => simp [List.isPrefixOf] at h
    | cons d l =>
      simp [List.isPrefixOf] at h
      obtain ⟨rfl, rfl⟩ := h
      unfold genF
      rw [P_close]
      simp [endB, List.isPrefixOf, Tx.ex]
theorem gen_part (acc : Option Ex) (l : List UInt8) (h : acc = none ∨ endB l = false) : genF acc l = match partF l with
    | some (y, r) => genF (some (addE acc y)) r
    | none => none := by
  cases l with
  | nil =>
    rcases h with rfl | h
    · rfl
    · cases h
  | cons c l =>
    by_cases h1 : c = 41
    · subst h1
      rw [part_bad l (by decide) (by decide) (by decide)]
      unfold genF
      rw [P_close]
      simp only
      rcases h with rfl | h
      · cases endB (41 :: l) <;> rfl
      · rw [h]; rfl
    by_cases h2 : c = 97
    · subst h2
      rw [part_a]
      unfold genF
      rw [P_a]
      cases hp : P l with
      | none => simp only [hp, Option.map_none]
      | some p => simp only [hp, Option.map_some, Tx.ex]
    by_cases h3 : c = 98
    · subst h3
      rw [part_b]
      unfold genF
      rw [P_b]
      cases hp : P l with
      | none => simp only [hp, Option.map_none]
      | some p => simp only [hp, Option.map_some, Tx.ex]
    by_cases h4 : c = 40
    · subst h4
      rw [part_open]
      unfold genF
      rw [P_open]
      cases hp : P l with
      | none => rfl
      | some p =>
        obtain ⟨i, ri⟩ := p
        obtain ⟨_, hg, hst, _⟩ := P_spec hp
        simp only
        cases ri with
        | nil => cases h : i.ex none <;> simp [endB, behindF]
        | cons d ri =>
          cases ri with
          | nil => simp [endB, List.isPrefixOf, behindF]
          | cons d' l' =>
            by_cases hd : d = 41 ∧ d' = 35
            · obtain ⟨rfl, rfl⟩ := hd
              have hE : endB (41 :: 35 :: l') = true := by simp [endB, List.isPrefixOf]
              rw [hE]
              simp only [if_true]
              cases hs : i.any with
              | false =>
                have : i = .nil := by cases i <;> first | rfl | cases hs
                subst this
                rfl
              | true =>
                obtain ⟨y, hy⟩ := Tx.ex_none hs hg
                simp only [hy, Option.map_some, behindF]
                simp only [and_self, if_true]
                cases hq : P l' with
                | none => rfl
                | some q => simp only [Option.map_some, Tx.ex, hy]
            · have hE : endB (d :: d' :: l') = false := by
                simp only [endB, List.isPrefixOf, List.isEmpty_cons, Bool.false_or, Bool.and_true]
                rw [Bool.and_eq_false_iff]
                by_cases e : d = 41
                · right; rw [beq_eq_false_iff_ne]; exact fun e' => hd ⟨e, e'.symm⟩
                · left; rw [beq_eq_false_iff_ne]; exact fun e' => e e'.symm
              have h9 : ¬ (d = 41 ∧ d' = 35 ∧ i.any = true) := fun h => hd ⟨h.1, h.2.1⟩
              simp only [if_neg h9, behindF]
              rw [hE]
              rfl
    · rw [part_bad l h2 h3 h4]
      unfold genF
      rw [P_bad l h1 h2 h3 h4]
/-- What a whole text reads as. -/
def parseT (l : List UInt8) : Option Tx := if l.length ≤ 120 then match P l with
  | some (t, []) => if t.any = true then some t else none
  | _ => none else none
def nodeF (l : List UInt8) : Option Ex := if l.length ≤ 120 then match genF none l with
  | some (x, []) => some x
  | _ => none else none
theorem node_parse (l : List UInt8) : nodeF l = (parseT l).bind fun t => t.ex none := by
  unfold nodeF parseT
  by_cases h : l.length ≤ 120
  · rw [if_pos h, if_pos h]
    unfold genF
    cases hp : P l with
    | none => rfl
    | some p =>
      obtain ⟨t, r⟩ := p
      simp only
      cases r with
      | cons d r => cases endB (d :: r) <;> cases h : t.ex none <;> simp
      | nil =>
        have hE : endB [] = true := rfl
        rw [hE]
        simp only [if_true]
        cases hs : t.any with
        | false =>
          have : t = .nil := by cases t <;> first | rfl | cases hs
          subst this
          rfl
        | true =>
          simp only [if_true, Option.bind_some]
          cases t.ex none <;> rfl
  · rw [if_neg h, if_neg h]; rfl
theorem parse_spec {l : List UInt8} {t : Tx} (h : parseT l = some t) : l = t.text ∧ t.good = true ∧ t.any = true ∧ l.length ≤ 120 := by
  unfold parseT at h
  by_cases h1 : l.length ≤ 120
  · rw [if_pos h1] at h
    cases hp : P l with
    | none => rw [hp] at h; cases h
    | some p =>
      obtain ⟨t', r⟩ := p
      rw [hp] at h
      cases r with
      | cons d r => cases h
      | nil =>
        simp only at h
        cases hs : t'.any with
        | false => rw [hs] at h; cases h
        | true =>
          rw [hs] at h
          simp only [if_true, Option.some.injEq] at h
          subst h
          obtain ⟨e1, e2, _, _⟩ := P_spec hp
          exact ⟨by simpa using e1, e2, hs, h1⟩
  · rw [if_neg h1] at h; cases h
theorem parse_text {t : Tx} (hg : t.good = true) (hs : t.any = true) (h : t.text.length ≤ 120) : parseT t.text = some t := by
  unfold parseT
  have := P_text t [] hg (.inl rfl)
  rw [List.append_nil] at this
  rw [if_pos h, this]
  simp only [hs, if_true]
theorem node_isSome (l : List UInt8) : (nodeF l).isSome = (parseT l).isSome := by
  rw [node_parse]
  cases h : parseT l with
  | none => rfl
  | some t =>
    obtain ⟨_, hg, hs, _⟩ := parse_spec h
    obtain ⟨y, hy⟩ := Tx.ex_none hs hg
    rw [Option.bind_some, hy]
    rfl
end Go.Proofs.Ytefjeccnkfmgeaa
