/- Plain mathematics of expressions: their parts as a tree, how a text reads as one, and the same by single parts. No condition. The reader of expressions: a mark is taken off the front of what is left, if it is there. Only the reader's own cell changes. No condition. The reader of expressions: a part, an expression, the whole text: what the text reads as, or a panic. Nothing that was there ahead of the reader changes. No condition. A text as an expression's nodes, and whether it is one; nothing that was there changes. No condition. -/
import Derived.Test.YtdhpcpmjdffgmaaDoorPlain
import Derived.Test.YtdhpcpmjdffgmaaDoorDrawKit
import Derived.IntWalk
import Derived.WalkSmall
import Derived.Handy
import Derived.WalkLawsBesides
import Derived.Defers
import Derived.Recover
namespace Go.Proofs.YtdhpcpmjdffgmaaDoor
open Go.RowKit
set_option linter.unusedVariables false

/-- An expression as the program's nodes are. -/
inductive Ex where
  | lit (b : Bool) : Ex
  | join (x y : Ex) : Ex
  | rep (x : Ex) : Ex
/-- An expression as its parts one behind the other. -/
inductive Tx where
  | nil : Tx
  | lit (b : Bool) (r : Tx) : Tx
  | rep (i r : Tx) : Tx
def chr (b : Bool) : UInt8 := if b then 97 else 98
def Tx.text : Tx → List UInt8
  | .nil => []
  | .lit b r => chr b :: r.text
  | .rep i r => 40 :: (i.text ++ (41 :: 35 :: r.text))
def Tx.any : Tx → Bool
  | .nil => false
  | _ => true
def Tx.good : Tx → Bool
  | .nil => true
  | .lit _ r => r.good
  | .rep i r => i.any && i.good && r.good
def addE : Option Ex → Ex → Ex
  | none, y => y
  | some x, y => .join x y
def Tx.ex : Tx → Option Ex → Option Ex
  | .nil, acc => acc
  | .lit b r, acc => r.ex (some (addE acc (.lit b)))
  | .rep i r, acc => match i.ex none with
    | some x => r.ex (some (addE acc (.rep x)))
    | none => none
theorem Tx.ex_some : ∀ (t : Tx) (x : Ex), t.good = true → ∃ y, t.ex (some x) = some y
  | .nil, x, _ => ⟨x, rfl⟩
  | .lit b r, x, h => Tx.ex_some r _ h
  | .rep i r, x, h => by
    simp only [Tx.good, Bool.and_eq_true] at h
    obtain ⟨⟨hs, hi⟩, hr⟩ := h
    have : ∃ y, i.ex none = some y := by
      cases i with
      | nil => cases hs
      | lit b r' => exact Tx.ex_some r' _ hi
      | rep i' r' =>
        simp only [Tx.good, Bool.and_eq_true] at hi
        have h1 := Tx.ex_some (.rep i' r') (.lit true) (by simp only [Tx.good, Bool.and_eq_true]; exact hi)
        obtain ⟨y, hy⟩ := h1
        simp only [Tx.ex] at hy ⊢
        cases hx : i'.ex none with
        | none => rw [hx] at hy; cases hy
        | some x' => exact Tx.ex_some r' _ hi.2
    obtain ⟨y, hy⟩ := this
    simp only [Tx.ex, hy]
    exact Tx.ex_some r _ hr
theorem Tx.ex_none {t : Tx} (hs : t.any = true) (hg : t.good = true) : ∃ y, t.ex none = some y := by
  cases t with
  | nil => cases hs
  | lit b r => exact Tx.ex_some r _ hg
  | rep i r =>
    obtain ⟨y, hy⟩ := Tx.ex_some (.rep i r) (.lit true) hg
    simp only [Tx.ex] at hy ⊢
    cases hx : i.ex none with
    | none => rw [hx] at hy; cases hy
    | some x' =>
      simp only [Tx.good, Bool.and_eq_true] at hg
      exact Tx.ex_some r _ hg.2

/-- As many parts as there are, up to the end or a closing bracket. -/
def pT : Nat → List UInt8 → Option (Tx × List UInt8)
  | 0, _ => none
  | _ + 1, [] => some (.nil, [])
  | n + 1, c :: l =>
    if c = 41 then some (.nil, c :: l)
    else if c = 97 then (pT n l).map fun p => (.lit true p.1, p.2)
    else if c = 98 then (pT n l).map fun p => (.lit false p.1, p.2)
    else if c = 40 then match pT n l with
      | some (i, d :: d' :: l') => if d = 41 ∧ d' = 35 ∧ i.any = true then (pT n l').map fun p => (.rep i p.1, p.2) else none
      | _ => none
    else none
def stopL (r : List UInt8) : Prop := r = [] ∨ ∃ r', r = 41 :: r'
theorem pT_spec : ∀ (n : Nat) (l : List UInt8) (t : Tx) (r : List UInt8), pT n l = some (t, r) → l = t.text ++ r ∧ t.good = true ∧ stopL r ∧ r.length ≤ l.length
  | 0, _, _, _, h => by cases h
  | _ + 1, [], t, r, h => by
    simp only [pT, Option.some.injEq, Prod.mk.injEq] at h
    obtain ⟨rfl, rfl⟩ := h
    exact ⟨rfl, rfl, .inl rfl, Nat.le_refl _⟩
  | n + 1, c :: l, t, r, h => by
    simp only [pT] at h
    by_cases h1 : c = 41
    · rw [if_pos h1] at h
      simp only [Option.some.injEq, Prod.mk.injEq] at h
      obtain ⟨rfl, rfl⟩ := h
      exact ⟨rfl, rfl, .inr ⟨l, by rw [h1]⟩, Nat.le_refl _⟩
    rw [if_neg h1] at h
    have lit : ∀ b : Bool, c = chr b → (pT n l).map (fun p => (Tx.lit b p.1, p.2)) = some (t, r) → c :: l = t.text ++ r ∧ t.good = true ∧ stopL r ∧ r.length ≤ (c :: l).length := by
      intro b hc hm
      cases hp : pT n l with
      | none => rw [hp] at hm; cases hm
      | some p =>
        obtain ⟨t', r'⟩ := p
        rw [hp] at hm
        simp only [Option.map_some, Option.some.injEq, Prod.mk.injEq] at hm
        obtain ⟨rfl, rfl⟩ := hm
        obtain ⟨e1, e2, e3, e4⟩ := pT_spec n l t' r' hp
        exact ⟨by rw [hc]; show _ :: l = _ :: (t'.text ++ r'); rw [e1], e2, e3, Nat.le_succ_of_le e4⟩
    by_cases h2 : c = 97
    · rw [if_pos h2] at h; exact lit true h2 h
    rw [if_neg h2] at h
    by_cases h3 : c = 98
    · rw [if_pos h3] at h; exact lit false h3 h
    rw [if_neg h3] at h
    by_cases h4 : c = 40
    · rw [if_pos h4] at h
      cases hp : pT n l with
      | none => rw [hp] at h; cases h
      | some p =>
        obtain ⟨i, ri⟩ := p
        rw [hp] at h
        obtain ⟨e1, e2, e3, e4⟩ := pT_spec n l i ri hp
        cases ri with
        | nil => cases h
        | cons d ri =>
          cases ri with
          | nil => cases h
          | cons d' l' =>
            simp only at h
            by_cases hd : d = 41 ∧ d' = 35 ∧ i.any = true
            · rw [if_pos hd] at h
              obtain ⟨rfl, rfl, hs⟩ := hd
              cases hq : pT n l' with
              | none => rw [hq] at h; cases h
              | some q =>
                obtain ⟨t', r'⟩ := q
                rw [hq] at h
                simp only [Option.map_some, Option.some.injEq, Prod.mk.injEq] at h
                obtain ⟨rfl, rfl⟩ := h
                obtain ⟨f1, f2, f3, f4⟩ := pT_spec n l' t' r' hq
                refine ⟨?_, ?_, f3, ?_⟩
                · rw [h4, e1, f1]; simp [Tx.text]
                · simp [Tx.good, hs, e2, f2]
                · simp only [List.length_cons] at e4 ⊢; omega
            · rw [if_neg hd] at h; cases h
    · rw [if_neg h4] at h; cases h
theorem pT_fuel : ∀ (n m : Nat) (l : List UInt8), l.length < n → l.length < m → pT n l = pT m l
  | 0, _, _, h, _ => by omega
  | _, 0, _, _, h => by omega
  | n + 1, m + 1, [], _, _ => rfl
  | n + 1, m + 1, c :: l, hn, hm => by
    have ih : ∀ l' : List UInt8, l'.length ≤ l.length → pT n l' = pT m l' := fun l' hl => pT_fuel n m l' (by simp only [List.length_cons] at hn; omega) (by simp only [List.length_cons] at hm; omega)
    simp only [pT]
    rw [ih l (Nat.le_refl _)]
    cases hp : pT m l with
    | none => rfl
    | some p =>
      obtain ⟨i, ri⟩ := p
      have e4 := (pT_spec m l i ri hp).2.2.2
      cases ri with
      | nil => rfl
      | cons d ri =>
        cases ri with
        | nil => rfl
        | cons d' l' =>
          simp only
          rw [ih l' (by simp only [List.length_cons] at e4; omega)]
/-- What a text begins with. -/
def P (l : List UInt8) : Option (Tx × List UInt8) := pT (l.length + 1) l
theorem P_spec {l : List UInt8} {t : Tx} {r : List UInt8} (h : P l = some (t, r)) : l = t.text ++ r ∧ t.good = true ∧ stopL r ∧ r.length ≤ l.length := pT_spec _ _ _ _ h
theorem P_at {n : Nat} {l : List UInt8} (h : l.length < n) : pT n l = P l := pT_fuel _ _ _ h (Nat.lt_succ_self _)
theorem P_nil : P [] = some (.nil, []) := rfl
theorem P_close (l : List UInt8) : P (41 :: l) = some (.nil, 41 :: l) := by unfold P; simp only [pT]; rw [if_pos trivial]
theorem P_a (l : List UInt8) : P (97 :: l) = (P l).map fun p => (.lit true p.1, p.2) := by
  unfold P
  simp only [pT, List.length_cons]
  rw [if_neg (by decide), if_pos trivial]
theorem P_b (l : List UInt8) : P (98 :: l) = (P l).map fun p => (.lit false p.1, p.2) := by
  unfold P
  simp only [pT, List.length_cons]
  rw [if_neg (by decide), if_neg (by decide), if_pos trivial]
theorem P_lit (b : Bool) (l : List UInt8) : P (chr b :: l) = (P l).map fun p => (.lit b p.1, p.2) := by cases b <;> first | exact P_a l | exact P_b l
theorem P_bad {c : UInt8} (l : List UInt8) (h1 : c ≠ 41) (h2 : c ≠ 97) (h3 : c ≠ 98) (h4 : c ≠ 40) : P (c :: l) = none := by
  unfold P
  simp only [pT]
  rw [if_neg h1, if_neg h2, if_neg h3, if_neg h4]
theorem P_open (l : List UInt8) : P (40 :: l) = match P l with
    | some (i, d :: d' :: l') => if d = 41 ∧ d' = 35 ∧ i.any = true then (P l').map (fun p => (.rep i p.1, p.2)) else none
    | _ => none := by
  have e : P (40 :: l) = pT (l.length + 2) (40 :: l) := rfl
  rw [e]
  simp only [pT]
  rw [if_neg (by decide), if_neg (by decide), if_neg (by decide), if_pos trivial, P_at (Nat.lt_succ_self _)]
  cases hp : P l with
  | none => rfl
  | some p =>
    obtain ⟨i, ri⟩ := p
    have e4 := (P_spec hp).2.2.2
    cases ri with
    | nil => rfl
    | cons d ri =>
      cases ri with
      | nil => rfl
      | cons d' l' =>
        simp only
        rw [P_at (n := l.length + 1) (l := l') (by simp only [List.length_cons] at e4; omega)]
theorem P_text : ∀ (t : Tx) (r : List UInt8), t.good = true → stopL r → P (t.text ++ r) = some (t, r)
  | .nil, r, _, hr => by
    rcases hr with rfl | ⟨r', rfl⟩
    · exact P_nil
    · exact P_close r'
  | .lit b t, r, hg, hr => by
    show P (chr b :: (t.text ++ r)) = _
    rw [P_lit, P_text t r hg hr]
    rfl
  | .rep i t, r, hg, hr => by
    simp only [Tx.good, Bool.and_eq_true] at hg
    obtain ⟨⟨hs, hi⟩, ht⟩ := hg
    have e : (Tx.rep i t).text ++ r = 40 :: (i.text ++ (41 :: 35 :: (t.text ++ r))) := by simp [Tx.text]
    rw [e, P_open, P_text i _ hi (.inr ⟨_, rfl⟩)]
    simp only
    rw [if_pos ⟨trivial, trivial, hs⟩, P_text t r ht hr]
    rfl

/-- The program's way: part by part. -/
def endB (r : List UInt8) : Bool := r.isEmpty || [41, 35].isPrefixOf r
def genF (acc : Option Ex) (l : List UInt8) : Option (Ex × List UInt8) := match P l with
  | some (t, r) => if endB r = true then (t.ex acc).map fun x => (x, r) else none
  | none => none
def behindF : Option (Ex × List UInt8) → Option (Ex × List UInt8)
  | some (x, d :: d' :: r) => if d = 41 ∧ d' = 35 then some (.rep x, r) else none
  | _ => none
def partF : List UInt8 → Option (Ex × List UInt8)
  | [] => none
  | c :: l => if c = 97 then some (.lit true, l) else if c = 98 then some (.lit false, l) else if c = 40 then behindF (genF none l) else none
theorem part_a (l : List UInt8) : partF (97 :: l) = some (.lit true, l) := by simp [partF]
theorem part_b (l : List UInt8) : partF (98 :: l) = some (.lit false, l) := by simp [partF]
theorem part_open (l : List UInt8) : partF (40 :: l) = behindF (genF none l) := by simp [partF]
theorem part_bad {c : UInt8} (l : List UInt8) (h2 : c ≠ 97) (h3 : c ≠ 98) (h4 : c ≠ 40) : partF (c :: l) = none := by simp [partF, h2, h3, h4]
theorem gen_end {x : Ex} {l : List UInt8} (h : endB l = true) : genF (some x) l = some (x, l) := by
  unfold endB at h
  cases l with
  | nil => rfl
  | cons c l =>
    cases l with
    | nil => simp [List.isPrefixOf] at h
    | cons d l =>
      simp [List.isPrefixOf] at h
      obtain ⟨rfl, rfl⟩ := h
      unfold genF
      rw [P_close]
      simp [endB, List.isPrefixOf, Tx.ex]
theorem gen_part (acc : Option Ex) (l : List UInt8) (h : acc = none ∨ endB l = false) : genF acc l = match partF l with
    | some (y, r) => genF (some (addE acc y)) r
    | none => none := by
  cases l with
  | nil =>
    rcases h with rfl | h
    · rfl
    · cases h
  | cons c l =>
    by_cases h1 : c = 41
    · subst h1
      rw [part_bad l (by decide) (by decide) (by decide)]
      unfold genF
      rw [P_close]
      simp only
      rcases h with rfl | h
      · cases endB (41 :: l) <;> rfl
      · rw [h]; rfl
    by_cases h2 : c = 97
    · subst h2
      rw [part_a]
      unfold genF
      rw [P_a]
      cases hp : P l with
      | none => simp only [hp, Option.map_none]
      | some p => simp only [hp, Option.map_some, Tx.ex]
    by_cases h3 : c = 98
    · subst h3
      rw [part_b]
      unfold genF
      rw [P_b]
      cases hp : P l with
      | none => simp only [hp, Option.map_none]
      | some p => simp only [hp, Option.map_some, Tx.ex]
    by_cases h4 : c = 40
    · subst h4
      rw [part_open]
      unfold genF
      rw [P_open]
      cases hp : P l with
      | none => rfl
      | some p =>
        obtain ⟨i, ri⟩ := p
        obtain ⟨_, hg, hst, _⟩ := P_spec hp
        simp only
        cases ri with
        | nil => cases h : i.ex none <;> simp [endB, behindF]
        | cons d ri =>
          cases ri with
          | nil => simp [endB, List.isPrefixOf, behindF]
          | cons d' l' =>
            by_cases hd : d = 41 ∧ d' = 35
            · obtain ⟨rfl, rfl⟩ := hd
              have hE : endB (41 :: 35 :: l') = true := by simp [endB, List.isPrefixOf]
              rw [hE]
              simp only [if_true]
              cases hs : i.any with
              | false =>
                have : i = .nil := by cases i <;> first | rfl | cases hs
                subst this
                rfl
              | true =>
                obtain ⟨y, hy⟩ := Tx.ex_none hs hg
                simp only [hy, Option.map_some, behindF]
                simp only [and_self, if_true]
                cases hq : P l' with
                | none => rfl
                | some q => simp only [Option.map_some, Tx.ex, hy]
            · have hE : endB (d :: d' :: l') = false := by
                simp only [endB, List.isPrefixOf, List.isEmpty_cons, Bool.false_or, Bool.and_true]
                rw [Bool.and_eq_false_iff]
                by_cases e : d = 41
                · right; rw [beq_eq_false_iff_ne]; exact fun e' => hd ⟨e, e'.symm⟩
                · left; rw [beq_eq_false_iff_ne]; exact fun e' => e e'.symm
              have h9 : ¬ (d = 41 ∧ d' = 35 ∧ i.any = true) := fun h => hd ⟨h.1, h.2.1⟩
              simp only [if_neg h9, behindF]
              rw [hE]
              rfl
    · rw [part_bad l h2 h3 h4]
      unfold genF
      rw [P_bad l h1 h2 h3 h4]
/-- What a whole text reads as. -/
def parseT (l : List UInt8) : Option Tx := if l.length ≤ 120 then match P l with
  | some (t, []) => if t.any = true then some t else none
  | _ => none else none
def nodeF (l : List UInt8) : Option Ex := if l.length ≤ 120 then match genF none l with
  | some (x, []) => some x
  | _ => none else none
theorem node_parse (l : List UInt8) : nodeF l = (parseT l).bind fun t => t.ex none := by
  unfold nodeF parseT
  by_cases h : l.length ≤ 120
  · rw [if_pos h, if_pos h]
    unfold genF
    cases hp : P l with
    | none => rfl
    | some p =>
      obtain ⟨t, r⟩ := p
      simp only
      cases r with
      | cons d r => cases endB (d :: r) <;> cases h : t.ex none <;> simp
      | nil =>
        have hE : endB [] = true := rfl
        rw [hE]
        simp only [if_true]
        cases hs : t.any with
        | false =>
          have : t = .nil := by cases t <;> first | rfl | cases hs
          subst this
          rfl
        | true =>
          simp only [if_true, Option.bind_some]
          cases t.ex none <;> rfl
  · rw [if_neg h, if_neg h]; rfl
theorem parse_spec {l : List UInt8} {t : Tx} (h : parseT l = some t) : l = t.text ∧ t.good = true ∧ t.any = true ∧ l.length ≤ 120 := by
  unfold parseT at h
  by_cases h1 : l.length ≤ 120
  · rw [if_pos h1] at h
    cases hp : P l with
    | none => rw [hp] at h; cases h
    | some p =>
      obtain ⟨t', r⟩ := p
      rw [hp] at h
      cases r with
      | cons d r => cases h
      | nil =>
        simp only at h
        cases hs : t'.any with
        | false => rw [hs] at h; cases h
        | true =>
          rw [hs] at h
          simp only [if_true, Option.some.injEq] at h
          subst h
          obtain ⟨e1, e2, _, _⟩ := P_spec hp
          exact ⟨by simpa using e1, e2, hs, h1⟩
  · rw [if_neg h1] at h; cases h
theorem parse_text {t : Tx} (hg : t.good = true) (hs : t.any = true) (h : t.text.length ≤ 120) : parseT t.text = some t := by
  unfold parseT
  have := P_text t [] hg (.inl rfl)
  rw [List.append_nil] at this
  rw [if_pos h, this]
  simp only [hs, if_true]
theorem node_isSome (l : List UInt8) : (nodeF l).isSome = (parseT l).isSome := by
  rw [node_parse]
  cases h : parseT l with
  | none => rfl
  | some t =>
    obtain ⟨_, hg, hs, _⟩ := parse_spec h
    obtain ⟨y, hy⟩ := Tx.ex_none hs hg
    rw [Option.bind_some, hy]
    rfl
end Go.Proofs.YtdhpcpmjdffgmaaDoor
namespace Go.Proofs.YtdhpcpmjdffgmaaDoor
open Go.RowKit
set_option maxHeartbeats 1000000
set_option maxRecDepth 100000
set_option linter.unusedVariables false

theorem size_len (s : ByteArray) : s.size = s.data.toList.length := by simp
theorem ext_pre (s : ByteArray) (n : Nat) : (s.extract 0 n).toList = s.data.toList.take n := by
  rw [ByteArray.toList_eq, ByteArray.data_extract]; simp
theorem ext_suf (s : ByteArray) (n : Nat) : (s.extract n s.size).data.toList = s.data.toList.drop n := by
  rw [ByteArray.data_extract, Array.toList_extract]
  rw [List.extract_eq_take_drop, List.take_of_length_le (by simp)]
theorem hasPrefix_long (s m : ByteArray) (w : World) (h : s.size < m.size) :
    Calls Tryd.prog 59 #[.string s, .string m] w fun e w' => e = .returned (.bool false) ∧ w' = w := by
  have h' : ¬ (m.size : Int) ≤ (s.size : Int) := by omega
  go_enter Tryd.func59, Tryd.ntmps59
  go_wp2_with fail
  go_ret
  exact ⟨rfl, rfl⟩
theorem hasPrefix_fits (s m : ByteArray) (w : World) (h : m.size ≤ s.size) :
    Calls Tryd.prog 59 #[.string s, .string m] w fun e w' => e = .returned (.bool ((s.extract 0 m.size).toList == m.toList)) ∧ w' = w := by
  have h' : (m.size : Int) ≤ (s.size : Int) := by omega
  have h0 : (0 : Int) ≤ (m.size : Int) := by omega
  go_enter Tryd.func59, Tryd.ntmps59
  go_wp2_with fail
  go_ret
  exact ⟨rfl, rfl⟩
theorem hasPrefix_is (s m : ByteArray) (r : Bool) (w : World) (hr : m.data.toList.isPrefixOf s.data.toList = r) :
    Calls Tryd.prog 59 #[.string s, .string m] w fun e w' => e = .returned (.bool r) ∧ w' = w := by
  by_cases h : m.size ≤ s.size
  · have e : ((s.extract 0 m.size).toList == m.toList) = r := by
      rw [ext_pre, ByteArray.toList_eq, ← hr, size_len m]
      rw [Bool.eq_iff_iff, beq_iff_eq, List.isPrefixOf_iff_prefix, List.prefix_iff_eq_take]
      exact eq_comm
    rw [← e]
    exact hasPrefix_fits s m w h
  · have e : r = false := by
      rw [← hr, Bool.eq_false_iff]
      intro h'
      have := (List.isPrefixOf_iff_prefix.1 h').length_le
      rw [size_len, size_len] at h
      exact h this
    subst e
    exact hasPrefix_long s m w (by omega)
theorem sHasPrefix_is (s m : ByteArray) (r : Bool) (w : World) (hr : m.data.toList.isPrefixOf s.data.toList = r) :
    Calls Tryd.prog 53 #[.string s, .string m] w fun e w' => e = .returned (.bool r) ∧ w' = w := by
  have HR := Lib.hid hr
  clear hr
  go_enter Tryd.func53, Tryd.ntmps53
  go_wp2_with fail
  refine (hasPrefix_is s m r _ HR.out).mono ?_
  rintro e w' ⟨rfl, rfl⟩
  go_wp2_with fail
  go_ret
  exact ⟨rfl, rfl⟩
theorem cutPrefix_no (s m : ByteArray) (w : World) (hr : m.data.toList.isPrefixOf s.data.toList = false) :
    Calls Tryd.prog 66 #[.string s, .string m] w fun e w' => e = .returned (.tuple #[.string s, .bool false]) ∧ w' = w := by
  have HR := Lib.hid hr
  clear hr
  go_enter Tryd.func66, Tryd.ntmps66
  go_wp2_with fail
  refine (hasPrefix_is s m false _ HR.out).mono ?_
  rintro e w' ⟨rfl, rfl⟩
  go_wp2_with fail
  go_ret2
  exact ⟨rfl, rfl⟩
theorem cutPrefix_yes (s m : ByteArray) (w : World) (hr : m.data.toList.isPrefixOf s.data.toList = true) :
    Calls Tryd.prog 66 #[.string s, .string m] w fun e w' => e = .returned (.tuple #[.string (s.extract m.size s.size), .bool true]) ∧ w' = w := by
  have h1 : (m.size : Int) ≤ (s.size : Int) := by
    have := (List.isPrefixOf_iff_prefix.1 hr).length_le
    rw [size_len, size_len]; omega
  have h0 : (0 : Int) ≤ (m.size : Int) := by omega
  have HR := Lib.hid hr
  clear hr
  go_enter Tryd.func66, Tryd.ntmps66
  go_wp2_with fail
  refine (hasPrefix_is s m true _ HR.out).mono ?_
  rintro e w' ⟨rfl, rfl⟩
  go_wp2_with fail
  go_ret2
  exact ⟨rfl, rfl⟩
theorem sCutPrefix_any (s m : ByteArray) (w : World) :
    Calls Tryd.prog 64 #[.string s, .string m] w fun e w' => e = .returned (.tuple #[.string (if m.data.toList.isPrefixOf s.data.toList then s.extract m.size s.size else s), .bool (m.data.toList.isPrefixOf s.data.toList)]) ∧ w' = w := by
  cases hr : m.data.toList.isPrefixOf s.data.toList with
  | true =>
    simp only [if_true]
    have HR := Lib.hid hr
    clear hr
    go_enter Tryd.func64, Tryd.ntmps64
    go_wp2_with fail
    refine (cutPrefix_yes s m _ HR.out).mono ?_
    rintro e w' ⟨rfl, rfl⟩
    go_wp2_with fail
    go_ret2
    exact ⟨rfl, rfl⟩
  | false =>
    simp only [Bool.false_eq_true, if_false]
    have HR := Lib.hid hr
    clear hr
    go_enter Tryd.func64, Tryd.ntmps64
    go_wp2_with fail
    refine (cutPrefix_no s m _ HR.out).mono ?_
    rintro e w' ⟨rfl, rfl⟩
    go_wp2_with fail
    go_ret2
    exact ⟨rfl, rfl⟩
/-- A mark is there. -/
theorem take_yes (A : Nat) (s m : ByteArray) (l : List UInt8) (w : World) (hb : Blk w A 58 #[.string s]) (hl : s.data.toList = m.data.toList ++ l) :
    Calls Tryd.prog 57 #[.pointer (some ⟨A, 0, none⟩), .string m] w fun e w' => ∃ q : ByteArray, q.data.toList = l ∧ e = .returned (.bool true) ∧ w' = w.setCell ⟨A, 0, none⟩ (.string q) := by
  have hp : m.data.toList.isPrefixOf s.data.toList = true := by rw [List.isPrefixOf_iff_prefix, hl]; exact List.prefix_append _ _
  have hq : (s.extract m.size s.size).data.toList = l := by rw [ext_suf, hl, size_len m]; simp
  obtain ⟨q, hqe⟩ : ∃ q, q = s.extract m.size s.size := ⟨_, rfl⟩
  have hc := sCutPrefix_any s m w
  rw [hp] at hc
  simp only [if_true] at hc
  rw [← hqe] at hc hq
  have HC := Lib.hid hc
  have HQ := Lib.hid hq
  have c0 : w.cell? ⟨A, 0, none⟩ = some (.string s) := hb.cell 0
  have f0 : w.frozen? ⟨A, 0, none⟩ = false := hb.frozen 0
  clear hp hq hqe hc hl hb
  go_enter Tryd.func57, Tryd.ntmps57
  go_wp2_with fail
  refine HC.out.mono ?_
  rintro e w' ⟨rfl, rfl⟩
  go_wp2_with fail
  go_ret
  exact ⟨q, HQ.out, rfl, rfl⟩
/-- A mark is not there. -/
theorem take_no (A : Nat) (s m : ByteArray) (w : World) (hb : Blk w A 58 #[.string s]) (hl : m.data.toList.isPrefixOf s.data.toList = false) :
    Calls Tryd.prog 57 #[.pointer (some ⟨A, 0, none⟩), .string m] w fun e w' => e = .returned (.bool false) ∧ w' = w.setCell ⟨A, 0, none⟩ (.string s) := by
  have hc := sCutPrefix_any s m w
  rw [hl] at hc
  simp only [Bool.false_eq_true, if_false] at hc
  have HC := Lib.hid hc
  have c0 : w.cell? ⟨A, 0, none⟩ = some (.string s) := hb.cell 0
  have f0 : w.frozen? ⟨A, 0, none⟩ = false := hb.frozen 0
  clear hc hl hb
  go_enter Tryd.func57, Tryd.ntmps57
  go_wp2_with fail
  refine HC.out.mono ?_
  rintro e w' ⟨rfl, rfl⟩
  go_wp2_with fail
  go_ret
  exact ⟨rfl, rfl⟩
theorem need_yes (A : Nat) (s m : ByteArray) (l : List UInt8) (w : World) (hb : Blk w A 58 #[.string s]) (hl : s.data.toList = m.data.toList ++ l) :
    Calls Tryd.prog 58 #[.pointer (some ⟨A, 0, none⟩), .string m] w fun e w' => ∃ q : ByteArray, q.data.toList = l ∧ e = .returned (.tuple #[]) ∧ w' = w.setCell ⟨A, 0, none⟩ (.string q) := by
  have HB := Lib.hid hb
  have HL := Lib.hid hl
  clear hb hl
  go_enter Tryd.func58, Tryd.ntmps58
  go_wp2_with fail
  refine (take_yes A s m l _ HB.out HL.out).mono ?_
  rintro e w' ⟨q, hq, rfl, rfl⟩
  go_wp2_with fail
  go_end0
  exact ⟨q, hq, rfl, rfl⟩
theorem need_no (A : Nat) (s m : ByteArray) (w : World) (hm : m.size ≤ 2) (hb : Blk w A 58 #[.string s]) (hl : m.data.toList.isPrefixOf s.data.toList = false) :
    Calls Tryd.prog 58 #[.pointer (some ⟨A, 0, none⟩), .string m] w fun e w' => (∃ v, e = .panicked [{ v := .iface 9 v, recovered := false }]) ∧ w' = w.setCell ⟨A, 0, none⟩ (.string s) := by
  have hm' : ¬ 9223372036854775807 < 3 + m.size := by omega
  have HB := Lib.hid hb
  have HL := Lib.hid hl
  clear hb hl
  go_enter Tryd.func58, Tryd.ntmps58
  go_wp2_with fail
  refine (take_no A s m _ HB.out HL.out).mono ?_
  rintro e w' ⟨rfl, rfl⟩
  go_wp2_with fail
  all_goals (first | exact ⟨⟨_, rfl⟩, rfl⟩ | exact ⟨rfl, ⟨_, rfl⟩, rfl⟩ | trace_state)
end Go.Proofs.YtdhpcpmjdffgmaaDoor
namespace Go.Proofs.YtdhpcpmjdffgmaaDoor
open Go.RowKit
set_option maxHeartbeats 2000000
set_option maxRecDepth 100000
set_option linter.unusedVariables false

/-- An expression as the program's nodes. -/
def exV : Ex → Value
  | .lit b => .iface 75 (.string ⟨#[chr b]⟩)
  | .join x y => .iface 77 (.agg #[exV x, exV y])
  | .rep x => .iface 79 (.agg #[exV x])
theorem exV_iface (x : Ex) : ∃ t v, exV x = .iface t v := by cases x <;> exact ⟨_, _, rfl⟩
/-- How a reader ends. -/
def RdEnd (r : Option (Ex × List UInt8)) (A : Nat) (w : World) (e : Ending) (w' : World) : Prop :=
  Below A w w' ∧ ((∃ x l, ∃ q : ByteArray, r = some (x, l) ∧ q.data.toList = l ∧ e = .returned (exV x) ∧ Blk w' A 58 #[.string q]) ∨ (r = none ∧ ∃ v, e = .panicked [{ v := .iface 9 v, recovered := false }]))
theorem RdEnd.bad {r : Option (Ex × List UInt8)} {A : Nat} {w w' : World} {v : Value} (h : r = none) (hb : Below A w w') : RdEnd r A w (.panicked [{ v := .iface 9 v, recovered := false }]) w' := ⟨hb, .inr ⟨h, _, rfl⟩⟩
theorem RdEnd.good {r : Option (Ex × List UInt8)} {A : Nat} {w w' : World} {x : Ex} {l : List UInt8} {q : ByteArray} {v : Value} (h : r = some (x, l)) (hq : q.data.toList = l) (hv : v = exV x) (hb : Below A w w') (hB : Blk w' A 58 #[.string q]) : RdEnd r A w (.returned v) w' := ⟨hb, .inl ⟨x, l, q, h, hq, by rw [hv], hB⟩⟩
/-- The letters in the order in which they are asked for. -/
def mkL (k : Nat) : ByteArray := ⟨#[chr (k == 0)]⟩
theorem mkL_list (k : Nat) : (mkL k).data.toList = [chr (k == 0)] := rfl
theorem pre_one (c : UInt8) (l : List UInt8) : [c].isPrefixOf l = true ↔ ∃ l', l = c :: l' := by
  rw [List.isPrefixOf_iff_prefix]
  constructor
  · rintro ⟨l', h⟩; exact ⟨l', h.symm⟩
  · rintro ⟨l', h⟩; exact ⟨l', h.symm⟩
theorem part_lit (b : Bool) (l : List UInt8) : partF (chr b :: l) = some (.lit b, l) := by cases b <;> first | exact part_a l | exact part_b l
/-- No letter in front. -/
theorem part_no {l : List UInt8} (ha : [chr true].isPrefixOf l = false) (hb : [chr false].isPrefixOf l = false) (ho : [40].isPrefixOf l = false) : partF l = none := by
  cases l with
  | nil => rfl
  | cons c l =>
    have f : ∀ d : UInt8, [d].isPrefixOf (c :: l) = false → c ≠ d := fun d h e => by
      subst e
      simp [List.isPrefixOf] at h
    exact part_bad l (f 97 ha) (f 98 hb) (f 40 ho)
theorem behind_no {x : Ex} {l : List UInt8} (hp : [41, 35].isPrefixOf l = false) : behindF (some (x, l)) = none := by
  cases l with
  | nil => rfl
  | cons d l =>
    cases l with
    | nil => rfl
    | cons d' l =>
      have : ¬ (d = 41 ∧ d' = 35) := by
        rintro ⟨rfl, rfl⟩
        simp [List.isPrefixOf] at hp
      simp [behindF, this]
theorem behind_yes (x : Ex) (l : List UInt8) : behindF (some (x, [41, 35] ++ l)) = some (.rep x, l) := by simp [behindF]
def EC (n : Nat) : Prop := ∀ (A : Nat) (s : ByteArray) (w : World), s.size < n → Blk w A 58 #[.string s] →
  Calls Tryd.prog 43 #[.pointer (some ⟨A, 0, none⟩)] w fun e w' => RdEnd (genF none s.data.toList) A w e w'
theorem set_below {A : Nat} {w w' : World} (h : Below A w w') (v : Value) : Below A w (w'.setCell ⟨A, 0, none⟩ v) := h.setCell (Nat.le_refl _) v

theorem partC (n : Nat) (ih : EC n) (A : Nat) (s : ByteArray) (w : World) (hs : s.size ≤ n) (hb : Blk w A 58 #[.string s]) :
    Calls Tryd.prog 52 #[.pointer (some ⟨A, 0, none⟩)] w fun e w' => RdEnd (partF s.data.toList) A w e w' := by
  have hA : A < w.heap.size := hb.lt
  obtain ⟨w1, hw1⟩ : ∃ w1, w1 = w.alloc (.cells #[.string ⟨#[97]⟩, .string ⟨#[98]⟩] 9) := ⟨_, rfl⟩
  obtain ⟨G, hG⟩ : ∃ G, G = w.heap.size := ⟨_, rfl⟩
  have HG : Hid (Blk w1 G 9 #[.string ⟨#[97]⟩, .string ⟨#[98]⟩]) := by rw [hw1, hG]; exact Blk.new _ _ _
  have HB : Hid (Blk w1 A 58 #[.string s]) := by rw [hw1]; exact hb.alloc _
  have HW : Hid (Below A w w1) := by rw [hw1]; exact (Below.refl _ _).alloc (by omega) _
  have hAG : ¬ A = G := by omega
  have HGA : Hid (¬ G = A) := fun e => hAG e.symm
  have HI := Lib.hid ih
  have HS := Lib.hid hs
  clear hb ih hs
  go_enter Tryd.func52, Tryd.ntmps52
  go_wp2_with fail
  rw [← hw1, ← hG]
  clear hw1 hG hA
  go_loopw [8] (fun i wr => ∃ k : Nat, k ≤ 2 ∧ i = .int .i64 k ∧ Hid (0 < k → [chr true].isPrefixOf s.data.toList = false) ∧ Hid (1 < k → [chr false].isPrefixOf s.data.toList = false) ∧ Hid (Blk wr A 58 #[.string s]) ∧ Hid (Blk wr G 9 #[.string ⟨#[97]⟩, .string ⟨#[98]⟩]) ∧ Hid (Below A w wr)) (fun i _ => 2 - (intOf i).toNat)
  case atStart => exact ⟨0, by omega, rfl, fun h => absurd h (by omega), fun h => absurd h (by omega), HB.out, HG.out, HW.out⟩
  case round =>
    obtain ⟨k, hk, rfl, h0, h1, hB, hGG, hW⟩ := hrel
    clear HB HG HW
    by_cases hlt : (k : Int) < 2
    · have hk0 : (0 : Int) ≤ (k : Int) := by omega
      have hcell : wr.cell? ⟨G, k, none⟩ = some (.string (mkL k)) := by
        rw [hGG.out.cell k]
        rcases (show k = 0 ∨ k = 1 by omega) with rfl | rfl <;> rfl
      cases hp : (mkL k).data.toList.isPrefixOf s.data.toList with
      | true =>
        obtain ⟨l, hl⟩ := (pre_one _ _).1 hp
        have HL := Lib.hid hl
        clear hp hl
        go_wp2_with fail
        refine (take_yes A s (mkL k) l _ hB.out (HL.out.trans rfl)).mono ?_
        rintro e w' ⟨q, hq, rfl, rfl⟩
        have HQ := Lib.hid hq
        clear hq
        go_wp2_with fail
        go_ret
        exact RdEnd.good (x := .lit (k == 0)) (l := l) (q := q) (by rw [HL.out]; exact part_lit _ _) HQ.out rfl (set_below hW.out _) (hB.out.set_ 0 (.string q))
      | false =>
        have HP := Lib.hid hp
        clear hp
        go_wp2_with fail
        refine (take_no A s (mkL k) _ hB.out HP.out).mono ?_
        rintro e w' ⟨rfl, rfl⟩
        go_wp2_with fail
        go_roundw
        case rel =>
          refine ⟨k + 1, by omega, by first | rfl | (congr 1), fun _ => ?_, fun h => ?_, hB.out.set_ 0 (.string s), ?_, set_below hW.out _⟩
          · rcases (show k = 0 ∨ k = 1 by omega) with rfl | rfl
            · exact HP.out
            · exact h0.out (by omega)
          · have : k = 1 := by omega
            subst this
            exact HP.out
          · exact (Below.heap_setCell _ _ _ _ HGA.out).trans hGG.out
        case measure => simp [intOf]; omega
    · have hk2 : k = 2 := by omega
      subst hk2
      have ha := h0.out (by omega)
      have hb := h1.out (by omega)
      have HA := Lib.hid ha
      have HB := Lib.hid hb
      clear h0 h1 ha hb hGG
      cases hp : [40].isPrefixOf s.data.toList with
      | false =>
        have HP := Lib.hid hp
        clear hp
        go_wp2_with fail
        refine (need_no A s ⟨#[40]⟩ _ (by decide) hB.out HP.out).mono ?_
        rintro e w' ⟨⟨v, rfl⟩, rfl⟩
        go_wp2_with fail
        exact ⟨rfl, RdEnd.bad (part_no HA.out HB.out HP.out) (set_below hW.out _)⟩
      | true =>
        obtain ⟨l, hl⟩ := (pre_one _ _).1 hp
        have HL := Lib.hid hl
        clear hp hl
        go_wp2_with fail
        refine (need_yes A s ⟨#[40]⟩ l _ hB.out HL.out).mono ?_
        rintro e w' ⟨q, hq, rfl, rfl⟩
        have hqs : q.size < n := by
          have h1 : s.size = (40 :: l).length := by rw [size_len, HL.out]
          have h2 : q.size = l.length := by rw [size_len, hq]
          have := HS.out
          simp at h1; omega
        have HQ := Lib.hid hq
        have HQS := Lib.hid hqs
        obtain ⟨w2, hw2⟩ : ∃ w2, w2 = wr.setCell ⟨A, 0, none⟩ (.string q) := ⟨_, rfl⟩
        have hB2 : Hid (Blk w2 A 58 #[.string q]) := by rw [hw2]; exact hB.out.set_ 0 (.string q)
        have hW2 : Hid (Below A w w2) := by rw [hw2]; exact set_below hW.out _
        rw [← hw2]
        clear hw2 hq hqs hB hW
        go_wp2_with fail
        refine (HI.out A q _ HQS.out hB2.out).mono ?_
        rintro e w3 ⟨hb3, ⟨x, l3, q3, hr3, hq3, rfl, hB3⟩ | ⟨hr3, v, rfl⟩⟩
        · have HB3 := Lib.hid hB3
          have HW3 : Hid (Below A w w3) := hW2.out.trans hb3
          have HR3 : Hid (partF s.data.toList = behindF (some (x, l3))) := by rw [HL.out, part_open, ← HQ.out]; exact congrArg behindF hr3
          have HQ3 := Lib.hid hq3
          clear hB3 hb3 hr3 hq3 hW2 hB2
          cases hp : [41, 35].isPrefixOf l3 with
          | false =>
            have HP := Lib.hid hp
            clear hp
            go_wp2_with fail
            refine (need_no A q3 ⟨#[41, 35]⟩ _ (by decide) HB3.out (by rw [HQ3.out]; exact HP.out)).mono ?_
            rintro e w' ⟨⟨v, rfl⟩, rfl⟩
            go_wp2_with fail
            refine ⟨rfl, RdEnd.bad (HR3.out.trans ?_) (set_below HW3.out _)⟩
            exact behind_no HP.out
          | true =>
            obtain ⟨l4, hl4⟩ := List.isPrefixOf_iff_prefix.1 hp
            have HL4 := Lib.hid hl4
            clear hp hl4
            go_wp2_with fail
            refine (need_yes A q3 ⟨#[41, 35]⟩ l4 _ HB3.out (by rw [HQ3.out, ← HL4.out])).mono ?_
            rintro e w' ⟨q5, hq5, rfl, rfl⟩
            have HQ5 := Lib.hid hq5
            clear hq5
            obtain ⟨t0, v0, hx0⟩ := exV_iface x
            rw [hx0]
            go_wp2_with fail
            go_ret
            exact RdEnd.good (v := .iface 79 (.agg #[.iface t0 v0])) (x := .rep x) (l := l4) (q := q5) (HR3.out.trans (by rw [← HL4.out]; exact behind_yes _ _)) HQ5.out (by show _ = Value.iface _ (.agg #[exV x]); rw [hx0]) (set_below HW3.out _) (HB3.out.set_ 0 (.string q5))
        · have HW3 : Hid (Below A w w3) := hW2.out.trans hb3
          have HR3 : Hid (partF s.data.toList = none) := by rw [HL.out, part_open, ← HQ.out]; exact congrArg behindF hr3
          clear hb3 hr3 hW2 hB2
          go_wp2_with fail
          exact ⟨rfl, RdEnd.bad HR3.out HW3.out⟩

theorem behind_len {x x' : Ex} {l l' : List UInt8} (h : behindF (some (x, l)) = some (x', l')) : l'.length < l.length := by
  cases l with
  | nil => cases h
  | cons d l =>
    cases l with
    | nil => cases h
    | cons d' l =>
      simp only [behindF] at h
      split at h
      · simp only [Option.some.injEq, Prod.mk.injEq] at h
        obtain ⟨_, rfl⟩ := h
        simp only [List.length_cons]; omega
      · cases h
theorem gen_len {acc : Option Ex} {l r : List UInt8} {x : Ex} (h : genF acc l = some (x, r)) : r.length ≤ l.length := by
  unfold genF at h
  cases hp : P l with
  | none => rw [hp] at h; cases h
  | some p =>
    obtain ⟨t, r'⟩ := p
    rw [hp] at h
    have hl := (P_spec hp).2.2.2
    cases hE : endB r' with
    | false => simp [hE] at h
    | true =>
      cases ht : t.ex acc with
      | none => simp [hE, ht] at h
      | some y =>
        simp [hE, ht] at h
        obtain ⟨_, rfl⟩ := h
        exact hl
theorem part_len {l r : List UInt8} {y : Ex} (h : partF l = some (y, r)) : r.length < l.length := by
  cases l with
  | nil => cases h
  | cons c l =>
    by_cases h2 : c = 97
    · subst h2
      rw [part_a] at h
      simp only [Option.some.injEq, Prod.mk.injEq] at h
      obtain ⟨_, rfl⟩ := h
      exact Nat.lt_succ_self _
    by_cases h3 : c = 98
    · subst h3
      rw [part_b] at h
      simp only [Option.some.injEq, Prod.mk.injEq] at h
      obtain ⟨_, rfl⟩ := h
      exact Nat.lt_succ_self _
    by_cases h4 : c = 40
    · subst h4
      rw [part_open] at h
      cases hg : genF none l with
      | none => rw [hg] at h; cases h
      | some p =>
        obtain ⟨x, l1⟩ := p
        rw [hg] at h
        have h1 := behind_len h
        have h2 := gen_len hg
        simp only [List.length_cons]; omega
    · rw [part_bad l h2 h3 h4] at h; cases h
def szAt (A : Nat) (w : World) : Nat := match w.cell? ⟨A, 0, none⟩ with
  | some (.string q) => q.size
  | _ => 0
theorem szAt_of {A : Nat} {w : World} {q : ByteArray} {t : TypeId} (h : Blk w A t #[.string q]) : szAt A w = q.size := by
  unfold szAt
  rw [h.cell 0]
  rfl
theorem end_empty {q : ByteArray} (h : q.toList.isEmpty = true) : endB q.data.toList = true := by
  rw [ByteArray.toList_eq] at h
  unfold endB
  rw [h]; rfl
theorem end_of {q : ByteArray} {b : Bool} (h : q.toList.isEmpty = false) (hb : [41, 35].isPrefixOf q.data.toList = b) : endB q.data.toList = b := by
  rw [ByteArray.toList_eq] at h
  unfold endB
  rw [h, hb]; rfl
theorem exprC (n : Nat) (ih : EC n) : EC (n + 1) := by
  intro A s w hs hb
  have HI := Lib.hid ih
  have HB := Lib.hid hb
  have hsn : s.size ≤ n := by omega
  have HS := Lib.hid hsn
  clear ih hb hs hsn
  go_enter Tryd.func43, Tryd.ntmps43
  go_wp2_with fail
  refine (partC n HI.out A s _ HS.out HB.out).mono ?_
  rintro e w1 ⟨hb1, ⟨x, l, q, hr, hq, rfl, hB1⟩ | ⟨hr, v, rfl⟩⟩
  · have HB1 := Lib.hid hB1
    have HW1 := Lib.hid hb1
    have HR : Hid (genF none s.data.toList = genF (some x) q.data.toList) := by rw [gen_part none _ (.inl rfl), hr, hq]; rfl
    have HQ : Hid (q.size ≤ n) := by
      have h1 := part_len hr
      have h2 : q.size = l.length := by rw [size_len, hq]
      have h3 := HS.out
      rw [size_len] at h3
      show q.size ≤ n
      omega
    clear hB1 hb1 hr hq HB
    go_wp2_with fail
    go_loopw [3] (fun i wr => ∃ (x : Ex) (q : ByteArray), i = exV x ∧ Hid (genF none s.data.toList = genF (some x) q.data.toList) ∧ Hid (q.size ≤ n) ∧ Hid (Blk wr A 58 #[.string q]) ∧ Hid (Below A w wr)) (fun _ wr => szAt A wr)
    case atStart => exact ⟨x, q, rfl, HR.out, HQ.out, HB1.out, HW1.out⟩
    case round =>
      clear HR HQ HB1 HW1
      obtain ⟨x, q, rfl, hR, hQ, hB, hW⟩ := hrel
      have c0 : wr.cell? ⟨A, 0, none⟩ = some (.string q) := hB.out.cell 0
      cases he : q.toList.isEmpty with
      | true =>
        go_wp2_with fail
        go_ret
        exact RdEnd.good (x := x) (q := q) (hR.out.trans (gen_end (end_empty he))) rfl rfl hW.out hB.out
      | false =>
        cases hp : [41, 35].isPrefixOf q.data.toList with
        | true =>
          have HP := Lib.hid hp
          clear hp
          go_wp2_with fail
          refine (sHasPrefix_is q ⟨#[41, 35]⟩ true _ HP.out).mono ?_
          rintro e w' ⟨rfl, rfl⟩
          go_wp2_with fail
          go_ret
          exact RdEnd.good (x := x) (q := q) (hR.out.trans (gen_end (end_of he HP.out))) rfl rfl hW.out hB.out
        | false =>
          have HP := Lib.hid hp
          have HE := Lib.hid (end_of he hp)
          clear hp
          go_wp2_with fail
          refine (sHasPrefix_is q ⟨#[41, 35]⟩ false _ HP.out).mono ?_
          rintro e w' ⟨rfl, rfl⟩
          clear c0 he
          go_wp2_with fail
          refine (partC n HI.out A q _ hQ.out hB.out).mono ?_
          rintro e w2 ⟨hb2, ⟨y, l2, q2, hr2, hq2, rfl, hB2⟩ | ⟨hr2, v, rfl⟩⟩
          · have HB2 := Lib.hid hB2
            have HW2 := Lib.hid (hW.out.trans hb2)
            have HR2 : Hid (genF none s.data.toList = genF (some (.join x y)) q2.data.toList) := by rw [hR.out, gen_part (some x) _ (.inr HE.out), hr2, hq2]; rfl
            have hlt : q2.size < q.size := by
              have h1 := part_len hr2
              have h2 : q2.size = l2.length := by rw [size_len, hq2]
              rw [size_len q]
              omega
            have HLT := Lib.hid hlt
            have hm1 := szAt_of hB2
            clear hB2 hb2 hr2 hq2 hlt
            obtain ⟨t0, v0, hx0⟩ := exV_iface x
            obtain ⟨t1, v1, hx1⟩ := exV_iface y
            rw [hx0, hx1]
            go_wp2_with fail
            go_roundw
            case rel => exact ⟨.join x y, q2, (by show _ = Value.iface _ (.agg #[exV x, exV y]); rw [hx0, hx1]), HR2.out, by have := hQ.out; have := HLT.out; show q2.size ≤ n; omega, HB2.out, HW2.out⟩
            case measure => rw [hm1, szAt_of hB.out]; exact HLT.out
          · have HW2 := Lib.hid (hW.out.trans hb2)
            have HR2 : Hid (genF none s.data.toList = none) := by rw [hR.out, gen_part (some x) _ (.inr HE.out), hr2]; rfl
            clear hb2 hr2
            go_wp2_with fail
            exact ⟨rfl, RdEnd.bad HR2.out HW2.out⟩
  · have HW1 := Lib.hid hb1
    have HR : Hid (genF none s.data.toList = none) := by rw [gen_part none _ (.inl rfl), hr]; rfl
    clear hb1 hr
    go_wp2_with fail
    exact ⟨rfl, RdEnd.bad HR.out HW1.out⟩
theorem expr_all : ∀ n, EC n
  | 0 => fun A s w h => absurd h (by omega)
  | n + 1 => exprC n (expr_all n)
theorem expr_any (A : Nat) (s : ByteArray) (w : World) (hb : Blk w A 58 #[.string s]) :
    Calls Tryd.prog 43 #[.pointer (some ⟨A, 0, none⟩)] w fun e w' => RdEnd (genF none s.data.toList) A w e w' := expr_all (s.size + 1) A s w (by omega) hb
end Go.Proofs.YtdhpcpmjdffgmaaDoor
namespace Go.Proofs.YtdhpcpmjdffgmaaDoor
open Go.RowKit
set_option maxHeartbeats 2000000
set_option maxRecDepth 100000
set_option linter.unusedVariables false

/-- What the whole text is, at any length. -/
def allF (l : List UInt8) : Option Ex := match genF none l with
  | some (x, []) => some x
  | _ => none
theorem node_all {l : List UInt8} (h : l.length ≤ 120) : nodeF l = allF l := by unfold nodeF allF; rw [if_pos h] <;> rfl
theorem node_long {l : List UInt8} (h : ¬ l.length ≤ 120) : nodeF l = none := by unfold nodeF; rw [if_neg h]
theorem all_of {l : List UInt8} {x : Ex} {r : List UInt8} (h : genF none l = some (x, r)) : allF l = if r = [] then some x else none := by
  unfold allF
  rw [h]
  cases r <;> rfl
theorem all_none {l : List UInt8} (h : genF none l = none) : allF l = none := by unfold allF; rw [h]
def AllEnd (r : Option Ex) (A : Nat) (w : World) (e : Ending) (w' : World) : Prop :=
  Below A w w' ∧ ((∃ x, r = some x ∧ e = .returned (exV x)) ∨ (r = none ∧ ∃ v, e = .panicked [{ v := .iface 9 v, recovered := false }]))
theorem whole_any (A : Nat) (s : ByteArray) (w : World) (hb : Blk w A 58 #[.string s]) :
    Calls Tryd.prog 28 #[.pointer (some ⟨A, 0, none⟩)] w fun e w' => AllEnd (allF s.data.toList) A w e w' := by
  have HB := Lib.hid hb
  clear hb
  go_enter Tryd.func28, Tryd.ntmps28
  go_wp2_with fail
  refine (expr_any A s _ HB.out).mono ?_
  rintro e w1 ⟨hb1, ⟨x, l, q, hr, hq, rfl, hB1⟩ | ⟨hr, v, rfl⟩⟩
  · have HW := Lib.hid hb1
    have HR := Lib.hid (all_of hr)
    have c0 : w1.cell? ⟨A, 0, none⟩ = some (.string q) := hB1.cell 0
    clear hb1 hr hB1
    cases he : q.toList.isEmpty with
    | true =>
      have HE : Hid (l = []) := by rw [ByteArray.toList_eq, hq] at he; exact List.isEmpty_iff.1 he
      clear hq
      go_wp2_with fail
      go_ret
      exact ⟨HW.out, .inl ⟨x, by rw [HR.out, if_pos HE.out], rfl⟩⟩
    | false =>
      have HE : Hid (¬ l = []) := by
        rw [ByteArray.toList_eq, hq] at he
        intro e
        rw [e] at he
        cases he
      clear hq
      go_wp2_with fail
      exact ⟨rfl, HW.out, .inr ⟨by rw [HR.out, if_neg HE.out], _, rfl⟩⟩
  · have HW := Lib.hid hb1
    have HR := Lib.hid (all_none hr)
    clear hb1 hr
    go_wp2_with fail
    exact ⟨rfl, HW.out, .inr ⟨HR.out, _, rfl⟩⟩

/-! The deferred closure. -/
theorem catchN_panic (p q : Addr) (x : Value) (y : Bool) (u : TypeId) (pv : Value) (older : List PanicEntry) (w : World) (hpq : ¬ p = q) (hc : w.cell? p = some x) (hz : w.frozen? p = false) (hc' : w.cell? q = some (.bool y)) (hz' : w.frozen? q = false) :
    CallsD Tryd.prog 27 #[.pointer (some p), .pointer (some q)] (.panicking ({ v := .iface u pv, recovered := false } :: older)) w fun e u' w' =>
      e = .returned (.tuple #[]) ∧ u' = .panicking ({ v := .iface u pv, recovered := true } :: older) ∧ w' = (w.setCell p .nilIface).setCell q (.bool false) := by
  have hcq : (w.setCell p .nilIface).cell? q = some (.bool y) := by rw [World.cell?_setCell_other _ _ _ _ hpq]; exact hc'
  refine callsD_of_wpS Tryd.func27 rfl fun c₀ cs hu => ?_
  apply wpS_seq
  apply wpS_region
  simp [wpOpsS, go_sem, recoverD, hu, Tryd.ntmps27, Exit.thenS]
  refine wpS_cond (t := true) (by simp [Act.eval, Array.replicate]) ?_
  simp only [if_true]
  apply wpS_region
  simp [wpOpsS, go_sem, hc, hz, hcq, hz', bodyPostS, results, Tryd.results27]

theorem catchN_idle (p q : Addr) (w : World) :
    CallsD Tryd.prog 27 #[.pointer (some p), .pointer (some q)] .returning w fun e u' w' => e = .returned (.tuple #[]) ∧ u' = .returning ∧ w' = w := by
  refine callsD_of_wpS Tryd.func27 rfl fun c₀ cs hu => ?_
  apply wpS_seq
  apply wpS_region
  simp [wpOpsS, go_sem, recoverD, hu, Tryd.ntmps27, Exit.thenS]
  refine wpS_cond (t := false) (by simp [Act.eval, Array.replicate]) ?_
  simp only [Bool.false_eq_true, if_false]
  refine wpS_of_wp (wp_skip ?_)
  cases c₀
  simp_all [bodyPostS, results, Tryd.results27]

/-- The world in which the two results have been made. -/
def twoR (w : World) : World := (w.alloc (.cells #[.nilIface] 38)).alloc (.cells #[.bool false] 4)
theorem below2 (w : World) : Below w.heap.size w (twoR w) := ((Below.refl _ _).alloc (Nat.le_refl _) _).alloc (by simp) _
theorem nodeOf_long (s : ByteArray) (w : World) (hs : ¬ s.size ≤ 120) :
    Calls Tryd.prog 17 #[.string s] w fun e w' => e = .returned (.tuple #[.nilIface, .bool false]) ∧ Below w.heap.size w w' := by
  have hs' : (120 : Int) < (s.size : Int) := by omega
  have HB := Lib.hid (below2 w)
  go_enter_defers Tryd.func17, Tryd.ntmps17
  go_wp2_with fail
  simp [bodyPostD, Leaves, results, Tryd.results17, go_sem]
  exact HB.out

/-- In the world in which the reader has been made. -/
def rdW (w : World) (s : ByteArray) : World := (twoR w).alloc (.cells #[.string s] 58)
theorem rdW_size (w : World) (s : ByteArray) : (rdW w s).heap.size = w.heap.size + 3 := by unfold rdW twoR; simp
theorem rd_c0 (w : World) (s : ByteArray) : (rdW w s).cell? ⟨w.heap.size, 0, none⟩ = some .nilIface := by unfold rdW twoR; simp [go_sem]
theorem rd_c1 (w : World) (s : ByteArray) : (rdW w s).cell? ⟨w.heap.size + 1, 0, none⟩ = some (.bool false) := by unfold rdW twoR; simp [go_sem]
theorem rd_f0 (w : World) (s : ByteArray) : (rdW w s).frozen? ⟨w.heap.size, 0, none⟩ = false := by unfold rdW twoR; simp [go_sem]
theorem rd_f1 (w : World) (s : ByteArray) : (rdW w s).frozen? ⟨w.heap.size + 1, 0, none⟩ = false := by unfold rdW twoR; simp [go_sem]
theorem rd_below (w : World) (s : ByteArray) : Below w.heap.size w (rdW w s) := (below2 w).alloc (by unfold twoR; simp <;> omega) _
theorem nodeOf_good (s : ByteArray) (w : World) (hs : s.size ≤ 120) (x : Ex) (hx : allF s.data.toList = some x) :
    Calls Tryd.prog 17 #[.string s] w fun e w' => e = .returned (.tuple #[exV x, .bool true]) ∧ Below w.heap.size w w' := by
  have HV := Lib.hid hx
  clear hx
  have hs' : ¬ (120 : Int) < (s.size : Int) := by omega
  have HK : Hid (Blk (rdW w s) (w.heap.size + 2) 58 #[.string s]) := by
    have h := Blk.new (twoR w) 58 #[.string s]
    have e : (twoR w).heap.size = w.heap.size + 2 := by unfold twoR; simp
    rw [e] at h
    exact h
  have hmf : ∀ (fn : Fn) (first cap : Array Value) (w : World), (Instr.makeFunc fn first cap).run Tryd.prog w = .ok (.func fn first cap) w := fun _ _ _ _ => rfl
  go_enter_defers Tryd.func17, Tryd.ntmps17
  go_wp2_with fail
  refine (whole_any _ s _ HK.out).mono ?_
  rintro e w1 ⟨hb, ⟨x', hx', rfl⟩ | ⟨hn, h'⟩⟩
  · have e1 : x' = x := Option.some.inj (hx'.symm.trans HV.out)
    subst e1
    clear hx'
    have c0 : w1.cell? ⟨w.heap.size, 0, none⟩ = some .nilIface := (hb.cell (p := ⟨w.heap.size, 0, none⟩) (by show w.heap.size < w.heap.size + 2; omega)).trans (rd_c0 w s)
    have c1 : w1.cell? ⟨w.heap.size + 1, 0, none⟩ = some (.bool false) := (hb.cell (p := ⟨w.heap.size + 1, 0, none⟩) (by show w.heap.size + 1 < w.heap.size + 2; omega)).trans (rd_c1 w s)
    have f0 : w1.frozen? ⟨w.heap.size, 0, none⟩ = false := (hb.frozen (p := ⟨w.heap.size, 0, none⟩) (by show w.heap.size < w.heap.size + 2; omega)).trans (rd_f0 w s)
    have f1 : w1.frozen? ⟨w.heap.size + 1, 0, none⟩ = false := (hb.frozen (p := ⟨w.heap.size + 1, 0, none⟩) (by show w.heap.size + 1 < w.heap.size + 2; omega)).trans (rd_f1 w s)
    have hbw : Below w.heap.size w w1 := (rd_below w s).trans (hb.mono (by omega))
    have HB := Lib.hid hbw
    clear hb hbw
    obtain ⟨t0, v0, hx0⟩ := exV_iface x'
    rw [hx0]
    go_wp2
    refine leaves_cons (f := 27) (args := #[.pointer (some ⟨w.heap.size, 0, none⟩), .pointer (some ⟨w.heap.size + 1, 0, none⟩)]) (by simp) (by simp [go_sem]) ?_
    refine (catchN_idle ⟨w.heap.size, 0, none⟩ ⟨w.heap.size + 1, 0, none⟩ _).mono ?_
    rintro e u' w'' ⟨rfl, rfl, rfl⟩
    have hB := (HB.out.setCell (p := ⟨w.heap.size, 0, none⟩) (Nat.le_refl _) (.iface t0 v0)).setCell (p := ⟨w.heap.size + 1, 0, none⟩) (Nat.le_succ _) (.bool true)
    simp [Leaves, settle, results, Tryd.results17, go_sem, c0, c1]
    exact ⟨hx0.symm, hB⟩
  · rw [HV.out] at hn; cases hn
theorem nodeOf_bad (s : ByteArray) (w : World) (hs : s.size ≤ 120) (hx : allF s.data.toList = none) :
    Calls Tryd.prog 17 #[.string s] w fun e w' => e = .returned (.tuple #[.nilIface, .bool false]) ∧ Below w.heap.size w w' := by
  have HV := Lib.hid hx
  clear hx
  have hs' : ¬ (120 : Int) < (s.size : Int) := by omega
  have HK : Hid (Blk (rdW w s) (w.heap.size + 2) 58 #[.string s]) := by
    have h := Blk.new (twoR w) 58 #[.string s]
    have e : (twoR w).heap.size = w.heap.size + 2 := by unfold twoR; simp
    rw [e] at h
    exact h
  have hmf : ∀ (fn : Fn) (first cap : Array Value) (w : World), (Instr.makeFunc fn first cap).run Tryd.prog w = .ok (.func fn first cap) w := fun _ _ _ _ => rfl
  go_enter_defers Tryd.func17, Tryd.ntmps17
  go_wp2_with fail
  refine (whole_any _ s _ HK.out).mono ?_
  rintro e w1 ⟨hb, ⟨x', hx', rfl⟩ | ⟨hn, pv, rfl⟩⟩
  · rw [HV.out] at hx'; cases hx'
  · have c0 : w1.cell? ⟨w.heap.size, 0, none⟩ = some .nilIface := (hb.cell (p := ⟨w.heap.size, 0, none⟩) (by show w.heap.size < w.heap.size + 2; omega)).trans (rd_c0 w s)
    have c1 : w1.cell? ⟨w.heap.size + 1, 0, none⟩ = some (.bool false) := (hb.cell (p := ⟨w.heap.size + 1, 0, none⟩) (by show w.heap.size + 1 < w.heap.size + 2; omega)).trans (rd_c1 w s)
    have f0 : w1.frozen? ⟨w.heap.size, 0, none⟩ = false := (hb.frozen (p := ⟨w.heap.size, 0, none⟩) (by show w.heap.size < w.heap.size + 2; omega)).trans (rd_f0 w s)
    have f1 : w1.frozen? ⟨w.heap.size + 1, 0, none⟩ = false := (hb.frozen (p := ⟨w.heap.size + 1, 0, none⟩) (by show w.heap.size + 1 < w.heap.size + 2; omega)).trans (rd_f1 w s)
    have hbw : Below w.heap.size w w1 := (rd_below w s).trans (hb.mono (by omega))
    have HB := Lib.hid hbw
    clear hb hbw hn
    go_wp2
    refine leaves_cons (f := 27) (args := #[.pointer (some ⟨w.heap.size, 0, none⟩), .pointer (some ⟨w.heap.size + 1, 0, none⟩)]) (by simp) (by simp [go_sem]) ?_
    refine (catchN_panic ⟨w.heap.size, 0, none⟩ ⟨w.heap.size + 1, 0, none⟩ .nilIface false 9 pv [] _ (by simp) c0 f0 c1 f1).mono ?_
    rintro e u' w'' ⟨rfl, rfl, rfl⟩
    have hB := (HB.out.setCell (p := ⟨w.heap.size, 0, none⟩) (Nat.le_refl _) .nilIface).setCell (p := ⟨w.heap.size + 1, 0, none⟩) (Nat.le_succ _) (.bool false)
    simp [Leaves, settle, results, Tryd.results17, go_sem, c0, c1]
    exact hB
/-- A text's nodes. -/
theorem nodeOf_yes (s : ByteArray) (w : World) (x : Ex) (hx : nodeF s.data.toList = some x) :
    Calls Tryd.prog 17 #[.string s] w fun e w' => e = .returned (.tuple #[exV x, .bool true]) ∧ Below w.heap.size w w' := by
  by_cases h : s.data.toList.length ≤ 120
  · exact nodeOf_good s w (by rw [size_len]; exact h) x (by rw [← node_all h]; exact hx)
  · rw [node_long h] at hx; cases hx
theorem nodeOf_no (s : ByteArray) (w : World) (hx : nodeF s.data.toList = none) :
    Calls Tryd.prog 17 #[.string s] w fun e w' => e = .returned (.tuple #[.nilIface, .bool false]) ∧ Below w.heap.size w w' := by
  by_cases h : s.data.toList.length ≤ 120
  · exact nodeOf_bad s w (by rw [size_len]; exact h) (by rw [← node_all h]; exact hx)
  · exact nodeOf_long s w (by rw [size_len]; exact h)
end Go.Proofs.YtdhpcpmjdffgmaaDoor
