/- Rows of steps and automata of the call's own, marked and held, as the laws do it; automata as results. Conditions: at most 2^20 and one of each. -/
import Derived.Test.YtfdbbopanankgaaDoorMarkA
import Derived.Test.YtfdbbopanankgaaDoorEqA
namespace Go.Proofs.YtfdbbopanankgaaDoor
open Go.RowKit
set_option maxHeartbeats 2000000
set_option maxRecDepth 100000
set_option linter.unusedVariables false

/-- Block g holds the steps ss, and behind them whatever. -/
def SX (w : World) (g : Nat) (t : TypeId) (ss : List StepD) (ex : List Value) : Prop := Blk w g t (flatS ss ++ ex).toArray
theorem SX.at_ {w : World} {g : Nat} {t : TypeId} {ss : List StepD} {ex : List Value} (h : SX w g t ss ex) {k : Nat} (hk : k < ss.length) : StepAt w g (k * 4) (ss.getD k default) := by
  obtain ⟨h0, h1, h2, h3⟩ := flatS_get ss k hk
  have hl := flatS_len ss
  refine ⟨?_, ?_, ?_, ?_⟩
  · rw [Blk.cell h, List.getElem?_toArray, List.getElem?_append_left (by omega)]; exact h0
  · rw [Blk.cell h, List.getElem?_toArray, List.getElem?_append_left (by omega)]; exact h1
  · rw [Blk.cell h, List.getElem?_toArray, List.getElem?_append_left (by omega)]; exact h2
  · rw [Blk.cell h, List.getElem?_toArray, List.getElem?_append_left (by omega)]; exact h3
theorem SX.fz {w : World} {g : Nat} {t : TypeId} {ss : List StepD} {ex : List Value} (h : SX w g t ss ex) (k : Nat) : w.frozen? ⟨g, k, none⟩ = false := Blk.frozen h k
theorem SX.below {w w' : World} {g : Nat} {t : TypeId} {ss : List StepD} {ex : List Value} (h : SX w g t ss ex) (hb : Below w.heap.size w w') : SX w' g t ss ex := Blk.below h hb (Blk.lt h)
theorem SX.of_set {w : World} {g : Nat} {t : TypeId} {ss us : List StepD} {ex : List Value} (h : SX w g t ss ex) {i : Nat} {u : Value} (hi : i < ss.length * 4) (he : (flatS ss).set i u = flatS us) : SX (w.setCell ⟨g, i, none⟩ u) g t us ex := by
  have h1 := Blk.set_ h i u
  unfold SX
  rw [← he, ← List.set_append_left _ _ (by rw [flatS_len]; exact hi)]
  simpa using h1
theorem SX.own {w : World} {B g n cap : Nat} {ss : List StepD} (h : w.ownsRow B 75 4 (.slice (some ⟨g, 0, none⟩) n cap) n (flatS ss)) :
    ∃ ex, SX w g 75 ss ex ∧ (flatS ss ++ ex).length = cap * 4 ∧ n ≤ cap ∧ cap ≤ maxLen ∧ B ≤ g ∧ ss.length = n := by
  have hl := h.1
  rcases h.2 with ⟨hv, _⟩ | ⟨g', cap', cur, hv, hb, hg, h1, h2, h3, h4⟩
  · cases hv
  · cases hv
    have e : cur.toList = flatS ss ++ cur.toList.drop (n * 4) := by rw [← h4, List.take_append_drop]
    refine ⟨cur.toList.drop (n * 4), ?_, ?_, h1, h2, hb, by rw [flatS_len] at hl; omega⟩
    · unfold SX Blk
      rw [← e]
      exact hg
    · rw [← e]; simpa using h3
theorem SX.to_own {w : World} {B g n cap : Nat} {us : List StepD} {ex : List Value} (h : SX w g 75 us ex) (hc : us.length * 4 + ex.length = cap * 4) (hn : us.length = n) (h1 : n ≤ cap) (h2 : cap ≤ maxLen) (hB : B ≤ g) :
    w.ownsRow B 75 4 (.slice (some ⟨g, 0, none⟩) n cap) n (flatS us) := by
  refine ⟨by rw [flatS_len, hn], .inr ⟨g, cap, _, rfl, hB, h, h1, h2, ?_, ?_⟩⟩
  · simp [flatS_len]; omega
  · show (flatS us ++ ex).take (n * 4) = _
    rw [List.take_append_of_le_length (by rw [flatS_len, hn]; exact Nat.le_refl _), List.take_of_length_le (by rw [flatS_len, hn]; exact Nat.le_refl _)]

theorem own4_under {w w' : World} {base n : Nat} {t : TypeId} {x : Value} {xs : List Value} (h : w.ownsRow base t 4 x n xs) (hb : Below w.heap.size w w') : w'.ownsRow base t 4 x n xs := by
  refine h.kept (row := none) ⟨hb.os, hb.tape, hb.output, hb.size, fun k hk _ => hb.block k hk⟩ ?_
  cases x.ownBlock
  · exact Or.inl rfl
  · exact Or.inr (by simp)
theorem own4_base {w : World} {base base' n : Nat} {t : TypeId} {x : Value} {xs : List Value} (h : w.ownsRow base t 4 x n xs) (hb : base' ≤ base) : w.ownsRow base' t 4 x n xs := by
  rcases h with ⟨h1, h2 | ⟨g, cap, cur, hv, hg, rest⟩⟩
  · exact ⟨h1, .inl h2⟩
  · exact ⟨h1, .inr ⟨g, cap, cur, hv, Nat.le_trans hb hg, rest⟩⟩
/-- Two rows of different element types share no block, whatever their strides. -/
theorem own_apart {w : World} {B B' n n' k k' : Nat} {t t' : TypeId} {x x' : Value} {xs xs' : List Value} (h : w.ownsRow B t k x n xs) (h' : w.ownsRow B' t' k' x' n' xs') (hne : t ≠ t') : x.ownBlock = none ∨ x.ownBlock ≠ x'.ownBlock := by
  rcases h.2 with ⟨rfl, _⟩ | ⟨g, cap, cur, rfl, _, hg, _⟩
  · exact Or.inl rfl
  · rcases h'.2 with ⟨rfl, _⟩ | ⟨g', cap', cur', rfl, _, hg', _⟩
    · exact Or.inr (by simp [Value.ownBlock])
    · right
      intro e
      simp [Value.ownBlock] at e
      subst e
      rw [hg] at hg'
      injection hg' with hg'
      injection hg' with _ ht
      exact hne ht

theorem own_ne_blk {w : World} {B n k j : Nat} {t t' : TypeId} {x : Value} {xs : List Value} {cs : Array Value} (h : w.ownsRow B t k x n xs) (hj : Blk w j t' cs) (hne : t ≠ t') : some j ≠ x.ownBlock := by
  rcases h.2 with ⟨rfl, _⟩ | ⟨g, cap, cur, rfl, _, hg, _⟩
  · simp [Value.ownBlock]
  · intro e
    simp [Value.ownBlock] at e
    subst e
    unfold Blk at hj
    rw [hg] at hj
    injection hj with hj
    injection hj with _ ht
    exact hne ht
theorem bytes_self (t : ByteArray) : (t.toList == t.toList) = true := by simp
theorem dec_le : ∀ k : Nat, (Lib.decDigits k).length ≤ k + 1 := fun k => by
  induction k using Nat.strongRecOn with
  | ind k ih =>
    by_cases h : 9 < k
    · rw [dec_big h, List.length_append]
      have := ih (k / 10) (by omega)
      simp
      omega
    · rw [dec_small h]; simp
theorem mtx_small (k : Nat) (h : k ≤ 1099511627776000) : (mtx k).size ≤ 9223372036854775807 := by
  unfold mtx
  rw [ByteArray.size_append]
  have := dec_le k
  show 1 + (Lib.decDigits k).toArray.size ≤ _
  simp
  omega
/-! Numbers marked and held from any number on. -/
def msk (k0 n : Nat) : List Int := (List.range n).map fun (i : Nat) => ((k0 + i : Nat) : Int)
theorem msk_len (k0 n : Nat) : (msk k0 n).length = n := by simp [msk]
theorem msk_at {k0 n k : Nat} (h : k < n) : (msk k0 n).getD k 0 = ((k0 + k : Nat) : Int) := by
  rw [List.getD_eq_getElem?_getD, List.getElem?_eq_getElem (by rw [msk_len]; exact h)]; simp [msk]
theorem msk_next (k0 k : Nat) : msk k0 k ++ [((k0 + k : Nat) : Int)] = msk k0 (k + 1) := by simp [msk, List.range_succ]
/-! Automata as results. -/
/-- An automaton's three slices read as these lists, out of blocks below B. -/
def ARead (w : World) (B : Nat) (x1 x2 x3 : Value) (xs ys : List Int) (ss : List StepD) : Prop :=
  (∃ A c, x1 = .slice A xs.length c ∧ Ints w B A xs) ∧ (∃ A c, x2 = .slice A ys.length c ∧ Ints w B A ys) ∧ (∃ A c, x3 = .slice A ss.length c ∧ SRow w B A ss)
theorem ARead.below {w w' : World} {B : Nat} {x1 x2 x3 : Value} {xs ys : List Int} {ss : List StepD} (h : ARead w B x1 x2 x3 xs ys ss) (hb : Below B w w') : ARead w' B x1 x2 x3 xs ys ss := by
  obtain ⟨⟨A, c, h1, h2⟩, ⟨A', c', h3, h4⟩, ⟨A'', c'', h5, h6⟩⟩ := h
  exact ⟨⟨A, c, h1, h2.below hb⟩, ⟨A', c', h3, h4.below hb⟩, ⟨A'', c'', h5, h6.below hb⟩⟩
theorem ARead.more {w : World} {B B' : Nat} {x1 x2 x3 : Value} {xs ys : List Int} {ss : List StepD} (h : ARead w B x1 x2 x3 xs ys ss) (hb : B ≤ B') : ARead w B' x1 x2 x3 xs ys ss := by
  obtain ⟨⟨A, c, h1, h2⟩, ⟨A', c', h3, h4⟩, ⟨A'', c'', h5, h6⟩⟩ := h
  exact ⟨⟨A, c, h1, h2.more hb⟩, ⟨A', c', h3, h4.more hb⟩, ⟨A'', c'', h5, h6.more hb⟩⟩
/-- An automaton's three slices are the call's own, no two share a block. -/
def AOwn (w : World) (B : Nat) (x1 x2 x3 : Value) (xs ys : List Int) (ss : List StepD) : Prop :=
  w.ownsRow B 3 1 x1 xs.length (xs.map (Value.int .i64)) ∧ w.ownsRow B 3 1 x2 ys.length (ys.map (Value.int .i64)) ∧ w.ownsRow B 75 4 x3 ss.length (flatS ss) ∧ (x1.ownBlock = none ∨ x1.ownBlock ≠ x2.ownBlock) ∧
  xs.length ≤ 1048577 ∧ ys.length ≤ 1048577 ∧ ss.length ≤ 1048577 ∧ ∀ s ∈ ss, s.le.size ≤ 9223372036854775807
theorem AOwn.under {w w' : World} {B : Nat} {x1 x2 x3 : Value} {xs ys : List Int} {ss : List StepD} (h : AOwn w B x1 x2 x3 xs ys ss) (hb : Below w.heap.size w w') : AOwn w' B x1 x2 x3 xs ys ss := by
  obtain ⟨h1, h2, h3, h4⟩ := h
  exact ⟨own_under h1 hb, own_under h2 hb, own4_under h3 hb, h4⟩
theorem own_read4 {w : World} {B n : Nat} {x : Value} {ss : List StepD} (h : w.ownsRow B 75 4 x n (flatS ss)) (hn : ss.length = n) (h1 : n ≤ 1048577) (hs : ∀ s ∈ ss, s.le.size ≤ 9223372036854775807) : ∃ A c, x = .slice A ss.length c ∧ SRow w w.heap.size A ss := by
  rcases h.2 with ⟨rfl, rfl⟩ | ⟨g, cap, cur, rfl, hr⟩
  · have e : ss = [] := by cases ss; rfl; simp at hn
    subst e
    exact ⟨none, 0, rfl, SRow.nil _ _ _⟩
  · obtain ⟨ex, hx, _⟩ := SX.own h
    refine ⟨_, cap, by rw [hn], by omega, hs, fun _ => ⟨g, 0, rfl, Blk.lt hx, fun k hk => by rw [Nat.zero_add]; exact hx.at_ hk⟩⟩
theorem AOwn.read {w : World} {B : Nat} {x1 x2 x3 : Value} {xs ys : List Int} {ss : List StepD} (h : AOwn w B x1 x2 x3 xs ys ss) : ARead w w.heap.size x1 x2 x3 xs ys ss := by
  obtain ⟨h1, h2, h3, _, l1, l2, l3, l4⟩ := h
  obtain ⟨A, c, e, _, i⟩ := own_ints h1 (by unfold maxLen; omega)
  obtain ⟨A', c', e', _, i'⟩ := own_ints h2 (by unfold maxLen; omega)
  obtain ⟨A'', c'', e'', i''⟩ := own_read4 h3 rfl l3 l4
  exact ⟨⟨A, c, e, i⟩, ⟨A', c', e', i'⟩, ⟨A'', c'', e'', i''⟩⟩
theorem Ins.under {B T P : Nat} {w w' : World} (h : Ins B T w w') (hP : P ≤ B) (hw : P ≤ w.heap.size) : Below P w w' :=
  ⟨h.1, h.2.1, h.2.2.1, h.2.2.2.1, fun k hk => h.2.2.2.2 k (Nat.lt_of_lt_of_le hk hw) (Or.inl (Nat.lt_of_lt_of_le hk hP))⟩
theorem Ins.own4 {B T base n : Nat} {w w' : World} {t : TypeId} {x : Value} {xs : List Value} (h : Ins B T w w') (hx : w.ownsRow base t 4 x n xs) (ho : ∀ j, x.ownBlock = some j → j < B ∨ T ≤ j) : w'.ownsRow base t 4 x n xs := by
  rcases hx with ⟨h1, h2 | ⟨g, cap, cur, rfl, hb, hg, hr⟩⟩
  · exact ⟨h1, Or.inl h2⟩
  · exact ⟨h1, Or.inr ⟨g, cap, cur, rfl, hb, (h.2.2.2.2 g (Array.getElem?_eq_some_iff.1 hg).1 (ho g rfl)).trans hg, hr⟩⟩
theorem Ins.aown {B T E : Nat} {w w' : World} {x1 x2 x3 : Value} {xs ys : List Int} {ss : List StepD} (h : Ins B T w w') (ha : AOwn w E x1 x2 x3 xs ys ss) (hT : T ≤ E) : AOwn w' E x1 x2 x3 xs ys ss := by
  obtain ⟨h1, h2, h3, h4⟩ := ha
  exact ⟨h.own h1 (fun j hj => Or.inr (Nat.le_trans hT (h1.lt j hj).1)), h.own h2 (fun j hj => Or.inr (Nat.le_trans hT (h2.lt j hj).1)), h.own4 h3 (fun j hj => Or.inr (Nat.le_trans hT (h3.lt j hj).1)), h4⟩
/-- An automaton and a truth as an answer. -/
structure AutV where
  m : Int
  xs : List Int
  ys : List Int
  ss : List StepD
  ok : Bool
def AEnd (r : AutV) (w : World) (e : Ending) (w' : World) : Prop :=
  ∃ x1 x2 x3, e = .returned (.tuple #[.agg #[.int .i64 r.m, x1, x2, x3], .bool r.ok]) ∧ AOwn w' w.heap.size x1 x2 x3 r.xs r.ys r.ss ∧ Below w.heap.size w w'
def SEnd (r : AutV) (w : World) (e : Ending) (w' : World) : Prop :=
  ∃ x1 x2 x3, e = .returned (.tuple #[.agg #[.int .i64 r.m, x1, x2, x3], .bool r.ok]) ∧ ARead w' w'.heap.size x1 x2 x3 r.xs r.ys r.ss ∧ Below w.heap.size w w'
def noneV : AutV := ⟨0, [], [], [], false⟩
theorem AOwn.none (w : World) (B : Nat) : AOwn w B (.slice none 0 0) (.slice none 0 0) (.slice none 0 0) [] [] [] :=
  ⟨World.ownsRow_nil _ _ _ _, World.ownsRow_nil _ _ _ _, World.ownsRow_nil _ _ _ _, Or.inl rfl, by simp, by simp, by simp, fun s hs => by cases hs⟩
/-- The marks of an automaton with so many of each. -/
def AMark (w : World) (B : Nat) (x1 x2 x3 : Value) (a1 a2 a3 : Nat) : Prop := AOwn w B x1 x2 x3 (msk 1 a1) (msk (1 + a1) a2) (markS (1 + a1 + a2) a3)
end Go.Proofs.YtfdbbopanankgaaDoor
