/- All short words as a list: the program's, collected from its iterator, and the model's; in new memory; nothing that was there changes. No condition. -/
import Derived.Test.YtlfffoglldobeaaWordsI
import Derived.Test.YtlfffoglldobeaaWordsS
import Derived.Test.YtlfffoglldobeaaValD
import Derived.Maps.OwnIn
namespace Go.Proofs.Ytlfffoglldobeaa
open Go.RowKit Go.Shelf
attribute [local go_sem] Oper.semAt_some
set_option maxHeartbeats 4000000
set_option maxRecDepth 100000
set_option linter.unusedVariables false

theorem own_baseW {w : World} {base base' n : Nat} {t : TypeId} {x : Value} {xs : List Value} (h : w.ownsRow base t 1 x n xs) (hb : base' ≤ base) : w.ownsRow base' t 1 x n xs := by
  obtain ⟨h1, h2⟩ := h
  refine ⟨h1, ?_⟩
  rcases h2 with h2 | ⟨g, cap, cur, e, hg, rest⟩
  · exact Or.inl h2
  · exact Or.inr ⟨g, cap, cur, e, Nat.le_trans hb hg, rest⟩
theorem SeqOwn.later {α : Type} {F : Fence} {n : Nat} {P : Program} {g : Nat} {lb : Array Value} {encs : α → Array Value} {Y : Nat → Prop} {S : List α → Prop} {N : Nat} {w w' : World} (h : SeqOwn F n P g lb encs Y S N w) (hb : Below w.heap.size w w') : SeqOwn F n P g lb encs Y S N w' :=
  fun l J W hW => h l J W (hb.trans (hW.mono hb.size))
theorem row_far {v : Value} {T : Nat} (h : ∀ j, v.ownBlock = some j → T < j) : some T ≠ v.ownBlock := fun e => by have := h T e.symm; omega
/-- A variable that holds a slice of words of the call's own; none of X is its block. -/
def ListW (W : World) (T base : Nat) (X : List Nat) (vs : List (Nat × Nat)) : Prop := ∃ v, Boxed W T 27 v ∧ W.ownsRow base 9 1 v vs.length (vs.map (fun x => Value.string (wv x))) ∧ ∀ j ∈ X, v.ownBlock ≠ some j
theorem ListW.turn {A D : World} {T base : Nat} {X : List Nat} {zs : List (Nat × Nat)} {row : Option Nat} (h : ListW A T base X zs) (hg : A.grownBy D row) (hT : some T ≠ row) (hr : ∀ r, row = some r → r ∈ X ∨ r < base) : ListW D T base X zs := by
  obtain ⟨v, h1, h2, h3⟩ := h
  refine ⟨v, h1.kept hg hT, h2.kept hg ?_, h3⟩
  rcases ho : v.ownBlock with _ | j
  · exact Or.inl rfl
  · right
    intro e
    rcases hr j e.symm with h | h
    · exact h3 j h ho
    · have := (h2.lt j ho).1; omega
theorem ListW.new {A D : World} {T base : Nat} {X : List Nat} {zs : List (Nat × Nat)} (h : ListW A T base X zs) (hg : A.grownBy D none) {j : Nat} (hj : A.heap.size ≤ j) : ListW D T base (j :: X) zs := by
  obtain ⟨v, h1, h2, h3⟩ := h
  refine ⟨v, h1.kept hg (by simp), h2.kept hg ?_, fun i hi => ?_⟩
  · rcases ho : v.ownBlock with _ | j
    · exact Or.inl rfl
    · exact Or.inr (by simp)
  · rcases List.mem_cons.1 hi with rfl | hi
    · intro e
      have := (h2.lt _ e).2; omega
    · exact h3 i hi

/-! The answers of ShortWords. -/
def shortR (k : Int) : List ByteArray := if shortOk k = true then wordsTo (k.toNat + 1) else []
theorem shortR_no {k : Int} (h : shortOk k = false) : shortR k = [] := by unfold shortR; rw [h]; rfl
theorem shortR_yes {k : Nat} (h : shortOk k = true) : shortR k = wordsTo (k + 1) := by unfold shortR; rw [if_pos h]; rfl
theorem shortR_ok (k : Int) : (∀ s ∈ shortR k, s.size ≤ 1000) ∧ (shortR k).length ≤ 256 := by
  by_cases h : shortOk k = true
  · obtain ⟨n, rfl, hn⟩ := shortOk_in h
    rw [shortR_yes h]
    refine ⟨fun s hs => by have := (wordsTo_ok (n + 1) (by omega) s hs).1; omega, ?_⟩
    have h1 := wordsTo_len (n + 1)
    have : 2 ^ (n + 1) ≤ 2 ^ 8 := Nat.pow_le_pow_right (by omega) (by omega)
    omega
  · rw [shortR_no (by simpa using h)]
    exact ⟨fun s hs => (by cases hs), Nat.zero_le _⟩
def SWEnd (k : Int) (w : World) (e : Ending) (w' : World) : Prop := ∃ x, e = .returned (.tuple #[x, .bool (shortOk k)]) ∧ w'.ownsRow w.heap.size 9 1 x (shortR k).length ((shortR k).map Value.string) ∧ Below w.heap.size w w'
theorem SWEnd.mk {k : Int} {w w' : World} {x : Value} {b : Bool} {L : List ByteArray} (hb : shortOk k = b) (hL : shortR k = L) (ho : w'.ownsRow w.heap.size 9 1 x L.length (L.map Value.string)) (hbw : Below w.heap.size w w') : SWEnd k w (.returned (.tuple #[x, .bool b])) w' := by
  subst hb
  subst hL
  exact ⟨x, rfl, ho, hbw⟩

end Go.Proofs.Ytlfffoglldobeaa
