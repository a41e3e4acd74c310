/- Small things that many texts share: a state's truth out of a set of four, a block that stays, maps told alike. No condition. Small things on rows of the call's own. No condition. -/
import Derived.Test.YtfdbbopanankgaaDoorMach2
import Derived.Test.YtfdbbopanankgaaDoorMarkB
namespace Go.Proofs.YtfdbbopanankgaaDoor
open Go.RowKit
set_option maxHeartbeats 400000
set_option maxRecDepth 100000
set_option linter.unusedVariables false

theorem four_cases {k : Nat} (h : k < 4) : k = 0 ∨ k = 1 ∨ k = 2 ∨ k = 3 := by omega
theorem idx0 (a b c d : Value) (w : World) : (Instr.index 42 (.agg #[a, b, c, d]) (.int .i64 0)).run Tryd.prog w = .ok a w := by kernel_rfl
theorem idx1 (a b c d : Value) (w : World) : (Instr.index 42 (.agg #[a, b, c, d]) (.int .i64 1)).run Tryd.prog w = .ok b w := by kernel_rfl
theorem idx2 (a b c d : Value) (w : World) : (Instr.index 42 (.agg #[a, b, c, d]) (.int .i64 2)).run Tryd.prog w = .ok c w := by kernel_rfl
theorem idx3 (a b c d : Value) (w : World) : (Instr.index 42 (.agg #[a, b, c, d]) (.int .i64 3)).run Tryd.prog w = .ok d w := by kernel_rfl

abbrev FF := Int → ByteArray → Int → Option Int
abbrev LF := Int → ByteArray → Int → Bool
theorem Blk.stay {w w' : World} {j : Nat} {t : TypeId} {cs : Array Value} {row : Option Nat} (h : Blk w j t cs) (hg : w.grownBy w' row) (hne : some j ≠ row) : Blk w' j t cs := (hg.block j (Blk.lt h) hne).trans h
theorem CRan.cnt_le {w : World} {M r n cnt : Nat} {F : Int → ByteArray → Int → Option Int} {left : Int → ByteArray → Int → Bool} (h : CRan w M r n F left cnt) : cnt ≤ n := by
  obtain ⟨D, L, h1, _, _⟩ := h
  obtain ⟨es, clock, since, seen, c0, _, _, hs, _, _, _, hl, _⟩ := h1
  rw [← hl]
  unfold leftOf
  exact Nat.le_trans Array.size_filter_le hs
theorem CMap.alike {w : World} {M n : Nat} {F G : Int → ByteArray → Int → Option Int} (h : CMap w M n F) (hg : ∀ f l t, kwf f l t → F f l t = G f l t) : CMap w M n G := by
  obtain ⟨D, h1, h2⟩ := h
  exact ⟨D, h1, fun f l t hk zd => by rw [h2 f l t hk zd, hg f l t hk]⟩
def swS (s : StepD) : StepD := ⟨s.to_, s.le, s.fr, s.co⟩
end Go.Proofs.YtfdbbopanankgaaDoor
namespace Go.Proofs.YtfdbbopanankgaaDoor
open Go.RowKit
set_option maxHeartbeats 400000
set_option linter.unusedVariables false

theorem own_ne {x : Value} {r : Option Nat} (h : ∀ j, x.ownBlock = some j → ¬ r = some j) : x.ownBlock = none ∨ x.ownBlock ≠ r := by
  rcases hx : x.ownBlock with _ | j
  · exact Or.inl rfl
  · exact Or.inr (fun e => h j hx e.symm)
theorem own_ne_none (x : Value) : x.ownBlock = none ∨ x.ownBlock ≠ none := by
  rcases hx : x.ownBlock with _ | j
  · exact Or.inl rfl
  · exact Or.inr (by simp)
/-- What is appended to a row that was only just made touches nothing that was there. -/
theorem grow_new {w w' : World} {o : Obj} {n c : Nat} (h : (w.alloc o).grownBy w' (Value.slice (some ⟨w.heap.size, 0, none⟩) n c).ownBlock) : w.grownBy w' none :=
  ⟨h.os, h.tape, h.output, Nat.le_trans (by simp) h.size, fun k hk _ => (h.block k (by simp; omega) (by intro e; simp [Value.ownBlock] at e; omega)).trans (Below.heap_alloc w o k hk)⟩
theorem below_of_grown {w w' : World} (h : w.grownBy w' none) : Below w.heap.size w w' := ⟨h.os, h.tape, h.output, h.size, fun k hk => h.block k hk (by simp)⟩
theorem four_set {w : World} {g : Nat} {t : TypeId} {u0 u1 u2 u3 : Value} (h : Blk w g t #[u0, u1, u2, u3]) (v0 v1 v2 v3 : Value) : Blk ((((w.setCell ⟨g, 0, none⟩ v0).setCell ⟨g, 1, none⟩ v1).setCell ⟨g, 2, none⟩ v2).setCell ⟨g, 3, none⟩ v3) g t #[v0, v1, v2, v3] := (((h.set_ 0 v0).set_ 1 v1).set_ 2 v2).set_ 3 v3
theorem four_grow (w : World) (g : Nat) (v0 v1 v2 v3 : Value) : w.grownBy ((((w.setCell ⟨g, 0, none⟩ v0).setCell ⟨g, 1, none⟩ v1).setCell ⟨g, 2, none⟩ v2).setCell ⟨g, 3, none⟩ v3) (some g) := grow_trans (grow_trans (grow_trans (grow_set _ g _ _) (grow_set _ g _ _)) (grow_set _ g _ _)) (grow_set _ g _ _)
end Go.Proofs.YtfdbbopanankgaaDoor
