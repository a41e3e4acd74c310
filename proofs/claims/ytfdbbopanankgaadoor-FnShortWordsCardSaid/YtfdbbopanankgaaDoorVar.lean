/- Helpers for a drawn region that makes a variable of two cells while its calls make memory. No condition. -/
import Derived.Test.YtfdbbopanankgaaDoorCopyM
import Derived.Test.YtfdbbopanankgaaDoorFace
namespace Go.Proofs.YtfdbbopanankgaaDoor
open Go.RowKit
set_option linter.unusedVariables false

theorem blk_g {w w' : World} {g : Nat} {t : TypeId} {cs : Array Value} {b : Option Nat} (h : Blk w g t cs) (hg : w.grownBy w' b) (hne : some g = b → False) : Blk w' g t cs := (hg.block g (Blk.lt h) hne).trans h

/-- What is known behind such a region: the variable's block, the row that it holds, and that nothing older has changed. -/
def VarAt (w0 w : World) (base P : Nat) (t : TypeId) (m : Int) (x : Value) (zs : List Int) : Prop :=
  Below w0.heap.size w0 w ∧ w0.heap.size ≤ P ∧ Blk w P t #[.int .i64 m, x] ∧ w.ownsRow base 3 1 x zs.length (zs.map (Value.int .i64)) ∧ ∀ j, x.ownBlock = some j → j < w.heap.size

theorem var_set {w0 W : World} {base base' P : Nat} {t : TypeId} {u0 u1 : Value} {m : Int} {x : Value} {zs : List Int} (hb : Below w0.heap.size w0 W) (hP : w0.heap.size ≤ P) (hk : Blk W P t #[u0, u1])
    (ho : W.ownsRow base' 3 1 x zs.length (zs.map (Value.int .i64))) (hne : ∀ j, x.ownBlock = some j → j ≠ P) (hbb : base ≤ base') :
    VarAt w0 ((W.setCell ⟨P, 0, none⟩ (.int .i64 m)).setCell ⟨P, 1, none⟩ x) base P t m x zs := by
  have hd : x.ownBlock = none ∨ x.ownBlock ≠ some P := by
    rcases h0 : x.ownBlock with _ | j
    · exact Or.inl rfl
    · right
      intro he
      cases he
      exact hne P h0 rfl
  have ho1 := ho.kept (grow_set W P 0 (.int .i64 m)) hd
  have ho2 := ho1.kept (grow_set (W.setCell ⟨P, 0, none⟩ (.int .i64 m)) P 1 x) hd
  exact ⟨(hb.setCell (p := ⟨P, 0, none⟩) hP _).setCell (p := ⟨P, 1, none⟩) hP _, hP, (hk.set_ 0 _).set_ 1 _, own_base ho2 hbb, fun j hj => by have h := (ho2.lt j hj).2; exact h⟩

theorem var_new {w0 W : World} {base base' P : Nat} {t : TypeId} {m : Int} {x : Value} {zs : List Int} (hb : Below w0.heap.size w0 W) (hP : P = W.heap.size)
    (ho : W.ownsRow base' 3 1 x zs.length (zs.map (Value.int .i64))) (hbb : base ≤ base') :
    VarAt w0 (W.alloc (.cells #[.int .i64 m, x] t)) base P t m x zs := by
  subst hP
  exact ⟨below_al hb (Nat.le_refl _) _, hb.size, Blk.new _ _ _, own_base (ho.alloc _) hbb, fun j hj => by have h := (ho.lt j hj).2; simp; omega⟩
end Go.Proofs.YtfdbbopanankgaaDoor
