/- Matrices in variables through a walk of many calls, the slice's name kept. No condition. -/
import Derived.Test.YtonnolpjfjbjpaaDoorVar
namespace Go.Proofs.YtonnolpjfjbjpaaDoor
open Go.RowKit
set_option maxHeartbeats 1000000
set_option linter.unusedVariables false

/-- A row of numbers that is somebody's own. -/
abbrev OwnI (w : World) (A : Option Addr) (cap : Nat) (zs : List Int) : Prop := w.ownsRow 0 3 1 (.slice A zs.length cap) zs.length (zs.map (Value.int .i64))
theorem OwnI.ints {w : World} {A : Option Addr} {cap : Nat} {zs : List Int} (h : OwnI w A cap zs) (hl : zs.length ≤ 1048577) : Ints w w.heap.size A zs := by
  obtain ⟨_, _, he, _, hi⟩ := own_ints h (by unfold maxLen; omega)
  cases he; exact hi

abbrev MO (A : Option Addr) (cap : Nat) (m : Int) (zs : List Int) : Obj := .cells #[.int .i64 m, .slice A zs.length cap] 25
/-- The variable in block g holds the matrix of size m whose numbers lie behind this slice. -/
def VA (w : World) (g : Nat) (A : Option Addr) (cap : Nat) (m : Int) (zs : List Int) : Prop :=
  Blk w g 25 #[.int .i64 m, .slice A zs.length cap] ∧ OwnI w A cap zs ∧ zs.length ≤ 1048577
theorem VA.below {w w' : World} {g cap : Nat} {A : Option Addr} {m : Int} {zs : List Int} (h : VA w g A cap m zs) (hb : Below w.heap.size w w') : VA w' g A cap m zs := ⟨blk_b h.1 hb, own_under h.2.1 hb, h.2.2⟩
theorem VA.al {w : World} {g cap : Nat} {A : Option Addr} {m : Int} {zs : List Int} (h : VA w g A cap m zs) (o : Obj) : VA (w.alloc o) g A cap m zs := h.below (below_a1 w o)
theorem VA.lt {w : World} {g cap : Nat} {A : Option Addr} {m : Int} {zs : List Int} (h : VA w g A cap m zs) : g < w.heap.size := Blk.lt h.1
theorem VA.cells {w : World} {g cap : Nat} {A : Option Addr} {m : Int} {zs : List Int} (h : VA w g A cap m zs) : w.cell? ⟨g, 0, none⟩ = some (.int .i64 m) ∧ w.cell? ⟨g, 1, none⟩ = some (.slice A zs.length cap) := two_cells h.1
theorem VA.new {w : World} {g cap : Nat} {A : Option Addr} {m : Int} {zs : List Int} (hg : g = w.heap.size) (ho : OwnI w A cap zs) (hl : zs.length ≤ 1048577) : VA (w.alloc (MO A cap m zs)) g A cap m zs := by
  subst hg; exact ⟨Blk.new _ _ _, ho.alloc _, hl⟩
theorem own_set {w : World} {k i cap : Nat} {A : Option Addr} {zs : List Int} {cs : Array Value} (ho : OwnI w A cap zs) (hk : Blk w k 25 cs) (v : Value) : OwnI (w.setCell ⟨k, i, none⟩ v) A cap zs := by
  refine ho.kept (grow_set w k i v) ?_
  have := own_other ho hk (by decide)
  rcases h0 : (Value.slice A zs.length cap).ownBlock with _ | j
  · exact Or.inl rfl
  · right; intro he; exact this (by rw [h0]; exact he.symm)
theorem VA.set2 {w : World} {g k cap : Nat} {A : Option Addr} {m : Int} {zs : List Int} {u0 u1 : Value} (h : VA w g A cap m zs) (hk : Blk w k 25 #[u0, u1]) (hne : ¬ k = g) (v0 v1 : Value) : VA ((w.setCell ⟨k, 0, none⟩ v0).setCell ⟨k, 1, none⟩ v1) g A cap m zs :=
  ⟨(h.1.other k 0 v0 hne).other k 1 v1 hne, own_set (own_set h.2.1 hk v0) (hk.set_ 0 v0) v1, h.2.2⟩
theorem VA.put {w : World} {k cap : Nat} {A : Option Addr} {m : Int} {zs : List Int} {u0 u1 : Value} (ho : OwnI w A cap zs) (hl : zs.length ≤ 1048577) (hk : Blk w k 25 #[u0, u1]) : VA ((w.setCell ⟨k, 0, none⟩ (.int .i64 m)).setCell ⟨k, 1, none⟩ (.slice A zs.length cap)) k A cap m zs :=
  ⟨(hk.set_ 0 _).set_ 1 _, own_set (own_set ho hk _) (hk.set_ 0 _) _, hl⟩

end Go.Proofs.YtonnolpjfjbjpaaDoor
