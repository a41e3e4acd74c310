/- MulMatrix, as the program has it: the plain function of its numbers, in new memory; nothing that was there changes. Matrices in variables through a walk of many calls, the slice's name kept. No condition. A matrix in a variable, with a row of its own, through a walk of many calls; what the program's and the model's functions leave, put so. No condition. -/
import Derived.Test.YtfdbbopanankgaaDoorFace
import Derived.Test.YtfdbbopanankgaaDoorSq7
import Derived.Test.YtfdbbopanankgaaDoorVar
import Derived.Test.YtfdbbopanankgaaDoorSpecMul
namespace Go.Proofs.YtfdbbopanankgaaDoor
open Go.RowKit
set_option maxHeartbeats 1000000
set_option maxRecDepth 100000
set_option linter.unusedVariables false

theorem mv_at {n p q : Nat} {zs : List Int} (h : MV n zs) (hp : p = n * n) (hq : q < p) : 0 ≤ zs.getD q 0 ∧ zs.getD q 0 ≤ 1000000 := by
  have hq' : q < n * n := by rw [← hp]; exact hq
  have hb := h.in_ (q / n) (q % n) (div_lt_ hq') (mod_lt_ hq')
  have e : q / n * n + q % n = q := by rw [Nat.mul_comm, Nat.div_add_mod]
  simp only [cel] at hb
  rw [e] at hb
  exact hb

end Go.Proofs.YtfdbbopanankgaaDoor
namespace Go.Proofs.YtfdbbopanankgaaDoor
open Go.RowKit
set_option maxHeartbeats 1000000
set_option linter.unusedVariables false

/-- A row of numbers that is somebody's own. -/
abbrev OwnI (w : World) (A : Option Addr) (cap : Nat) (zs : List Int) : Prop := w.ownsRow 0 3 1 (.slice A zs.length cap) zs.length (zs.map (Value.int .i64))
theorem OwnI.ints {w : World} {A : Option Addr} {cap : Nat} {zs : List Int} (h : OwnI w A cap zs) (hl : zs.length ≤ 1048577) : Ints w w.heap.size A zs := by
  obtain ⟨_, _, he, _, hi⟩ := own_ints h (by unfold maxLen; omega)
  cases he; exact hi

abbrev MO (A : Option Addr) (cap : Nat) (m : Int) (zs : List Int) : Obj := .cells #[.int .i64 m, .slice A zs.length cap] 80
/-- The variable in block g holds the matrix of size m whose numbers lie behind this slice. -/
def VA (w : World) (g : Nat) (A : Option Addr) (cap : Nat) (m : Int) (zs : List Int) : Prop :=
  Blk w g 80 #[.int .i64 m, .slice A zs.length cap] ∧ OwnI w A cap zs ∧ zs.length ≤ 1048577
theorem VA.below {w w' : World} {g cap : Nat} {A : Option Addr} {m : Int} {zs : List Int} (h : VA w g A cap m zs) (hb : Below w.heap.size w w') : VA w' g A cap m zs := ⟨blk_b h.1 hb, own_under h.2.1 hb, h.2.2⟩
theorem VA.al {w : World} {g cap : Nat} {A : Option Addr} {m : Int} {zs : List Int} (h : VA w g A cap m zs) (o : Obj) : VA (w.alloc o) g A cap m zs := h.below (below_a1 w o)
theorem VA.lt {w : World} {g cap : Nat} {A : Option Addr} {m : Int} {zs : List Int} (h : VA w g A cap m zs) : g < w.heap.size := Blk.lt h.1
theorem VA.cells {w : World} {g cap : Nat} {A : Option Addr} {m : Int} {zs : List Int} (h : VA w g A cap m zs) : w.cell? ⟨g, 0, none⟩ = some (.int .i64 m) ∧ w.cell? ⟨g, 1, none⟩ = some (.slice A zs.length cap) := two_cells h.1
theorem VA.new {w : World} {g cap : Nat} {A : Option Addr} {m : Int} {zs : List Int} (hg : g = w.heap.size) (ho : OwnI w A cap zs) (hl : zs.length ≤ 1048577) : VA (w.alloc (MO A cap m zs)) g A cap m zs := by
  subst hg; exact ⟨Blk.new _ _ _, ho.alloc _, hl⟩
theorem own_set {w : World} {k i cap : Nat} {A : Option Addr} {zs : List Int} {cs : Array Value} (ho : OwnI w A cap zs) (hk : Blk w k 80 cs) (v : Value) : OwnI (w.setCell ⟨k, i, none⟩ v) A cap zs := by
  refine ho.kept (grow_set w k i v) ?_
  have := own_other ho hk (by decide)
  rcases h0 : (Value.slice A zs.length cap).ownBlock with _ | j
  · exact Or.inl rfl
  · right; intro he; exact this (by rw [h0]; exact he.symm)
theorem VA.set2 {w : World} {g k cap : Nat} {A : Option Addr} {m : Int} {zs : List Int} {u0 u1 : Value} (h : VA w g A cap m zs) (hk : Blk w k 80 #[u0, u1]) (hne : ¬ k = g) (v0 v1 : Value) : VA ((w.setCell ⟨k, 0, none⟩ v0).setCell ⟨k, 1, none⟩ v1) g A cap m zs :=
  ⟨(h.1.other k 0 v0 hne).other k 1 v1 hne, own_set (own_set h.2.1 hk v0) (hk.set_ 0 v0) v1, h.2.2⟩
theorem VA.put {w : World} {k cap : Nat} {A : Option Addr} {m : Int} {zs : List Int} {u0 u1 : Value} (ho : OwnI w A cap zs) (hl : zs.length ≤ 1048577) (hk : Blk w k 80 #[u0, u1]) : VA ((w.setCell ⟨k, 0, none⟩ (.int .i64 m)).setCell ⟨k, 1, none⟩ (.slice A zs.length cap)) k A cap m zs :=
  ⟨(hk.set_ 0 _).set_ 1 _, own_set (own_set ho hk _) (hk.set_ 0 _) _, hl⟩

end Go.Proofs.YtfdbbopanankgaaDoor
namespace Go.Proofs.YtfdbbopanankgaaDoor
open Go.RowKit
set_option maxHeartbeats 1000000
set_option maxRecDepth 100000
set_option linter.unusedVariables false

/-- What a function leaves that returns a matrix, put for a walk (its size under a name of its own: two equal values in two blocks stall the walk). -/
def REnd (m : Int) (zs : List Int) (ok : Bool) (w : World) (e : Ending) (w' : World) : Prop :=
  ∃ (k : Int) (A : Option Addr) (cap : Nat), e = .returned (.tuple #[.agg #[.int .i64 k, .slice A zs.length cap], .bool ok]) ∧ Hid (k = m) ∧ Hid (OwnI w' A cap zs) ∧ zs.length ≤ 1048577 ∧ Hid (Below w.heap.size w w')
theorem MEnd.form {r : Option (Int × List Int)} {w w' : World} {e : Ending} {m : Int} {zs : List Int} {ok : Bool} (h : MEnd r w e w') (h1 : (r.getD (0, [])).1 = m) (h2 : (r.getD (0, [])).2 = zs) (h3 : r.isSome = ok) : REnd m zs ok w e w' := by
  obtain ⟨v, rfl, ⟨x, rfl, ho, hl⟩, hb⟩ := h
  rw [h2] at ho hl
  obtain ⟨A, cap, rfl, _, _⟩ := own_ints ho (by unfold maxLen; omega)
  rw [h3]
  exact ⟨_, A, cap, rfl, h1, own_base ho (Nat.zero_le _), hl, hb⟩
end Go.Proofs.YtfdbbopanankgaaDoor
