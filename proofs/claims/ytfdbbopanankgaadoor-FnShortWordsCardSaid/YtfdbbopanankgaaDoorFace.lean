/- What the program's functions of matrices return: the plain functions of their numbers, in new memory; the zero value and false where there is none; nothing that was there changes. MinMatrix, as the program has it: the plain function of its numbers, in new memory; nothing that was there changes. -/
import Derived.Test.YtfdbbopanankgaaDoorSq
import Derived.Deep.RegionWith
namespace Go.Proofs.YtfdbbopanankgaaDoor
open Go.RowKit
set_option maxHeartbeats 1000000
set_option maxRecDepth 100000
set_option linter.unusedVariables false

/-- What a function leaves that returns a matrix, if there is one. -/
def MEnd (r : Option (Int × List Int)) (w : World) (e : Ending) (w' : World) : Prop :=
  ∃ v, e = .returned (.tuple #[v, .bool r.isSome]) ∧ MatOwn w' w.heap.size v (r.getD (0, [])).1 (r.getD (0, [])).2 ∧ Below w.heap.size w w'
theorem MEnd.none_ {r : Option (Int × List Int)} {w w' : World} (hr : r = none) (hb : Below w.heap.size w w') : MEnd r w (.returned (.tuple #[.agg #[.int .i64 0, .slice none 0 0], .bool false])) w' := by
  subst hr; exact ⟨_, rfl, ⟨_, rfl, World.ownsRow_nil _ _ _ _, Nat.zero_le _⟩, hb⟩
theorem MEnd.some_ {r : Option (Int × List Int)} {w w' : World} {m : Int} {zs : List Int} {v : Value} (hr : r = some (m, zs)) (ho : MatOwn w' w.heap.size v m zs) (hb : Below w.heap.size w w') : MEnd r w (.returned (.tuple #[v, .bool true])) w' := by
  subst hr; exact ⟨v, rfl, ho, hb⟩

def unitR (n : Int) : Option (Int × List Int) := if 1 ≤ n ∧ n ≤ 4 then some (n, unitL n.toNat) else none
def turnR (m : Int) (zs : List Int) : Option (Int × List Int) := if matOk m zs = true then some (m, turnL m.toNat zs) else none
def twoOk (m : Int) (zs : List Int) (m' : Int) (ys : List Int) : Bool := matOk m zs && (matOk m' ys && decide (m = m'))
def minR (m : Int) (zs : List Int) (m' : Int) (ys : List Int) : Option (Int × List Int) := if twoOk m zs m' ys = true then some (m, minL m.toNat zs ys) else none
def mulR (m : Int) (zs : List Int) (m' : Int) (ys : List Int) : Option (Int × List Int) := if twoOk m zs m' ys = true then some (m, mulL m.toNat zs ys) else none

theorem base_own {w : World} {base base' : Nat} {v : Value} {m : Int} {zs : List Int} (h : MatOwn w base v m zs) (hb : base' ≤ base) : MatOwn w base' v m zs := by
  obtain ⟨x, e, ho, hl⟩ := h
  refine ⟨x, e, ⟨ho.1, ?_⟩, hl⟩
  rcases ho.2 with h0 | ⟨g, cap, cur, h1, h2, h3⟩
  · exact Or.inl h0
  · exact Or.inr ⟨g, cap, cur, h1, Nat.le_trans hb h2, h3⟩

theorem mat_fin {w w3 : World} {R base cap : Nat} {t : TypeId} {m : Int} {zs : List Int} {A : Option Addr} {u0 u1 : Value} (rc : Blk w3 R t #[u0, u1]) (ho : w3.ownsRow base 3 1 (.slice A zs.length cap) zs.length (zs.map (Value.int .i64))) (hR : R < base) (hw : w.heap.size ≤ R) (hb : Below w.heap.size w w3) (hl : zs.length ≤ 1048577) :
    Blk ((w3.setCell ⟨R, 0, none⟩ (.int .i64 m)).setCell ⟨R, 1, none⟩ (.slice A zs.length cap)) R t #[.int .i64 m, .slice A zs.length cap] ∧ MatOwn ((w3.setCell ⟨R, 0, none⟩ (.int .i64 m)).setCell ⟨R, 1, none⟩ (.slice A zs.length cap)) w.heap.size (.agg #[.int .i64 m, .slice A zs.length cap]) m zs ∧ Below w.heap.size w ((w3.setCell ⟨R, 0, none⟩ (.int .i64 m)).setCell ⟨R, 1, none⟩ (.slice A zs.length cap)) := by
  have G := grow_trans (grow_set w3 R 0 (.int .i64 m)) (grow_set _ R 1 (.slice A zs.length cap))
  exact ⟨(rc.set_ 0 _).set_ 1 _, base_own ⟨_, rfl, own_far ho G hR, hl⟩ (by omega), hb.grown G hb.size (fun j hj => by cases hj; omega)⟩

theorem below_six {B : Nat} {w0 w : World} (h : Below B w0 w) (g : Nat) (hg : B ≤ g) (v0 v1 v2 v3 v4 v5 : Value) : Below B w0 (((((((w.setCell ⟨g, 0, none⟩ v0).setCell ⟨g, 1, none⟩ v1).setCell ⟨g, 2, none⟩ v2).setCell ⟨g, 3, none⟩ v3).setCell ⟨g, 4, none⟩ v4).setCell ⟨g, 5, none⟩ v5)) :=
  (((((h.setCell (p := ⟨g, 0, none⟩) hg v0).setCell (p := ⟨g, 1, none⟩) hg v1).setCell (p := ⟨g, 2, none⟩) hg v2).setCell (p := ⟨g, 3, none⟩) hg v3).setCell (p := ⟨g, 4, none⟩) hg v4).setCell (p := ⟨g, 5, none⟩) hg v5
end Go.Proofs.YtfdbbopanankgaaDoor
namespace Go.Proofs.YtfdbbopanankgaaDoor
open Go.RowKit
set_option maxHeartbeats 1000000
set_option maxRecDepth 100000
set_option linter.unusedVariables false

theorem twoOk_t {m m' : Int} {zs ys : List Int} (h : twoOk m zs m' ys = true) : ∃ n : Nat, m = (n : Int) ∧ m' = (n : Int) ∧ MV n zs ∧ MV n ys := by
  simp only [twoOk, Bool.and_eq_true, decide_eq_true_eq] at h
  obtain ⟨h1, h2, h3⟩ := h
  obtain ⟨n, rfl, mv⟩ := matOk_t h1
  subst h3
  obtain ⟨n', e, mv'⟩ := matOk_t h2
  have : n = n' := by omega
  subst this
  exact ⟨n, rfl, rfl, mv, mv'⟩

end Go.Proofs.YtfdbbopanankgaaDoor
