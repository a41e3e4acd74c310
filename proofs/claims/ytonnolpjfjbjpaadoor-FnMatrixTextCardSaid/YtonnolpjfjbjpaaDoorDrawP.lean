/- Two drawn matrices: the first any, the second valid, both in memory of the call's own; nothing that was there changes but the reader. -/
import Derived.Test.YtonnolpjfjbjpaaDoorDrawB
namespace Go.Proofs.YtonnolpjfjbjpaaDoor
open Go.RowKit
set_option maxHeartbeats 2000000
set_option maxRecDepth 100000
set_option linter.unusedVariables false

/-- What a drawing function leaves that returns two matrices. -/
def DrawnP (B g : Nat) (A : Option Addr) (cap : Nat) (zs : List Int) (p K : Nat) (w : World) (e : Ending) (w' : World) : Prop :=
  ∃ (a b : Value) (m : Int) (N : Nat) (us vs : List Int) (q : Nat), e = .returned (.tuple #[a, b]) ∧ MatOwn w' w.heap.size a m us ∧ us.length ≤ 18 ∧ MatOwn w' w.heap.size b N vs ∧ MV N vs ∧ q ≤ p + K ∧ Rd w' B g A cap zs q ∧ w.grownBy w' (some g)

theorem own_far4 {w : World} {base a b n : Nat} {x : Value} {xs : List Value} (h : w.ownsRow base 3 1 x n xs) (ha : a < base) (hb : b < base) (v0 v1 v2 v3 : Value) : ((((w.setCell ⟨a, 0, none⟩ v0).setCell ⟨a, 1, none⟩ v1).setCell ⟨b, 0, none⟩ v2).setCell ⟨b, 1, none⟩ v3).ownsRow base 3 1 x n xs :=
  own_far (own_far (own_far (own_far h (grow_set w a 0 v0) ha) (grow_set _ a 1 v1) ha) (grow_set _ b 0 v2) hb) (grow_set _ b 1 v3) hb
theorem Rd.set4 {w : World} {B g p a b : Nat} {A : Option Addr} {cap : Nat} {zs : List Int} (h : Rd w B g A cap zs p) (ha : g < a) (hb : g < b) (v0 v1 v2 v3 : Value) : Rd ((((w.setCell ⟨a, 0, none⟩ v0).setCell ⟨a, 1, none⟩ v1).setCell ⟨b, 0, none⟩ v2).setCell ⟨b, 1, none⟩ v3) B g A cap zs p :=
  (((h.grown (grow_set w a 0 v0) (fun j hj => by cases hj; omega)).grown (grow_set _ a 1 v1) (fun j hj => by cases hj; omega)).grown (grow_set _ b 0 v2) (fun j hj => by cases hj; omega)).grown (grow_set _ b 1 v3) (fun j hj => by cases hj; omega)
theorem grow_own4 {w w7 : World} {g a b : Nat} (h : w.grownBy w7 (some g)) (ha : w.heap.size ≤ a) (hb : w.heap.size ≤ b) (v0 v1 v2 v3 : Value) : w.grownBy ((((w7.setCell ⟨a, 0, none⟩ v0).setCell ⟨a, 1, none⟩ v1).setCell ⟨b, 0, none⟩ v2).setCell ⟨b, 1, none⟩ v3) (some g) :=
  grow_own (grow_own (grow_own (grow_own h (grow_set w7 a 0 v0) (fun j hj => by cases hj; omega)) (grow_set _ a 1 v1) (fun j hj => by cases hj; omega)) (grow_set _ b 0 v2) (fun j hj => by cases hj; omega)) (grow_set _ b 1 v3) (fun j hj => by cases hj; omega)

end Go.Proofs.YtonnolpjfjbjpaaDoor
