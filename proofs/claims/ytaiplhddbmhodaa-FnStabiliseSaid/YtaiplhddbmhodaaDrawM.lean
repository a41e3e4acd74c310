/- A drawn matrix: a valid one of the size that is asked, in new memory; nothing that was there changes but the reader. -/
import Derived.Test.YtaiplhddbmhodaaSpecMul
import Derived.Test.YtaiplhddbmhodaaCopyM
import Derived.Test.YtaiplhddbmhodaaLastOp
import Derived.Test.YtaiplhddbmhodaaDraw1
namespace Go.Proofs.Ytaiplhddbmhodaa
open Go.RowKit
set_option maxHeartbeats 2000000
set_option maxRecDepth 100000
set_option linter.unusedVariables false

/-- What a drawing function leaves that returns a valid matrix of the size N. -/
def DrawnM (B g : Nat) (A : Option Addr) (cap : Nat) (zs : List Int) (p K N : Nat) (w : World) (e : Ending) (w' : World) : Prop :=
  ∃ (v : Value) (vs : List Int) (q : Nat), e = .returned v ∧ MatOwn w' w.heap.size v N vs ∧ MV N vs ∧ q ≤ p + K ∧ Rd w' B g A cap zs q ∧ w.grownBy w' (some g)

theorem all_vld {vs : List Int} (h : ∀ z ∈ vs, 0 ≤ z ∧ z ≤ 1000000) : allV vs = true := by
  unfold allV
  rw [List.all_eq_true]
  intro z hz
  have := h z hz
  simp [vld, this]

theorem mat_fin_g {w3 : World} {R base base' cap n : Nat} {t : TypeId} {m : Int} {zs : List Int} {A : Option Addr} {u0 u1 : Value} (hn : zs.length = n) (rc : Blk w3 R t #[u0, u1]) (ho : w3.ownsRow base 3 1 (.slice A n cap) n (zs.map (Value.int .i64))) (hR : R < base) (hb : base' ≤ base) (hl : zs.length ≤ 1048577) :
    Blk ((w3.setCell ⟨R, 0, none⟩ (.int .i64 m)).setCell ⟨R, 1, none⟩ (.slice A n cap)) R t #[.int .i64 m, .slice A n cap] ∧ MatOwn ((w3.setCell ⟨R, 0, none⟩ (.int .i64 m)).setCell ⟨R, 1, none⟩ (.slice A n cap)) base' (.agg #[.int .i64 m, .slice A n cap]) m zs := by
  subst hn
  exact ⟨(rc.set_ 0 _).set_ 1 _, _, rfl, own_base (own_far (own_far ho (grow_set w3 R 0 _) hR) (grow_set _ R 1 _) hR) hb, hl⟩

end Go.Proofs.Ytaiplhddbmhodaa
