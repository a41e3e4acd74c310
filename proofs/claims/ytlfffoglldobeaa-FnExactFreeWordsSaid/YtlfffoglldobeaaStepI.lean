/- StepMatrix, the program's and the model's: the plain function of the automaton and the letter, in new memory; nothing that was there changes. No condition. -/
import Derived.Test.YtlfffoglldobeaaMach2
import Derived.Test.YtlfffoglldobeaaStepM
import Derived.Test.YtlfffoglldobeaaAutS
import Derived.Test.YtlfffoglldobeaaCopyM
namespace Go.Proofs.Ytlfffoglldobeaa
open Go.RowKit
set_option maxHeartbeats 4000000
set_option maxRecDepth 100000
set_option linter.unusedVariables false

def stepR (m : Int) (xs ys : List Int) (ss : List StepD) (l : ByteArray) : Option (Int × List Int) := if autoOk m xs ys ss = true ∧ letOk l = true then some (m, stepL m.toNat ss l) else none
theorem stepR_some {n : Nat} {xs ys : List Int} {ss : List StepD} {l : ByteArray} (h : autoOk n xs ys ss = true) (hl : letOk l = true) : stepR n xs ys ss l = some ((n : Int), stepL n ss l) := by
  unfold stepR; rw [if_pos ⟨h, hl⟩]; rfl
theorem stepR_none {m : Int} {xs ys : List Int} {ss : List StepD} {l : ByteArray} (h : ¬ (autoOk m xs ys ss = true ∧ letOk l = true)) : stepR m xs ys ss l = none := by
  unfold stepR; rw [if_neg h]
theorem mat_set {w : World} {base n R : Nat} {v : Value} {m : Int} {zs : List Int} (h : MatOwn w base v m zs) {u0 u1 : Value} (rc : Blk w R 72 #[u0, u1]) (v0 v1 : Value) : MatOwn ((w.setCell ⟨R, 0, none⟩ v0).setCell ⟨R, 1, none⟩ v1) base v m zs := by
  obtain ⟨x, rfl, ho, hl⟩ := h
  refine ⟨x, rfl, ?_, hl⟩
  have h1 := own_other ho rc (by decide)
  have k1 : ∀ i u, (w.setCell ⟨R, i, none⟩ u).ownsRow base 3 1 x zs.length (zs.map (Value.int .i64)) := fun i u => ho.kept (grow_set w R i u) (by
    rcases h0 : x.ownBlock with _ | j
    · exact Or.inl rfl
    · right; intro he; exact h1 (by rw [h0]; exact he.symm))
  have rc' : Blk (w.setCell ⟨R, 0, none⟩ v0) R 72 _ := rc.set_ 0 v0
  have h2 := own_other (k1 0 v0) rc' (by decide)
  exact (k1 0 v0).kept (grow_set _ R 1 v1) (by
    rcases h0 : x.ownBlock with _ | j
    · exact Or.inl rfl
    · right; intro he; exact h2 (by rw [h0]; exact he.symm))

end Go.Proofs.Ytlfffoglldobeaa
