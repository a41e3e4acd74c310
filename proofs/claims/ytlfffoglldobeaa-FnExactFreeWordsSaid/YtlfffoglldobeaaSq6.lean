/- Products of squares: each the plain function of its numbers, in new memory; nothing that was there changes. -/
import Derived.Test.YtlfffoglldobeaaSq
import Derived.Test.YtlfffoglldobeaaLastOp
namespace Go.Proofs.Ytlfffoglldobeaa
open Go.RowKit
set_option maxHeartbeats 2000000
set_option maxRecDepth 100000
set_option linter.unusedVariables false
theorem plus_is (a b v : Int) (w : World) (ha : 0 ≤ a) (ha' : a ≤ 1000000) (hb : 0 ≤ b) (hb' : b ≤ 1000000) (hv : min (a + b) 1000000 = v) :
    Calls Try.prog 59 #[.int .i64 a, .int .i64 b] w fun e w' => e = .returned (.int .i64 v) ∧ w = w' := by
  subst hv; exact plus_any a b w ha ha' hb hb'
/-- What a row becomes behind a square. -/
def behindL (n : Nat) (F : Nat → Int) (zs : List Int) : List Int := (List.range n).map fun k => dot F (fun l => zs.getD (l * n + k) 0) n
theorem behindL_len (n : Nat) (F : Nat → Int) (zs : List Int) : (behindL n F zs).length = n := by simp [behindL]
theorem behindL_at {n k : Nat} (F : Nat → Int) (zs : List Int) (hk : k < n) : (behindL n F zs).getD k 0 = dot F (fun l => zs.getD (l * n + k) 0) n := by
  unfold behindL
  rw [List.getD_eq_getElem?_getD, List.getElem?_map, List.getElem?_range hk]
  rfl

end Go.Proofs.Ytlfffoglldobeaa
