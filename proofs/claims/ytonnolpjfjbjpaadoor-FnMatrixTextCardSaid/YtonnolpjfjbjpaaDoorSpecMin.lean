/- What the model's functions of matrices return: the plain functions of their numbers, in new memory; nothing that was there changes. TurnMatrix and MinMatrix, as the model has them: the plain functions of their numbers, in new memory; nothing that was there changes. MinMatrix, as the model has it: the plain function of its numbers, in new memory; nothing that was there changes. -/
import Derived.Test.YtonnolpjfjbjpaaDoorFace
import Derived.Deep.QuietTactic
import Derived.BigQuiet
import Derived.Deep.RegionHeld3
import Derived.Deep.AppendLies
import Derived.Test.YtonnolpjfjbjpaaDoorLastOp
import Derived.Test.YtonnolpjfjbjpaaDoorOpen
namespace Go.Proofs.YtonnolpjfjbjpaaDoor
open Go.RowKit
set_option maxHeartbeats 1000000
set_option maxRecDepth 100000
set_option linter.unusedVariables false

theorem tmod_nat' (p L : Nat) : Int.tmod (p : Int) (L : Int) = ((p % L : Nat) : Int) := (Int.ofNat_tmod p L).symm
theorem tdiv_nat' (p L : Nat) : Int.tdiv (p : Int) (L : Int) = ((p / L : Nat) : Int) := (Int.ofNat_tdiv p L).symm
theorem take_snoc {zs : List Int} {k : Nat} {z : Int} (hk : k < zs.length) (hz : zs.getD k 0 = z) : zs.take (k + 1) = zs.take k ++ [z] := by
  rw [List.take_succ_eq_append_getElem hk]
  rw [List.getD_eq_getElem?_getD, List.getElem?_eq_getElem hk] at hz
  rw [← hz]; rfl
theorem own_cast {w : World} {base n n' : Nat} {t : TypeId} {x : Value} {xs ys : List Value} (h : w.ownsRow base t 1 x n xs) (hn : n = n') (hx : xs = ys) : w.ownsRow base t 1 x n' ys := by subst hn; subst hx; exact h

theorem app_grown {w2 wr w5 : World} {V m : Nat} {o : Obj} {row : Option Nat} (hg : w2.grownBy wr (some V)) (hgrow : ((wr.drewN m).alloc o).grownBy w5 row) (hrow : ∀ j, row = some j → w2.heap.size ≤ j) : w2.grownBy w5 (some V) :=
  grow_own (grow_trans (grown_dr hg m) (World.grownBy_alloc _ _ _)) hgrow hrow
theorem app_blk {w2 wr w5 : World} {V m : Nat} {o : Obj} {row : Option Nat} {t : TypeId} {cs : Array Value} (hv : Blk wr V t cs) (hgrow : ((wr.drewN m).alloc o).grownBy w5 row) (hV : V < w2.heap.size) (hrow : ∀ j, row = some j → w2.heap.size ≤ j) : Blk w5 V t cs :=
  (hgrow.block V (Blk.lt ((hv.drewN m).alloc o)) (fun e => by have := hrow V e.symm; omega)).trans ((hv.drewN m).alloc o)
theorem lit_cell (w : World) (m : Nat) (t : TypeId) (v : Value) : ∀ (j : Nat) u, [v][j]? = some u → ((w.drewN m).alloc (.cells #[v] t)).cell? ((⟨w.heap.size, 0, none⟩ : Addr).add j) = some u := by
  intro j u hj
  cases j with
  | zero => simp at hj; subst hj; exact (Blk.new (w.drewN m) t #[v]).cell 0
  | succ j => simp at hj
theorem slice_own {w : World} {base : Nat} {v : Value} {vs : List Int} (h : w.ownsRow base 3 1 v vs.length (vs.map (Value.int .i64))) (hm : vs.length ≤ maxLen) : ∃ A cap, v = .slice A vs.length cap := by
  obtain ⟨A, cap, e, _⟩ := own_ints h hm
  exact ⟨A, cap, e⟩

theorem mat_fin_n {w w3 : World} {R base cap n : Nat} {t : TypeId} {m : Int} {zs : List Int} {A : Option Addr} {u0 u1 : Value} (hn : zs.length = n) (rc : Blk w3 R t #[u0, u1]) (ho : w3.ownsRow base 3 1 (.slice A n cap) n (zs.map (Value.int .i64))) (hR : R < base) (hw : w.heap.size ≤ R) (hb : Below w.heap.size w w3) (hl : zs.length ≤ 1048577) :
    Blk ((w3.setCell ⟨R, 0, none⟩ (.int .i64 m)).setCell ⟨R, 1, none⟩ (.slice A n cap)) R t #[.int .i64 m, .slice A n cap] ∧ MatOwn ((w3.setCell ⟨R, 0, none⟩ (.int .i64 m)).setCell ⟨R, 1, none⟩ (.slice A n cap)) w.heap.size (.agg #[.int .i64 m, .slice A n cap]) m zs ∧ Below w.heap.size w ((w3.setCell ⟨R, 0, none⟩ (.int .i64 m)).setCell ⟨R, 1, none⟩ (.slice A n cap)) := by
  subst hn; exact mat_fin rc ho hR hw hb hl

end Go.Proofs.YtonnolpjfjbjpaaDoor
namespace Go.Proofs.YtonnolpjfjbjpaaDoor
open Go.RowKit
set_option maxHeartbeats 1000000
set_option maxRecDepth 100000
set_option linter.unusedVariables false

theorem sMatrixValid_p (m : Int) (A : Option Addr) (cap p : Nat) (zs : List Int) (r : Bool) (w : World) (hl : zs.length = p) (hz : Ints w w.heap.size A zs) (hr : matOk m zs = r) :
    Calls Tryd.prog 9 #[.agg #[.int .i64 m, .slice A p cap]] w fun e w' => e = .returned (.bool r) ∧ Below w.heap.size w w' := by
  subst hl; exact sMatrixValid_is m A cap zs r w hz hr
theorem i64_small {n : Nat} (h : n < 16) : IntKind.i64.wrap (n : Int) = (n : Int) := IntWalk.i64_in _ (by omega)
end Go.Proofs.YtonnolpjfjbjpaaDoor
namespace Go.Proofs.YtonnolpjfjbjpaaDoor
open Go.RowKit
set_option maxHeartbeats 1000000
set_option maxRecDepth 100000
set_option linter.unusedVariables false

end Go.Proofs.YtonnolpjfjbjpaaDoor
