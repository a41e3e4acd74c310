/- Products of squares: each the plain function of its numbers, in new memory; nothing that was there changes. Products of squares: the plain function of their numbers, in new memory; nothing that was there changes. -/
import Derived.Test.YtfdbbopanankgaaDoorSq
import Derived.Test.YtfdbbopanankgaaDoorLastOp
import Derived.Laws.CopyOwn
namespace Go.Proofs.YtfdbbopanankgaaDoor
open Go.RowKit
set_option maxHeartbeats 2000000
set_option maxRecDepth 100000
set_option linter.unusedVariables false
theorem plus_is (a b v : Int) (w : World) (ha : 0 ≤ a) (ha' : a ≤ 1000000) (hb : 0 ≤ b) (hb' : b ≤ 1000000) (hv : min (a + b) 1000000 = v) :
    Calls Tryd.prog 62 #[.int .i64 a, .int .i64 b] w fun e w' => e = .returned (.int .i64 v) ∧ w = w' := by
  subst hv; exact plus_any a b w ha ha' hb hb'
/-- What a row becomes behind a square. -/
def behindL (n : Nat) (F : Nat → Int) (zs : List Int) : List Int := (List.range n).map fun k => dot F (fun l => zs.getD (l * n + k) 0) n
theorem behindL_len (n : Nat) (F : Nat → Int) (zs : List Int) : (behindL n F zs).length = n := by simp [behindL]
theorem behindL_at {n k : Nat} (F : Nat → Int) (zs : List Int) (hk : k < n) : (behindL n F zs).getD k 0 = dot F (fun l => zs.getD (l * n + k) 0) n := by
  unfold behindL
  rw [List.getD_eq_getElem?_getD, List.getElem?_map, List.getElem?_range hk]
  rfl

end Go.Proofs.YtfdbbopanankgaaDoor
namespace Go.Proofs.YtfdbbopanankgaaDoor
open Go.RowKit
set_option maxHeartbeats 2000000
set_option maxRecDepth 100000
set_option linter.unusedVariables false

/-- A copy into a row that is known whole, as one move of a region. -/
theorem step_copy_into {P : Program} {ops : Array Oper} {o : Oper} {a : Act} {w : World} {K : Act → World → Prop} {Q : Exit → Act → World → Prop} {E : Prop} (hgd : o.guard = none) (d s : Operand) (dT sT : TypeId)
    (ho : o.op = .call { callee := .builtin .copy, args := #[d, s], argTypes := #[dT, sT] }) (elem : TypeId) (hu : P.underlying dT = some (.slice elem)) (hsz : (P.info? elem).map (·.size) = some 1)
    (g off dLen dCap : Nat) (ad : Addr) (sLen sCap : Nat) (hd : a.eval d = .slice (some ⟨g, off, none⟩) dLen dCap) (hs : a.eval s = .slice (some ad) sLen sCap)
    (cur : Array Value) (t : TypeId) (hg : w.heap[g]? = some (.cells cur t (0, 0))) (cs : List Value) (hn : cs.length = Nat.min sLen dLen)
    (hsrc : ∀ j v, cs[j]? = some v → w.cell? (ad.add j) = some v) (hfit : off + cs.length ≤ cur.size) (h1 : ∀ v ∈ cs, v.oneCell' = true)
    (h : K (a.put o.dst (goInt cs.length)) (w.setRow g (cur.toList.take off ++ (cs ++ cur.toList.drop (off + cs.length))).toArray)) :
    if Region.wanted o (yielded ops a.tmps) = true then Oper.wp P o a w K Q else E := by
  have hw : Region.wanted o (yielded ops a.tmps) = true := by simp [Region.wanted, hgd]
  rw [if_pos hw]
  have hrun := run_copy_row (P := P) w dT sT o.type elem g off dLen dCap ad sLen sCap cur t cs hu hsz hg hn hsrc hfit h1
  unfold Oper.wp
  simp [execOp, ho, resolve, invoke, builtin, hd, hs, hrun, Result.andThen]
  exact h
theorem grow_setRow (w : World) (g : Nat) (cs : Array Value) : w.grownBy (w.setRow g cs) (some g) :=
  ⟨rfl, rfl, rfl, by simp [World.setRow], fun k hk hne => setRow_other w g k cs (by intro e; subst e; exact hne rfl)⟩
/-- A list with a stretch put in at off. -/
def put (cs : List Int) (off : Nat) (xs : List Int) : List Int := cs.take off ++ (xs ++ cs.drop (off + xs.length))
theorem put_len (cs : List Int) (off : Nat) (xs : List Int) (h : off + xs.length ≤ cs.length) : (put cs off xs).length = cs.length := by simp [put]; omega
theorem put_lo (cs : List Int) (off : Nat) (xs : List Int) (h : off + xs.length ≤ cs.length) {q : Nat} (hq : q < off) : (put cs off xs).getD q 0 = cs.getD q 0 := by
  unfold put
  rw [List.getD_eq_getElem?_getD, List.getElem?_append_left (by simp; omega), List.getElem?_take, if_pos hq, List.getD_eq_getElem?_getD]
theorem put_mid (cs : List Int) (off : Nat) (xs : List Int) (h : off + xs.length ≤ cs.length) {k : Nat} (hk : k < xs.length) : (put cs off xs).getD (off + k) 0 = xs.getD k 0 := by
  unfold put
  have hl : (cs.take off).length = off := by simp; omega
  rw [List.getD_eq_getElem?_getD, List.getElem?_append_right (by omega), hl, Nat.add_sub_cancel_left, List.getElem?_append_left hk, List.getD_eq_getElem?_getD]
theorem put_map (cs : List Int) (off : Nat) (xs : List Int) : ((cs.map (Value.int .i64)).toArray.toList.take off ++ (xs.map (Value.int .i64) ++ (cs.map (Value.int .i64)).toArray.toList.drop (off + (xs.map (Value.int .i64)).length))).toArray = ((put cs off xs).map (Value.int .i64)).toArray := by
  simp [put, List.map_take, List.map_drop]
theorem mulL_row (n : Nat) (zs ys : List Int) {i k : Nat} (hi : i < n) (hk : k < n) : (mulL n zs ys).getD (i * n + k) 0 = dot (fun l => zs.getD (i * n + l) 0) (fun l => ys.getD (l * n + k) 0) n := by
  unfold mulL
  rw [ofF_getD _ (at_lt hi hk)]
  show dot (fun l => zs.getD ((i * n + k) / n * n + l) 0) (fun l => ys.getD (l * n + (i * n + k) % n) 0) n = _
  rw [at_div hk, at_mod hk]

end Go.Proofs.YtfdbbopanankgaaDoor
