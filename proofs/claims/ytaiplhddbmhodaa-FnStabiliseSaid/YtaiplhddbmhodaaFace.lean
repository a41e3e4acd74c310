/- What the program's functions of matrices return: the plain functions of their numbers, in new memory; the zero value and false where there is none; nothing that was there changes. -/
import Derived.Test.YtaiplhddbmhodaaSq5
import Derived.Deep.RegionWith
namespace Go.Proofs.Ytaiplhddbmhodaa
open Go.RowKit
set_option maxHeartbeats 1000000
set_option maxRecDepth 100000
set_option linter.unusedVariables false

/-- What a function leaves that returns a matrix, if there is one. -/
def MEnd (r : Option (Int × List Int)) (w : World) (e : Ending) (w' : World) : Prop :=
  ∃ v, e = .returned (.tuple #[v, .bool r.isSome]) ∧ MatOwn w' w.heap.size v (r.getD (0, [])).1 (r.getD (0, [])).2 ∧ Below w.heap.size w w'
theorem MEnd.none_ {r : Option (Int × List Int)} {w w' : World} (hr : r = none) (hb : Below w.heap.size w w') : MEnd r w (.returned (.tuple #[.agg #[.int .i64 0, .slice none 0 0], .bool false])) w' := by
  subst hr; exact ⟨_, rfl, ⟨_, rfl, World.ownsRow_nil _ _ _ _, Nat.zero_le _⟩, hb⟩
theorem MEnd.some_ {r : Option (Int × List Int)} {w w' : World} {m : Int} {zs : List Int} {v : Value} (hr : r = some (m, zs)) (ho : MatOwn w' w.heap.size v m zs) (hb : Below w.heap.size w w') : MEnd r w (.returned (.tuple #[v, .bool true])) w' := by
  subst hr; exact ⟨v, rfl, ho, hb⟩

def unitR (n : Int) : Option (Int × List Int) := if 1 ≤ n ∧ n ≤ 4 then some (n, unitL n.toNat) else none
def turnR (m : Int) (zs : List Int) : Option (Int × List Int) := if matOk m zs = true then some (m, turnL m.toNat zs) else none
def twoOk (m : Int) (zs : List Int) (m' : Int) (ys : List Int) : Bool := matOk m zs && (matOk m' ys && decide (m = m'))
def minR (m : Int) (zs : List Int) (m' : Int) (ys : List Int) : Option (Int × List Int) := if twoOk m zs m' ys = true then some (m, minL m.toNat zs ys) else none
def mulR (m : Int) (zs : List Int) (m' : Int) (ys : List Int) : Option (Int × List Int) := if twoOk m zs m' ys = true then some (m, mulL m.toNat zs ys) else none

theorem base_own {w : World} {base base' : Nat} {v : Value} {m : Int} {zs : List Int} (h : MatOwn w base v m zs) (hb : base' ≤ base) : MatOwn w base' v m zs := by
  obtain ⟨x, e, ho, hl⟩ := h
  refine ⟨x, e, ⟨ho.1, ?_⟩, hl⟩
  rcases ho.2 with h0 | ⟨g, cap, cur, h1, h2, h3⟩
  · exact Or.inl h0
  · exact Or.inr ⟨g, cap, cur, h1, Nat.le_trans hb h2, h3⟩

theorem mat_fin {w w3 : World} {R base cap : Nat} {t : TypeId} {m : Int} {zs : List Int} {A : Option Addr} {u0 u1 : Value} (rc : Blk w3 R t #[u0, u1]) (ho : w3.ownsRow base 3 1 (.slice A zs.length cap) zs.length (zs.map (Value.int .i64))) (hR : R < base) (hw : w.heap.size ≤ R) (hb : Below w.heap.size w w3) (hl : zs.length ≤ 1048577) :
    Blk ((w3.setCell ⟨R, 0, none⟩ (.int .i64 m)).setCell ⟨R, 1, none⟩ (.slice A zs.length cap)) R t #[.int .i64 m, .slice A zs.length cap] ∧ MatOwn ((w3.setCell ⟨R, 0, none⟩ (.int .i64 m)).setCell ⟨R, 1, none⟩ (.slice A zs.length cap)) w.heap.size (.agg #[.int .i64 m, .slice A zs.length cap]) m zs ∧ Below w.heap.size w ((w3.setCell ⟨R, 0, none⟩ (.int .i64 m)).setCell ⟨R, 1, none⟩ (.slice A zs.length cap)) := by
  have G := grow_trans (grow_set w3 R 0 (.int .i64 m)) (grow_set _ R 1 (.slice A zs.length cap))
  exact ⟨(rc.set_ 0 _).set_ 1 _, base_own ⟨_, rfl, own_far ho G hR, hl⟩ (by omega), hb.grown G hb.size (fun j hj => by cases hj; omega)⟩

theorem iUnit_any (n : Int) (w : World) :
    Calls Try.prog 11 #[.int .i64 n] w fun e w' => MEnd (unitR n) w e w' := by
  by_cases hn : 1 ≤ n ∧ n ≤ 4
  · obtain ⟨N, rfl⟩ := Int.eq_ofNat_of_zero_le (a := n) (by omega)
    obtain ⟨h1, h2⟩ := hn
    have n1 : 1 ≤ N := by omega
    have n2 : N ≤ 4 := by omega
    obtain ⟨p, hp⟩ : ∃ p, p = N * N := ⟨_, rfl⟩
    have p1 : p ≤ 16 := by
      rw [hp]
      calc N * N ≤ 4 * 4 := Nat.mul_le_mul n2 n2
        _ = 16 := rfl
    have HR : Hid (unitR (N : Int) = some ((N : Int), unitL N)) := by show _ = _; unfold unitR; rw [if_pos ⟨h1, h2⟩]; rfl
    have HP := Lib.hid hp
    clear hp
    go_enter Try.func11, Try.ntmps11
    go_wp2_with fail
    refine (sizeValid_t _ _ h1 h2).mono ?_
    rintro e w' ⟨rfl, rfl⟩
    go_wp2_with fail
    refine (costRing_any _).mono ?_
    rintro e w1 ⟨rfl, hb1⟩
    have hb0 := below_on (below_a1 w _) hb1
    have rA : Blk w1 w.heap.size 25 #[.int .i64 0, .slice none 0 0] := (blk_new (by simp)).below hb1 (by simp)
    clear hb1
    go_wp2_with fail
    refine (unitSquare_any N p _ n1 n2 HP p1).mono ?_
    rintro e w2 ⟨g, rfl, hb2, hg2, hsq⟩
    have hb3 := below_on hb0 hb2
    have rB := rA.below hb2 (Blk.lt rA)
    clear hb0 hb2 rA
    go_wp2_with fail
    refine (matrix_any N p g _ _ (show p = (unitL N).length by unfold unitL; rw [ofF_len]; exact HP.out) p1 hsq).mono ?_
    rintro e w3 ⟨_, rfl, ⟨x, rfl, ho, hl⟩, hb4⟩
    obtain ⟨A3, cap3, rfl, _, _⟩ := own_ints ho (by unfold maxLen; omega)
    have hb5 := below_on hb3 hb4
    have rC := rB.below hb4 (Blk.lt rB)
    have c0 := rC.cell 0
    have c1 := rC.cell 1
    have f0 := rC.frozen 0
    have f1 := rC.frozen 1
    simp at c0 c1
    have RC := Lib.hid rC
    have HO := Lib.hid ho
    have HB := Lib.hid hb5
    have hrw : w.heap.size < w2.heap.size := Blk.lt rB
    clear rB hb3 hb4 hb5 ho rC hsq
    go_wp2_with fail
    have HF := mat_fin (w := w) (m := (N : Int)) RC.out HO.out hrw (Nat.le_refl _) HB.out hl
    refine bodyPost_ret (results_2 rfl (gives_mat (g := w.heap.size) rfl HF.1) (.tmp rfl)) rfl ?_
    exact MEnd.some_ HR.out HF.2.1 HF.2.2
  · have HR : Hid (unitR n = none) := by show _ = _; unfold unitR; rw [if_neg hn]
    go_enter Try.func11, Try.ntmps11
    go_wp2_with fail
    refine (sizeValid_f _ _ hn).mono ?_
    rintro e w' ⟨rfl, rfl⟩
    clear hn
    go_wp2_with fail
    refine bodyPost_ret (results_2 rfl (gives_mat (g := w.heap.size) rfl (Blk.new _ _ _)) (.tmp rfl)) rfl ?_
    exact MEnd.none_ HR.out (below_a1 _ _)

theorem iMatrixValid_p (m : Int) (A : Option Addr) (cap p : Nat) (zs : List Int) (r : Bool) (w : World) (hl : zs.length = p) (hz : Ints w w.heap.size A zs) (hr : matOk m zs = r) :
    Calls Try.prog 28 #[.agg #[.int .i64 m, .slice A p cap]] w fun e w' => e = .returned (.bool r) ∧ Below w.heap.size w w' := by
  subst hl; exact iMatrixValid_is m A cap zs r w hz hr
theorem below_six {B : Nat} {w0 w : World} (h : Below B w0 w) (g : Nat) (hg : B ≤ g) (v0 v1 v2 v3 v4 v5 : Value) : Below B w0 (((((((w.setCell ⟨g, 0, none⟩ v0).setCell ⟨g, 1, none⟩ v1).setCell ⟨g, 2, none⟩ v2).setCell ⟨g, 3, none⟩ v3).setCell ⟨g, 4, none⟩ v4).setCell ⟨g, 5, none⟩ v5)) :=
  (((((h.setCell (p := ⟨g, 0, none⟩) hg v0).setCell (p := ⟨g, 1, none⟩) hg v1).setCell (p := ⟨g, 2, none⟩) hg v2).setCell (p := ⟨g, 3, none⟩) hg v3).setCell (p := ⟨g, 4, none⟩) hg v4).setCell (p := ⟨g, 5, none⟩) hg v5
theorem gives_sq {tmps : Array Value} {w : World} {p : Tmp} {g : Nat} {t : TypeId} {a b c d e f : Value} (hp : tmps.getD p undef = .pointer (some ⟨g, 0, none⟩)) (hg : Blk w g t #[a, b, c, d, e, f]) : Gives Try.prog tmps w (.cell p 64) (.agg #[a, b, c, d, e, f]) :=
  Gives.row hp hg Try.underlying64 rfl (by kernel_rfl)
end Go.Proofs.Ytaiplhddbmhodaa
