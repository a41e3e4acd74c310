/- What the program's functions of matrices return: the plain functions of their numbers, in new memory; the zero value and false where there is none; nothing that was there changes. MinMatrix, as the program has it: the plain function of its numbers, in new memory; nothing that was there changes. -/
import Derived.Test.YtjhaegkefagngaaGreatDoorSq
import Derived.Deep.RegionWith
namespace Go.Proofs.YtjhaegkefagngaaGreatDoor
open Go.RowKit
set_option maxHeartbeats 1000000
set_option maxRecDepth 100000
set_option linter.unusedVariables false

/-- What a function leaves that returns a matrix, if there is one. -/
def MEnd (r : Option (Int × List Int)) (w : World) (e : Ending) (w' : World) : Prop :=
  ∃ v, e = .returned (.tuple #[v, .bool r.isSome]) ∧ MatOwn w' w.heap.size v (r.getD (0, [])).1 (r.getD (0, [])).2 ∧ Below w.heap.size w w'
theorem MEnd.none_ {r : Option (Int × List Int)} {w w' : World} (hr : r = none) (hb : Below w.heap.size w w') : MEnd r w (.returned (.tuple #[.agg #[.int .i64 0, .slice none 0 0], .bool false])) w' := by
  subst hr; exact ⟨_, rfl, ⟨_, rfl, World.ownsRow_nil _ _ _ _, Nat.zero_le _⟩, hb⟩
theorem MEnd.some_ {r : Option (Int × List Int)} {w w' : World} {m : Int} {zs : List Int} {v : Value} (hr : r = some (m, zs)) (ho : MatOwn w' w.heap.size v m zs) (hb : Below w.heap.size w w') : MEnd r w (.returned (.tuple #[v, .bool true])) w' := by
  subst hr; exact ⟨v, rfl, ho, hb⟩

def unitR (n : Int) : Option (Int × List Int) := if 1 ≤ n ∧ n ≤ 4 then some (n, unitL n.toNat) else none
def turnR (m : Int) (zs : List Int) : Option (Int × List Int) := if matOk m zs = true then some (m, turnL m.toNat zs) else none
def twoOk (m : Int) (zs : List Int) (m' : Int) (ys : List Int) : Bool := matOk m zs && (matOk m' ys && decide (m = m'))
def minR (m : Int) (zs : List Int) (m' : Int) (ys : List Int) : Option (Int × List Int) := if twoOk m zs m' ys = true then some (m, minL m.toNat zs ys) else none
def mulR (m : Int) (zs : List Int) (m' : Int) (ys : List Int) : Option (Int × List Int) := if twoOk m zs m' ys = true then some (m, mulL m.toNat zs ys) else none

theorem base_own {w : World} {base base' : Nat} {v : Value} {m : Int} {zs : List Int} (h : MatOwn w base v m zs) (hb : base' ≤ base) : MatOwn w base' v m zs := by
  obtain ⟨x, e, ho, hl⟩ := h
  refine ⟨x, e, ⟨ho.1, ?_⟩, hl⟩
  rcases ho.2 with h0 | ⟨g, cap, cur, h1, h2, h3⟩
  · exact Or.inl h0
  · exact Or.inr ⟨g, cap, cur, h1, Nat.le_trans hb h2, h3⟩

theorem mat_fin {w w3 : World} {R base cap : Nat} {t : TypeId} {m : Int} {zs : List Int} {A : Option Addr} {u0 u1 : Value} (rc : Blk w3 R t #[u0, u1]) (ho : w3.ownsRow base 3 1 (.slice A zs.length cap) zs.length (zs.map (Value.int .i64))) (hR : R < base) (hw : w.heap.size ≤ R) (hb : Below w.heap.size w w3) (hl : zs.length ≤ 1048577) :
    Blk ((w3.setCell ⟨R, 0, none⟩ (.int .i64 m)).setCell ⟨R, 1, none⟩ (.slice A zs.length cap)) R t #[.int .i64 m, .slice A zs.length cap] ∧ MatOwn ((w3.setCell ⟨R, 0, none⟩ (.int .i64 m)).setCell ⟨R, 1, none⟩ (.slice A zs.length cap)) w.heap.size (.agg #[.int .i64 m, .slice A zs.length cap]) m zs ∧ Below w.heap.size w ((w3.setCell ⟨R, 0, none⟩ (.int .i64 m)).setCell ⟨R, 1, none⟩ (.slice A zs.length cap)) := by
  have G := grow_trans (grow_set w3 R 0 (.int .i64 m)) (grow_set _ R 1 (.slice A zs.length cap))
  exact ⟨(rc.set_ 0 _).set_ 1 _, base_own ⟨_, rfl, own_far ho G hR, hl⟩ (by omega), hb.grown G hb.size (fun j hj => by cases hj; omega)⟩

theorem iUnit_any (n : Int) (w : World) :
    Calls Tryz.prog 15 #[.int .i64 n] w fun e w' => MEnd (unitR n) w e w' := by
  by_cases hn : 1 ≤ n ∧ n ≤ 4
  · obtain ⟨N, rfl⟩ := Int.eq_ofNat_of_zero_le (a := n) (by omega)
    obtain ⟨h1, h2⟩ := hn
    have n1 : 1 ≤ N := by omega
    have n2 : N ≤ 4 := by omega
    obtain ⟨p, hp⟩ : ∃ p, p = N * N := ⟨_, rfl⟩
    have p1 : p ≤ 16 := by
      rw [hp]
      calc N * N ≤ 4 * 4 := Nat.mul_le_mul n2 n2
        _ = 16 := rfl
    have HR : Hid (unitR (N : Int) = some ((N : Int), unitL N)) := by show _ = _; unfold unitR; rw [if_pos ⟨h1, h2⟩]; rfl
    have HP := Lib.hid hp
    clear hp
    go_enter Tryz.func15, Tryz.ntmps15
    go_wp2_with fail
    refine (sizeValid_t _ _ h1 h2).mono ?_
    rintro e w' ⟨rfl, rfl⟩
    go_wp2_with fail
    refine (costRing_any _).mono ?_
    rintro e w1 ⟨rfl, hb1⟩
    have hb0 := below_on (below_a1 w _) hb1
    have rA : Blk w1 w.heap.size 30 #[.int .i64 0, .slice none 0 0] := (blk_new (by simp)).below hb1 (by simp)
    clear hb1
    go_wp2_with fail
    refine (unitSquare_any N p _ n1 n2 HP p1).mono ?_
    rintro e w2 ⟨g, rfl, hb2, hg2, hsq⟩
    have hb3 := below_on hb0 hb2
    have rB := rA.below hb2 (Blk.lt rA)
    clear hb0 hb2 rA
    go_wp2_with fail
    refine (matrix_any N p g _ _ (show p = (unitL N).length by unfold unitL; rw [ofF_len]; exact HP.out) p1 hsq).mono ?_
    rintro e w3 ⟨_, rfl, ⟨x, rfl, ho, hl⟩, hb4⟩
    obtain ⟨A3, cap3, rfl, _, _⟩ := own_ints ho (by unfold maxLen; omega)
    have hb5 := below_on hb3 hb4
    have rC := rB.below hb4 (Blk.lt rB)
    have c0 := rC.cell 0
    have c1 := rC.cell 1
    have f0 := rC.frozen 0
    have f1 := rC.frozen 1
    simp at c0 c1
    have RC := Lib.hid rC
    have HO := Lib.hid ho
    have HB := Lib.hid hb5
    have hrw : w.heap.size < w2.heap.size := Blk.lt rB
    clear rB hb3 hb4 hb5 ho rC hsq
    go_wp2_with fail
    have HF := mat_fin (w := w) (m := (N : Int)) RC.out HO.out hrw (Nat.le_refl _) HB.out hl
    refine bodyPost_ret (results_2 rfl (gives_mat (g := w.heap.size) rfl HF.1) (.tmp rfl)) rfl ?_
    exact MEnd.some_ HR.out HF.2.1 HF.2.2
  · have HR : Hid (unitR n = none) := by show _ = _; unfold unitR; rw [if_neg hn]
    go_enter Tryz.func15, Tryz.ntmps15
    go_wp2_with fail
    refine (sizeValid_f _ _ hn).mono ?_
    rintro e w' ⟨rfl, rfl⟩
    clear hn
    go_wp2_with fail
    refine bodyPost_ret (results_2 rfl (gives_mat (g := w.heap.size) rfl (Blk.new _ _ _)) (.tmp rfl)) rfl ?_
    exact MEnd.none_ HR.out (below_a1 _ _)

theorem iMatrixValid_p (m : Int) (A : Option Addr) (cap p : Nat) (zs : List Int) (r : Bool) (w : World) (hl : zs.length = p) (hz : Ints w w.heap.size A zs) (hr : matOk m zs = r) :
    Calls Tryz.prog 33 #[.agg #[.int .i64 m, .slice A p cap]] w fun e w' => e = .returned (.bool r) ∧ Below w.heap.size w w' := by
  subst hl; exact iMatrixValid_is m A cap zs r w hz hr
theorem below_six {B : Nat} {w0 w : World} (h : Below B w0 w) (g : Nat) (hg : B ≤ g) (v0 v1 v2 v3 v4 v5 : Value) : Below B w0 (((((((w.setCell ⟨g, 0, none⟩ v0).setCell ⟨g, 1, none⟩ v1).setCell ⟨g, 2, none⟩ v2).setCell ⟨g, 3, none⟩ v3).setCell ⟨g, 4, none⟩ v4).setCell ⟨g, 5, none⟩ v5)) :=
  (((((h.setCell (p := ⟨g, 0, none⟩) hg v0).setCell (p := ⟨g, 1, none⟩) hg v1).setCell (p := ⟨g, 2, none⟩) hg v2).setCell (p := ⟨g, 3, none⟩) hg v3).setCell (p := ⟨g, 4, none⟩) hg v4).setCell (p := ⟨g, 5, none⟩) hg v5
theorem gives_sq {tmps : Array Value} {w : World} {p : Tmp} {g : Nat} {t : TypeId} {a b c d e f : Value} (hp : tmps.getD p undef = .pointer (some ⟨g, 0, none⟩)) (hg : Blk w g t #[a, b, c, d, e, f]) : Gives Tryz.prog tmps w (.cell p 61) (.agg #[a, b, c, d, e, f]) :=
  Gives.row hp hg Tryz.underlying61 rfl (by kernel_rfl)
theorem squareOf_raw (n p cap : Nat) (A : Option Addr) (zs : List Int) (w : World) (n1 : 1 ≤ n) (n2 : n ≤ 4) (hp : p = n * n) (hl : zs.length = p) (hz : Ints w w.heap.size A zs) :
    Calls Tryz.prog 51 #[.agg ringV, .agg #[.int .i64 n, .slice A p cap]] w fun e w' => ∃ g, e = .returned (.agg #[.func (.func 65) #[] #[], .int .i64 0, .func (.func 66) #[] #[], .int .i64 1000000, .int .i64 n, .slice (some ⟨g, 0, none⟩) p p]) ∧ Below w.heap.size w w' ∧ w.heap.size ≤ g ∧ Sq w' g zs := squareOf_any n p cap A zs w n1 n2 hp hl hz
theorem pairOf_ok (N p : Nat) (A A' : Option Addr) (cap cap' : Nat) (zs ys : List Int) (w : World) (n1 : 1 ≤ N) (n2 : N ≤ 4) (p1 : p ≤ 16) (HP : Hid (p = N * N)) (HLP : Hid (zs.length = p)) (HLQ : Hid (ys.length = p)) (HOK : Hid (matOk (N : Int) zs = true)) (HOQ : Hid (matOk (N : Int) ys = true)) (hz : Ints w w.heap.size A zs) (hy : Ints w w.heap.size A' ys) :
    Calls Tryz.prog 27 #[.agg #[.int .i64 N, .slice A p cap], .agg #[.int .i64 N, .slice A' p cap']] w fun e w' => ∃ g h, e = .returned (.tuple #[sqV N (.slice (some ⟨g, 0, none⟩) p p), sqV N (.slice (some ⟨h, 0, none⟩) p p), .bool true]) ∧ Below w.heap.size w w' ∧ Sq w' g zs ∧ Sq w' h ys := by
  go_enter Tryz.func27, Tryz.ntmps27
  go_wp2_with fail
  refine (iMatrixValid_p _ _ _ _ _ _ _ HLP.out (ints_al (ints_al (ints_al (ints_al hz _) _) _) _) HOK.out).mono ?_
  rintro e w1 ⟨rfl, hb1⟩
  have hbA := below_on (below_al (below_a3 w _ _ _) (Nat.le_refl _) _) hb1
  have pA : Blk w1 w.heap.size 30 #[.int .i64 N, .slice A p cap] := ((((Blk.new w _ _).alloc _).alloc _).alloc _).below hb1 (by simp; omega)
  have qA : Blk w1 (w.heap.size + 1) 30 #[.int .i64 N, .slice A' p cap'] := (((blk_new (by simp)).alloc _).alloc _).below hb1 (by simp)
  have rA : Blk w1 (w.heap.size + 1 + 1) 61 #[.nilFunc, .int .i64 0, .nilFunc, .int .i64 0, .int .i64 0, .slice none 0 0] := ((blk_new (by simp)).alloc _).below hb1 (by simp)
  have tA : Blk w1 (w.heap.size + 1 + 1 + 1) 61 #[.nilFunc, .int .i64 0, .nilFunc, .int .i64 0, .int .i64 0, .slice none 0 0] := (blk_new (by simp)).below hb1 (by simp)
  obtain ⟨b0, b1⟩ := two_cells qA
  have hzA := hz.below hbA
  have hyA := (hy.below hbA)
  clear hb1
  go_wp2_with fail
  refine (iMatrixValid_p _ _ _ _ _ _ _ HLQ.out (hyA.more hbA.size) HOQ.out).mono ?_
  rintro e w2 ⟨rfl, hb2⟩
  have hbB := below_on hbA hb2
  have pB := pA.below hb2 (Blk.lt pA)
  have qB := qA.below hb2 (Blk.lt qA)
  have rB := rA.below hb2 (Blk.lt rA)
  have tB := tA.below hb2 (Blk.lt tA)
  have hzB := hz.below hbB
  have hyB := hy.below hbB
  have hsz : w.heap.size + 1 + 1 + 1 < w2.heap.size := Blk.lt tB
  obtain ⟨R, hRe⟩ : ∃ R, R = w.heap.size + 1 + 1 := ⟨_, rfl⟩
  rw [← hRe] at rB tB hsz
  rw [← hRe]
  obtain ⟨T, hTe⟩ : ∃ T, T = R + 1 := ⟨_, rfl⟩
  rw [← hTe] at tB hsz
  rw [← hTe]
  have hTR : ¬ T = R := by omega
  have hRT : ¬ R = T := by omega
  have hRle : R ≤ T := by omega
  have hRg : w.heap.size + 1 < R := by omega
  have keep : ∀ w', Below R w2 w' → (Hid (Below R w2 w') ∧ w'.cell? ⟨w.heap.size, 0, none⟩ = some (.int .i64 N) ∧ w'.cell? ⟨w.heap.size, 1, none⟩ = some (.slice A p cap) ∧ w'.cell? ⟨w.heap.size + 1, 0, none⟩ = some (.int .i64 N) ∧ w'.cell? ⟨w.heap.size + 1, 1, none⟩ = some (.slice A' p cap')) := by
    intro w' h
    exact ⟨h, (pB.below h (by omega)).cell 0, (pB.below h (by omega)).cell 1, (qB.below h (by omega)).cell 0, (qB.below h (by omega)).cell 1⟩
  have K := Lib.hid keep
  have KZ : Hid (∀ w', Below R w2 w' → Ints w' w'.heap.size A zs) := fun w' h => (hzB.below (h.mono (by omega))).more (Nat.le_trans hbB.size h.size)
  have KY : Hid (∀ w', Below R w2 w' → Ints w' w'.heap.size A' ys) := fun w' h => (hyB.below (h.mono (by omega))).more (Nat.le_trans hbB.size h.size)
  have HB := Lib.hid hbB
  have R0 := Lib.hid (rB.drewN 1)
  have T0 := Lib.hid (tB.drewN 1)
  have hS0 := K.out w2.drew ((Below.refl _ _).drew)
  obtain ⟨b0, b1⟩ := two_cells pB
  obtain ⟨b2, b3⟩ := two_cells qB
  have hRs : R ≤ w2.heap.size := by omega
  clear keep hb2 hzA hyA hzB hyB hbA hbB pA qA rA tA pB qB rB tB hz hy hRe hTe
  go_wp2_with fail
  go_region_held3 (fun w' => Hid (Below R w2 w') ∧ w'.cell? ⟨w.heap.size, 0, none⟩ = some (.int .i64 N) ∧ w'.cell? ⟨w.heap.size, 1, none⟩ = some (.slice A p cap) ∧ w'.cell? ⟨w.heap.size + 1, 0, none⟩ = some (.int .i64 N) ∧ w'.cell? ⟨w.heap.size + 1, 1, none⟩ = some (.slice A' p cap')) (first | with_reducible assumption | with_reducible exact K.out _ (below_six hS4.1.out _ (Nat.le_refl _) _ _ _ _ _ _) | with_reducible exact K.out _ (below_six (below_six hS4.1.out _ (Nat.le_refl _) _ _ _ _ _ _) _ hRle _ _ _ _ _ _) | skip)
    (first
      | (go_at_call 37; refine (costRing_any _).mono ?_; rintro e w3 ⟨rfl, hb3⟩; have hS1 := K.out _ (hS0.1.out.trans (hb3.mono (Nat.le_trans hRs hS0.1.out.size))); have R1 := Lib.hid (R0.out.below hb3 (Blk.lt R0.out)); have T1 := Lib.hid (T0.out.below hb3 (Blk.lt T0.out)); clear hb3)
      | (go_at_call 37; refine (costRing_any _).mono ?_; rintro e w5 ⟨rfl, hb5⟩; have hS3 := K.out _ (hS2.1.out.trans (hb5.mono (Nat.le_trans hRs hS2.1.out.size))); have R3 := Lib.hid (R2.out.below hb5 (Blk.lt R2.out)); have T3 := Lib.hid (T2.out.below hb5 (Blk.lt T2.out)); have Q3 := Lib.hid (Nm.below Q2.out hb5); clear hb5)
      | (go_at_call_of 51 (Value.slice A p cap); refine (squareOf_raw N p cap A zs _ n1 n2 HP.out HLP.out (KZ.out _ hS1.1.out)).mono ?_; rintro e w4 ⟨g, rfl, hb4, hg4, hq4⟩; have hS2 := K.out _ (hS1.1.out.trans (hb4.mono (Nat.le_trans hRs hS1.1.out.size))); have R2 := Lib.hid (R1.out.below hb4 (Blk.lt R1.out)); have T2 := Lib.hid (T1.out.below hb4 (Blk.lt T1.out)); have Q2 := Lib.hid hq4; have hRg4 := Nat.lt_of_lt_of_le (Blk.lt T1.out) hg4; clear hb4 hq4)
      | (go_at_call_of 51 (Value.slice A' p cap'); refine (squareOf_raw N p cap' A' ys _ n1 n2 HP.out HLQ.out (KY.out _ hS3.1.out)).mono ?_; rintro e w6 ⟨h, rfl, hb6, hg6, hq6⟩; have hS4 := K.out _ (hS3.1.out.trans (hb6.mono (Nat.le_trans hRs hS3.1.out.size))); have R4 := Lib.hid (R3.out.below hb6 (Blk.lt R3.out)); have T4 := Lib.hid (T3.out.below hb6 (Blk.lt T3.out)); have Q4 := Lib.hid (Nm.below Q3.out hb6); have P4 := Lib.hid hq6; have hRg6 := Nat.lt_of_lt_of_le (Blk.lt T3.out) hg6; obtain ⟨d0, d1, d2, d3, d4, d5⟩ := six_cells R4.out; obtain ⟨f0, f1, f2, f3, f4, f5⟩ := six_frozen R4.out; obtain ⟨t0, t1, t2, t3, t4, t5⟩ := six_cells T4.out; obtain ⟨h0, h1, h2, h3, h4, h5⟩ := six_frozen T4.out; clear hb6 hq6))
  go_wp2_with fail
  have BR := (blk_six (v0 := .func (.func 65) #[] #[]) (v1 := .int .i64 0) (v2 := .func (.func 66) #[] #[]) (v3 := .int .i64 1000000) (v4 := .int .i64 N) (v5 := .slice (some ⟨g, 0, none⟩) p p) R4.out).grown (grow_six _ T (.func (.func 65) #[] #[]) (.int .i64 0) (.func (.func 66) #[] #[]) (.int .i64 1000000) (.int .i64 N) (.slice (some ⟨h, 0, none⟩) p p)) hRT
  have GR := grow_six w6 R (.func (.func 65) #[] #[]) (.int .i64 0) (.func (.func 66) #[] #[]) (.int .i64 1000000) (.int .i64 N) (.slice (some ⟨g, 0, none⟩) p p)
  have BT := blk_six (v0 := .func (.func 65) #[] #[]) (v1 := .int .i64 0) (v2 := .func (.func 66) #[] #[]) (v3 := .int .i64 1000000) (v4 := .int .i64 N) (v5 := .slice (some ⟨h, 0, none⟩) p p) (T4.out.grown GR hTR)
  refine bodyPost_ret (results_3 rfl (gives_sq (g := R) rfl BR) (gives_sq (g := T) rfl BT) (.tmp rfl)) rfl ?_
  refine ⟨g, h, rfl, HB.out.trans ((below_six (below_six hS4.1.out _ (Nat.le_refl _) _ _ _ _ _ _) _ hRle _ _ _ _ _ _).mono (by omega)), ?_, ?_⟩
  · exact Blk.grown (Blk.grown Q4.out GR (by omega)) (grow_six _ T _ _ _ _ _ _) (by omega)
  · exact Blk.grown (Blk.grown P4.out GR (by omega)) (grow_six _ T _ _ _ _ _ _) (by omega)


theorem pairOf_no (m m' : Int) (A A' : Option Addr) (cap cap' : Nat) (zs ys : List Int) (w : World) (hz : Ints w w.heap.size A zs) (hy : Ints w w.heap.size A' ys) (hok : twoOk m zs m' ys = false) :
    Calls Tryz.prog 27 #[.agg #[.int .i64 m, .slice A zs.length cap], .agg #[.int .i64 m', .slice A' ys.length cap']] w fun e w' => e = .returned (.tuple #[.agg #[.nilFunc, .int .i64 0, .nilFunc, .int .i64 0, .int .i64 0, .slice none 0 0], .agg #[.nilFunc, .int .i64 0, .nilFunc, .int .i64 0, .int .i64 0, .slice none 0 0], .bool false]) ∧ Below w.heap.size w w' := by
  rcases Bool.eq_false_or_eq_true (matOk m zs) with h1 | h1
  · rcases Bool.eq_false_or_eq_true (matOk m' ys) with h2 | h2
    · have hm : ¬ m = m' := by
        intro e; subst e; simp [twoOk, h1, h2] at hok
      have hmb : (m != m') = true := by rw [bne_iff_ne]; exact hm
      have H1 := Lib.hid h1
      have H2 := Lib.hid h2
      clear h1 h2 hok hm
      go_enter Tryz.func27, Tryz.ntmps27
      go_wp2_with fail
      refine (iMatrixValid_is _ _ _ _ _ _ (ints_al (ints_al (ints_al (ints_al hz _) _) _) _) H1.out).mono ?_
      rintro e w1 ⟨rfl, hb1⟩
      have hbA := below_on (below_al (below_a3 w _ _ _) (Nat.le_refl _) _) hb1
      have pA : Blk w1 w.heap.size 30 #[.int .i64 m, .slice A zs.length cap] := ((((Blk.new w _ _).alloc _).alloc _).alloc _).below hb1 (by simp; omega)
      have qA : Blk w1 (w.heap.size + 1) 30 #[.int .i64 m', .slice A' ys.length cap'] := (((blk_new (by simp)).alloc _).alloc _).below hb1 (by simp)
      have rA : Blk w1 (w.heap.size + 1 + 1) 61 #[.nilFunc, .int .i64 0, .nilFunc, .int .i64 0, .int .i64 0, .slice none 0 0] := ((blk_new (by simp)).alloc _).below hb1 (by simp)
      have tA : Blk w1 (w.heap.size + 1 + 1 + 1) 61 #[.nilFunc, .int .i64 0, .nilFunc, .int .i64 0, .int .i64 0, .slice none 0 0] := (blk_new (by simp)).below hb1 (by simp)
      obtain ⟨b0, b1⟩ := two_cells qA
      clear hb1
      go_wp2_with fail
      refine (iMatrixValid_is _ _ _ _ _ _ ((hy.below hbA).more hbA.size) H2.out).mono ?_
      rintro e w9 ⟨rfl, hb2⟩
      have HB := Lib.hid (below_on hbA hb2)
      obtain ⟨b0, b1⟩ := two_cells (pA.below hb2 (Blk.lt pA))
      obtain ⟨b2, b3⟩ := two_cells (qA.below hb2 (Blk.lt qA))
      have RZ := Lib.hid (rA.below hb2 (Blk.lt rA))
      have TZ := Lib.hid (tA.below hb2 (Blk.lt tA))
      clear hb2 hbA pA qA rA tA

      have rA : Blk w9 (w.heap.size + 1 + 1) 61 #[.nilFunc, .int .i64 0, .nilFunc, .int .i64 0, .int .i64 0, .slice none 0 0] := RZ.out
      have tA : Blk w9 (w.heap.size + 1 + 1 + 1) 61 #[.nilFunc, .int .i64 0, .nilFunc, .int .i64 0, .int .i64 0, .slice none 0 0] := TZ.out
      obtain ⟨d0, d1, d2, d3, d4, d5⟩ := six_cells rA
      obtain ⟨f0, f1, f2, f3, f4, f5⟩ := six_frozen rA
      obtain ⟨t0, t1, t2, t3, t4, t5⟩ := six_cells tA
      obtain ⟨h0, h1, h2, h3, h4, h5⟩ := six_frozen tA
      clear rA tA
      go_wp2_with fail
      have GR := grow_six w9 (w.heap.size + 1 + 1) .nilFunc (.int .i64 0) .nilFunc (.int .i64 0) (.int .i64 0) (.slice none 0 0)
      have BR := (blk_six (v0 := .nilFunc) (v1 := .int .i64 0) (v2 := .nilFunc) (v3 := .int .i64 0) (v4 := .int .i64 0) (v5 := .slice none 0 0) RZ.out).grown (grow_six _ (w.heap.size + 1 + 1 + 1) .nilFunc (.int .i64 0) .nilFunc (.int .i64 0) (.int .i64 0) (.slice none 0 0)) (by omega)
      have BT := blk_six (v0 := .nilFunc) (v1 := .int .i64 0) (v2 := .nilFunc) (v3 := .int .i64 0) (v4 := .int .i64 0) (v5 := .slice none 0 0) (TZ.out.grown GR (by omega))
      refine bodyPost_ret (results_3 rfl (gives_sq (g := w.heap.size + 1 + 1) rfl BR) (gives_sq (g := w.heap.size + 1 + 1 + 1) rfl BT) (.tmp rfl)) rfl ?_
      exact ⟨rfl, below_six (below_six HB.out _ (by omega) _ _ _ _ _ _) _ (by omega) _ _ _ _ _ _⟩

    · have H1 := Lib.hid h1
      have H2 := Lib.hid h2
      clear h1 h2 hok
      go_enter Tryz.func27, Tryz.ntmps27
      go_wp2_with fail
      refine (iMatrixValid_is _ _ _ _ _ _ (ints_al (ints_al (ints_al (ints_al hz _) _) _) _) H1.out).mono ?_
      rintro e w1 ⟨rfl, hb1⟩
      have hbA := below_on (below_al (below_a3 w _ _ _) (Nat.le_refl _) _) hb1
      have qA : Blk w1 (w.heap.size + 1) 30 #[.int .i64 m', .slice A' ys.length cap'] := (((blk_new (by simp)).alloc _).alloc _).below hb1 (by simp)
      have rA : Blk w1 (w.heap.size + 1 + 1) 61 #[.nilFunc, .int .i64 0, .nilFunc, .int .i64 0, .int .i64 0, .slice none 0 0] := ((blk_new (by simp)).alloc _).below hb1 (by simp)
      have tA : Blk w1 (w.heap.size + 1 + 1 + 1) 61 #[.nilFunc, .int .i64 0, .nilFunc, .int .i64 0, .int .i64 0, .slice none 0 0] := (blk_new (by simp)).below hb1 (by simp)
      obtain ⟨b0, b1⟩ := two_cells qA
      clear hb1
      go_wp2_with fail
      refine (iMatrixValid_is _ _ _ _ _ _ ((hy.below hbA).more hbA.size) H2.out).mono ?_
      rintro e w9 ⟨rfl, hb2⟩
      have HB := Lib.hid (below_on hbA hb2)
      have RZ := Lib.hid (rA.below hb2 (Blk.lt rA))
      have TZ := Lib.hid (tA.below hb2 (Blk.lt tA))
      clear hb2 hbA qA rA tA b0 b1

      have rA : Blk w9 (w.heap.size + 1 + 1) 61 #[.nilFunc, .int .i64 0, .nilFunc, .int .i64 0, .int .i64 0, .slice none 0 0] := RZ.out
      have tA : Blk w9 (w.heap.size + 1 + 1 + 1) 61 #[.nilFunc, .int .i64 0, .nilFunc, .int .i64 0, .int .i64 0, .slice none 0 0] := TZ.out
      obtain ⟨d0, d1, d2, d3, d4, d5⟩ := six_cells rA
      obtain ⟨f0, f1, f2, f3, f4, f5⟩ := six_frozen rA
      obtain ⟨t0, t1, t2, t3, t4, t5⟩ := six_cells tA
      obtain ⟨h0, h1, h2, h3, h4, h5⟩ := six_frozen tA
      clear rA tA
      go_wp2_with fail
      have GR := grow_six w9 (w.heap.size + 1 + 1) .nilFunc (.int .i64 0) .nilFunc (.int .i64 0) (.int .i64 0) (.slice none 0 0)
      have BR := (blk_six (v0 := .nilFunc) (v1 := .int .i64 0) (v2 := .nilFunc) (v3 := .int .i64 0) (v4 := .int .i64 0) (v5 := .slice none 0 0) RZ.out).grown (grow_six _ (w.heap.size + 1 + 1 + 1) .nilFunc (.int .i64 0) .nilFunc (.int .i64 0) (.int .i64 0) (.slice none 0 0)) (by omega)
      have BT := blk_six (v0 := .nilFunc) (v1 := .int .i64 0) (v2 := .nilFunc) (v3 := .int .i64 0) (v4 := .int .i64 0) (v5 := .slice none 0 0) (TZ.out.grown GR (by omega))
      refine bodyPost_ret (results_3 rfl (gives_sq (g := w.heap.size + 1 + 1) rfl BR) (gives_sq (g := w.heap.size + 1 + 1 + 1) rfl BT) (.tmp rfl)) rfl ?_
      exact ⟨rfl, below_six (below_six HB.out _ (by omega) _ _ _ _ _ _) _ (by omega) _ _ _ _ _ _⟩

  · have H1 := Lib.hid h1
    clear h1 hok
    go_enter Tryz.func27, Tryz.ntmps27
    go_wp2_with fail
    refine (iMatrixValid_is _ _ _ _ _ _ (ints_al (ints_al (ints_al (ints_al hz _) _) _) _) H1.out).mono ?_
    rintro e w9 ⟨rfl, hb1⟩
    have HB := Lib.hid (below_on (below_al (below_a3 w _ _ _) (Nat.le_refl _) _) hb1)
    have rA : Blk w9 (w.heap.size + 1 + 1) 61 #[.nilFunc, .int .i64 0, .nilFunc, .int .i64 0, .int .i64 0, .slice none 0 0] := ((blk_new (by simp)).alloc _).below hb1 (by simp)
    have tA : Blk w9 (w.heap.size + 1 + 1 + 1) 61 #[.nilFunc, .int .i64 0, .nilFunc, .int .i64 0, .int .i64 0, .slice none 0 0] := (blk_new (by simp)).below hb1 (by simp)
    have RZ := Lib.hid rA
    have TZ := Lib.hid tA
    clear hb1 rA tA

    have rA : Blk w9 (w.heap.size + 1 + 1) 61 #[.nilFunc, .int .i64 0, .nilFunc, .int .i64 0, .int .i64 0, .slice none 0 0] := RZ.out
    have tA : Blk w9 (w.heap.size + 1 + 1 + 1) 61 #[.nilFunc, .int .i64 0, .nilFunc, .int .i64 0, .int .i64 0, .slice none 0 0] := TZ.out
    obtain ⟨d0, d1, d2, d3, d4, d5⟩ := six_cells rA
    obtain ⟨f0, f1, f2, f3, f4, f5⟩ := six_frozen rA
    obtain ⟨t0, t1, t2, t3, t4, t5⟩ := six_cells tA
    obtain ⟨h0, h1, h2, h3, h4, h5⟩ := six_frozen tA
    clear rA tA
    go_wp2_with fail
    have GR := grow_six w9 (w.heap.size + 1 + 1) .nilFunc (.int .i64 0) .nilFunc (.int .i64 0) (.int .i64 0) (.slice none 0 0)
    have BR := (blk_six (v0 := .nilFunc) (v1 := .int .i64 0) (v2 := .nilFunc) (v3 := .int .i64 0) (v4 := .int .i64 0) (v5 := .slice none 0 0) RZ.out).grown (grow_six _ (w.heap.size + 1 + 1 + 1) .nilFunc (.int .i64 0) .nilFunc (.int .i64 0) (.int .i64 0) (.slice none 0 0)) (by omega)
    have BT := blk_six (v0 := .nilFunc) (v1 := .int .i64 0) (v2 := .nilFunc) (v3 := .int .i64 0) (v4 := .int .i64 0) (v5 := .slice none 0 0) (TZ.out.grown GR (by omega))
    refine bodyPost_ret (results_3 rfl (gives_sq (g := w.heap.size + 1 + 1) rfl BR) (gives_sq (g := w.heap.size + 1 + 1 + 1) rfl BT) (.tmp rfl)) rfl ?_
    exact ⟨rfl, below_six (below_six HB.out _ (by omega) _ _ _ _ _ _) _ (by omega) _ _ _ _ _ _⟩

end Go.Proofs.YtjhaegkefagngaaGreatDoor
namespace Go.Proofs.YtjhaegkefagngaaGreatDoor
open Go.RowKit
set_option maxHeartbeats 1000000
set_option maxRecDepth 100000
set_option linter.unusedVariables false

theorem twoOk_t {m m' : Int} {zs ys : List Int} (h : twoOk m zs m' ys = true) : ∃ n : Nat, m = (n : Int) ∧ m' = (n : Int) ∧ MV n zs ∧ MV n ys := by
  simp only [twoOk, Bool.and_eq_true, decide_eq_true_eq] at h
  obtain ⟨h1, h2, h3⟩ := h
  obtain ⟨n, rfl, mv⟩ := matOk_t h1
  subst h3
  obtain ⟨n', e, mv'⟩ := matOk_t h2
  have : n = n' := by omega
  subst this
  exact ⟨n, rfl, rfl, mv, mv'⟩

end Go.Proofs.YtjhaegkefagngaaGreatDoor
