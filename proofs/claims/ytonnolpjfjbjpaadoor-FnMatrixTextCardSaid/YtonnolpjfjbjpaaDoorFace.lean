/- What the program's functions of matrices return: the plain functions of their numbers, in new memory; the zero value and false where there is none; nothing that was there changes. MinMatrix, as the program has it: the plain function of its numbers, in new memory; nothing that was there changes. -/
import Derived.Test.YtonnolpjfjbjpaaDoorSq
import Derived.Deep.RegionWith
namespace Go.Proofs.YtonnolpjfjbjpaaDoor
open Go.RowKit
set_option maxHeartbeats 1000000
set_option maxRecDepth 100000
set_option linter.unusedVariables false

/-- What a function leaves that returns a matrix, if there is one. -/
def MEnd (r : Option (Int × List Int)) (w : World) (e : Ending) (w' : World) : Prop :=
  ∃ v, e = .returned (.tuple #[v, .bool r.isSome]) ∧ MatOwn w' w.heap.size v (r.getD (0, [])).1 (r.getD (0, [])).2 ∧ Below w.heap.size w w'
theorem MEnd.none_ {r : Option (Int × List Int)} {w w' : World} (hr : r = none) (hb : Below w.heap.size w w') : MEnd r w (.returned (.tuple #[.agg #[.int .i64 0, .slice none 0 0], .bool false])) w' := by
  subst hr; exact ⟨_, rfl, ⟨_, rfl, World.ownsRow_nil _ _ _ _, Nat.zero_le _⟩, hb⟩
theorem MEnd.some_ {r : Option (Int × List Int)} {w w' : World} {m : Int} {zs : List Int} {v : Value} (hr : r = some (m, zs)) (ho : MatOwn w' w.heap.size v m zs) (hb : Below w.heap.size w w') : MEnd r w (.returned (.tuple #[v, .bool true])) w' := by
  subst hr; exact ⟨v, rfl, ho, hb⟩

def unitR (n : Int) : Option (Int × List Int) := if 1 ≤ n ∧ n ≤ 4 then some (n, unitL n.toNat) else none
def turnR (m : Int) (zs : List Int) : Option (Int × List Int) := if matOk m zs = true then some (m, turnL m.toNat zs) else none
def twoOk (m : Int) (zs : List Int) (m' : Int) (ys : List Int) : Bool := matOk m zs && (matOk m' ys && decide (m = m'))
def minR (m : Int) (zs : List Int) (m' : Int) (ys : List Int) : Option (Int × List Int) := if twoOk m zs m' ys = true then some (m, minL m.toNat zs ys) else none
def mulR (m : Int) (zs : List Int) (m' : Int) (ys : List Int) : Option (Int × List Int) := if twoOk m zs m' ys = true then some (m, mulL m.toNat zs ys) else none

theorem base_own {w : World} {base base' : Nat} {v : Value} {m : Int} {zs : List Int} (h : MatOwn w base v m zs) (hb : base' ≤ base) : MatOwn w base' v m zs := by
  obtain ⟨x, e, ho, hl⟩ := h
  refine ⟨x, e, ⟨ho.1, ?_⟩, hl⟩
  rcases ho.2 with h0 | ⟨g, cap, cur, h1, h2, h3⟩
  · exact Or.inl h0
  · exact Or.inr ⟨g, cap, cur, h1, Nat.le_trans hb h2, h3⟩

theorem mat_fin {w w3 : World} {R base cap : Nat} {t : TypeId} {m : Int} {zs : List Int} {A : Option Addr} {u0 u1 : Value} (rc : Blk w3 R t #[u0, u1]) (ho : w3.ownsRow base 3 1 (.slice A zs.length cap) zs.length (zs.map (Value.int .i64))) (hR : R < base) (hw : w.heap.size ≤ R) (hb : Below w.heap.size w w3) (hl : zs.length ≤ 1048577) :
    Blk ((w3.setCell ⟨R, 0, none⟩ (.int .i64 m)).setCell ⟨R, 1, none⟩ (.slice A zs.length cap)) R t #[.int .i64 m, .slice A zs.length cap] ∧ MatOwn ((w3.setCell ⟨R, 0, none⟩ (.int .i64 m)).setCell ⟨R, 1, none⟩ (.slice A zs.length cap)) w.heap.size (.agg #[.int .i64 m, .slice A zs.length cap]) m zs ∧ Below w.heap.size w ((w3.setCell ⟨R, 0, none⟩ (.int .i64 m)).setCell ⟨R, 1, none⟩ (.slice A zs.length cap)) := by
  have G := grow_trans (grow_set w3 R 0 (.int .i64 m)) (grow_set _ R 1 (.slice A zs.length cap))
  exact ⟨(rc.set_ 0 _).set_ 1 _, base_own ⟨_, rfl, own_far ho G hR, hl⟩ (by omega), hb.grown G hb.size (fun j hj => by cases hj; omega)⟩

theorem iMatrixValid_p (m : Int) (A : Option Addr) (cap p : Nat) (zs : List Int) (r : Bool) (w : World) (hl : zs.length = p) (hz : Ints w w.heap.size A zs) (hr : matOk m zs = r) :
    Calls Tryd.prog 8 #[.agg #[.int .i64 m, .slice A p cap]] w fun e w' => e = .returned (.bool r) ∧ Below w.heap.size w w' := by
  subst hl; exact iMatrixValid_is m A cap zs r w hz hr
theorem iTurn_any (m : Int) (A : Option Addr) (cap : Nat) (zs : List Int) (w : World) (hz : Ints w w.heap.size A zs) :
    Calls Tryd.prog 14 #[.agg #[.int .i64 m, .slice A zs.length cap]] w fun e w' => MEnd (turnR m zs) w e w' := by
  rcases Bool.eq_false_or_eq_true (matOk m zs) with hok | hok
  · obtain ⟨N, rfl, mv⟩ := matOk_t hok
    have n1 := mv.lo
    have n2 := mv.hi
    obtain ⟨p, hp⟩ : ∃ p, p = N * N := ⟨_, rfl⟩
    have p1 : p ≤ 16 := by rw [hp]; exact mv.sq
    have HR : Hid (turnR (N : Int) zs = some ((N : Int), turnL N zs)) := by show _ = _; unfold turnR; rw [if_pos hok]; rfl
    have HP := Lib.hid hp
    have hlp : zs.length = p := by rw [mv.len, hp]
    have HLP := Lib.hid hlp
    have HOK := Lib.hid hok
    clear hp mv hok
    rw [hlp]
    clear hlp
    go_enter Tryd.func14, Tryd.ntmps14
    go_wp2_with fail
    refine (iMatrixValid_p _ _ _ _ _ _ _ HLP.out (ints_al (ints_al hz _) _) HOK.out).mono ?_
    rintro e w1 ⟨rfl, hb1⟩
    have hb0 := below_on (below_a2 w _ _) hb1
    have pA : Blk w1 w.heap.size 25 #[.int .i64 N, .slice A p cap] := ((Blk.new w _ _).alloc _).below hb1 (by simp; omega)
    have rA : Blk w1 (w.heap.size + 1) 25 #[.int .i64 0, .slice none 0 0] := (blk_new (by simp)).below hb1 (by simp)
    obtain ⟨R, hRe⟩ : ∃ R, R = w.heap.size + 1 := ⟨_, rfl⟩
    rw [← hRe] at rA
    rw [← hRe]
    have hRg : w.heap.size < R := by omega
    have hz1 := hz.below hb0
    have keep : ∀ w', w1.grownBy w' (some R) → (Hid (w1.grownBy w' (some R)) ∧ w'.cell? ⟨w.heap.size, 0, none⟩ = some (.int .i64 N) ∧ w'.cell? ⟨w.heap.size, 1, none⟩ = some (.slice A p cap)) := by
      intro w' h
      exact ⟨h, (pA.grown h (by omega)).cell 0, (pA.grown h (by omega)).cell 1⟩
    have K := Lib.hid keep
    have HZ := Lib.hid hz1
    have HB := Lib.hid hb0
    have RA := Lib.hid (rA.drewN 1)
    have hS0 := K.out w1.drew (grow_drew _ _)
    clear keep hb1 hz1 hb0 pA rA hz hRe
    go_wp2_with fail
    go_region_held3 (fun w' => Hid (w1.grownBy w' (some R)) ∧ w'.cell? ⟨w.heap.size, 0, none⟩ = some (.int .i64 N) ∧ w'.cell? ⟨w.heap.size, 1, none⟩ = some (.slice A p cap)) (first | assumption | exact K.out _ (grow_trans hS4.1.out (grow_trans (grow_set _ _ _ _) (grow_set _ _ _ _))) | skip)
      (first
        | (go_at_call 36; refine (costRing_any _).mono ?_; rintro e w2 ⟨rfl, hb2⟩; have hS1 := K.out _ (grow_trans hS0.1.out (grow_below_any hb2 _)); have R2 := Lib.hid (RA.out.below hb2 (Blk.lt RA.out)); clear hb2)
        | (go_at_call 35; refine (squareOf_any N p cap A zs _ n1 n2 HP.out HLP.out ((ints_grown HZ.out hS1.1.out (Nat.le_of_lt hRg) HB.out.size).more (Nat.le_trans HB.out.size hS1.1.out.size))).mono ?_; rintro e w3 ⟨g, rfl, hb3, hg3, hq3⟩; have hS2 := K.out _ (grow_trans hS1.1.out (grow_below_any hb3 _)); have R3 := Lib.hid (R2.out.below hb3 (Blk.lt R2.out)); have Q3 := Lib.hid hq3; clear hb3 hq3)
        | (go_at_call 37; refine (turned_any N p g zs _ n1 n2 HP HLP p1 Q3.out).mono ?_; rintro e w4 ⟨g4, rfl, hb4, hg4, hq4⟩; have hS3 := K.out _ (grow_trans hS2.1.out (grow_below_any hb4 _)); have R4 := Lib.hid (R3.out.below hb4 (Blk.lt R3.out)); have Q4 := Lib.hid hq4; clear hb4 hq4)
        | (go_at_call 38; refine (matrix_any N p g4 _ _ (show p = (turnL N zs).length by unfold turnL; rw [ofF_len]; exact HP.out) p1 Q4.out).mono ?_; rintro e w5 ⟨_, rfl, ⟨x, rfl, ho, hl⟩, hb5⟩; obtain ⟨A5, cap5, rfl, _, _⟩ := own_ints ho (by unfold maxLen; omega); have hS4 := K.out _ (grow_trans hS3.1.out (grow_below_any hb5 _)); have R5 := Lib.hid (R4.out.below hb5 (Blk.lt R4.out)); have HO := Lib.hid ho; have hRw := Blk.lt R4.out; obtain ⟨c0, c1⟩ := two_cells R5.out; obtain ⟨f0, f1⟩ := two_frozen R5.out; clear hb5 ho))
    go_wp2_with fail
    have HF := mat_fin (w := w) (m := (N : Int)) R5.out HO.out hRw (Nat.le_of_lt hRg) (HB.out.grown hS4.1.out HB.out.size (fun j hj => by cases hj; exact Nat.le_of_lt hRg)) hl
    refine bodyPost_ret (results_2 rfl (gives_mat (g := R) rfl HF.1) (.tmp rfl)) rfl ?_
    exact MEnd.some_ HR.out HF.2.1 HF.2.2
  · have HR : Hid (turnR m zs = none) := by show _ = _; unfold turnR; rw [if_neg (by rw [hok]; decide)]
    have HOK := Lib.hid hok
    clear hok
    go_enter Tryd.func14, Tryd.ntmps14
    go_wp2_with fail
    refine (iMatrixValid_is _ _ _ _ _ _ (ints_al (ints_al hz _) _) HOK.out).mono ?_
    rintro e w1 ⟨rfl, hb1⟩
    have hb0 := below_on (below_a2 w _ _) hb1
    have rA : Blk w1 (w.heap.size + 1) 25 #[.int .i64 0, .slice none 0 0] := (blk_new (by simp)).below hb1 (by simp)
    obtain ⟨c0, c1⟩ := two_cells rA
    obtain ⟨f0, f1⟩ := two_frozen rA
    have RA := Lib.hid rA
    have HB := Lib.hid hb0
    clear hb1 hb0 rA
    go_wp2_with fail
    refine bodyPost_ret (results_2 rfl (gives_mat (g := w.heap.size + 1) rfl ((RA.out.set_ 0 _).set_ 1 _)) (.tmp rfl)) rfl ?_
    exact MEnd.none_ HR.out ((HB.out.setCell (p := ⟨_, 0, none⟩) (Nat.le_succ _) _).setCell (p := ⟨_, 1, none⟩) (Nat.le_succ _) _)

theorem below_six {B : Nat} {w0 w : World} (h : Below B w0 w) (g : Nat) (hg : B ≤ g) (v0 v1 v2 v3 v4 v5 : Value) : Below B w0 (((((((w.setCell ⟨g, 0, none⟩ v0).setCell ⟨g, 1, none⟩ v1).setCell ⟨g, 2, none⟩ v2).setCell ⟨g, 3, none⟩ v3).setCell ⟨g, 4, none⟩ v4).setCell ⟨g, 5, none⟩ v5)) :=
  (((((h.setCell (p := ⟨g, 0, none⟩) hg v0).setCell (p := ⟨g, 1, none⟩) hg v1).setCell (p := ⟨g, 2, none⟩) hg v2).setCell (p := ⟨g, 3, none⟩) hg v3).setCell (p := ⟨g, 4, none⟩) hg v4).setCell (p := ⟨g, 5, none⟩) hg v5
theorem gives_sq {tmps : Array Value} {w : World} {p : Tmp} {g : Nat} {t : TypeId} {a b c d e f : Value} (hp : tmps.getD p undef = .pointer (some ⟨g, 0, none⟩)) (hg : Blk w g t #[a, b, c, d, e, f]) : Gives Tryd.prog tmps w (.cell p 62) (.agg #[a, b, c, d, e, f]) :=
  Gives.row hp hg Tryd.underlying62 rfl (by kernel_rfl)
theorem squareOf_raw (n p cap : Nat) (A : Option Addr) (zs : List Int) (w : World) (n1 : 1 ≤ n) (n2 : n ≤ 4) (hp : p = n * n) (hl : zs.length = p) (hz : Ints w w.heap.size A zs) :
    Calls Tryd.prog 35 #[.agg ringV, .agg #[.int .i64 n, .slice A p cap]] w fun e w' => ∃ g, e = .returned (.agg #[.func (.func 52) #[] #[], .int .i64 0, .func (.func 53) #[] #[], .int .i64 1000000, .int .i64 n, .slice (some ⟨g, 0, none⟩) p p]) ∧ Below w.heap.size w w' ∧ w.heap.size ≤ g ∧ Sq w' g zs := squareOf_any n p cap A zs w n1 n2 hp hl hz
end Go.Proofs.YtonnolpjfjbjpaaDoor
namespace Go.Proofs.YtonnolpjfjbjpaaDoor
open Go.RowKit
set_option maxHeartbeats 1000000
set_option maxRecDepth 100000
set_option linter.unusedVariables false

theorem twoOk_t {m m' : Int} {zs ys : List Int} (h : twoOk m zs m' ys = true) : ∃ n : Nat, m = (n : Int) ∧ m' = (n : Int) ∧ MV n zs ∧ MV n ys := by
  simp only [twoOk, Bool.and_eq_true, decide_eq_true_eq] at h
  obtain ⟨h1, h2, h3⟩ := h
  obtain ⟨n, rfl, mv⟩ := matOk_t h1
  subst h3
  obtain ⟨n', e, mv'⟩ := matOk_t h2
  have : n = n' := by omega
  subst this
  exact ⟨n, rfl, rfl, mv, mv'⟩

end Go.Proofs.YtonnolpjfjbjpaaDoor
