/- Squares of grades: a matrix of one, units, products: each the plain function of its numbers, in new memory; nothing that was there changes. Squares of grades as keys that are compared; whether one is its own square; what becomes of one that is repeated: each the plain function of its numbers; nothing that was there changes. Whether a matrix has grades alone, as the program and the model have it; its square of grades; squares as keys that are compared, and whether one is its own square. Nothing that was there changes. -/
import Derived.Test.YtjhaegkefagngaaGreatDoorSq7
import Derived.Test.YtjhaegkefagngaaGreatDoorLastOp
import Derived.Test.YtjhaegkefagngaaGreatDoorGr
import Derived.Laws.CopyOwn
import Derived.Laws.Tables
import Derived.ChangeKeysEq
import Derived.Deep.RegionWith
namespace Go.Proofs.YtjhaegkefagngaaGreatDoor
open Go.RowKit
set_option maxHeartbeats 2000000
set_option maxRecDepth 100000
set_option linter.unusedVariables false
/-- The semiring of costs as a value. -/
def gringV : Array Value := #[.func (.func 89) #[] #[], .int .i64 0, .func (.func 45) #[] #[], .int .i64 3]
theorem gradeRing_any (w : World) :
    Calls Tryz.prog 69 #[] w fun e w' => e = .returned (.agg gringV) ∧ Below w.heap.size w w' := by
  go_enter Tryz.func69, Tryz.ntmps69
  go_wp2
  refine bodyPost_ret (results_1 rfl (Gives.row (g := w.heap.size) rfl (Blk.new _ _ _) Tryz.underlying86 rfl (by kernel_rfl))) rfl ?_
  exact ⟨rfl, below_a1 _ _⟩
theorem g_rowOf_is (b off n cap i s p : Nat) (s1 : 1 ≤ s) (s2 : s ≤ 4) (hi : i < s) (hp : p = i * s) (hc : p + s ≤ cap) (w : World) :
    Calls Tryz.prog 75 #[.slice (some ⟨b, off, none⟩) n cap, .int .i64 s, .int .i64 i] w fun e w' => e = .returned (.slice (some ⟨b, off + p, none⟩) s s) ∧ w = w' := by
  have p1 : p ≤ 16 := by
    rw [hp]
    calc i * s ≤ 4 * 4 := Nat.mul_le_mul (by omega) s2
      _ = 16 := rfl
  have h1 : wrap64 ((i : Int) * (s : Int)) = (p : Int) := by rw [← Int.natCast_mul, ← hp]; exact w64_nat (by omega)
  have h2 : wrap64 (((i : Int) + 1) * (s : Int)) = ((p + s : Nat) : Int) := by
    have e : ((i : Int) + 1) * (s : Int) = ((p + s : Nat) : Int) := by rw [Int.add_mul, Int.one_mul, ← Int.natCast_mul, ← hp]; simp
    rw [e]; exact w64_nat (by omega)
  obtain ⟨q, hq⟩ : ∃ q, q = p + s := ⟨_, rfl⟩
  rw [← hq] at h2
  have H1 := Lib.hid h1
  have c1 : (0 : Int) ≤ (q : Int) := by omega
  have c2 : (q : Int) ≤ (cap : Int) := by omega
  have c3 : (p : Int) ≤ (q : Int) := by omega
  have c4 : (0 : Int) ≤ (p : Int) := by omega
  have c5 : ¬ q = p := by omega
  have c6 : q - p = s := by omega
  clear H1 hp hc hq
  go_enter Tryz.func75, Tryz.ntmps75
  go_wp2
  go_ret
  exact ⟨rfl, rfl⟩
theorem info_grade : (Tryz.prog.info? 76).map (fun i => (i.zero, i.size, i.bytes)) = some (some (.int .i64 0), 1, 8) := by kernel_rfl
/-- A square as a value: the semiring of costs, its size, its numbers' slice. -/
def gsqV (n : Nat) (x : Value) : Value := .agg #[.func (.func 89) #[] #[], .int .i64 0, .func (.func 45) #[] #[], .int .i64 3, .int .i64 n, x]
def gsqC (n : Nat) (x : Value) : Array Value := #[.func (.func 89) #[] #[], .int .i64 0, .func (.func 45) #[] #[], .int .i64 3, .int .i64 n, x]
theorem gsqV_eq (n : Nat) (x : Value) : gsqV n x = .agg (gsqC n x) := rfl
abbrev GSq (w : World) (g : Nat) (zs : List Int) : Prop := Nm w g 76 zs
theorem g_newSquare_any (n p : Nat) (w : World) (n1 : 1 ≤ n) (n2 : n ≤ 4) (hp : p = n * n) :
    Calls Tryz.prog 70 #[.agg gringV, .int .i64 n] w fun e w' => ∃ g, e = .returned (gsqV n (.slice (some ⟨g, 0, none⟩) p p)) ∧ Below w.heap.size w w' ∧ w.heap.size ≤ g ∧ GSq w' g (List.replicate p 0) := by
  have p1 : p ≤ 16 := by
    rw [hp]
    calc n * n ≤ 4 * 4 := Nat.mul_le_mul n2 n2
      _ = 16 := rfl
  have h1 : wrap64 ((n : Int) * (n : Int)) = (p : Int) := by rw [← Int.natCast_mul, ← hp]; exact w64_nat (by omega)
  clear hp
  have hmk : ∀ w : World, (Instr.makeSlice 87 (.int .i64 (p : Int)) (.int .i64 (p : Int))).run Tryz.prog w = .ok (.slice (some ⟨w.heap.size, 0, none⟩) p p) (w.alloc (.cells (madeCells #[.int .i64 0] p) 76)) :=
    fun w => run_make_row' 87 76 (.int .i64 0) 8 Tryz.underlying87 info_grade rfl .i64 .i64 p (by omega) (by omega) w
  unfold gringV
  go_enter Tryz.func70, Tryz.ntmps70
  go_wp2_with fail
  go_region
  go_wp2_with fail
  refine bodyPost_ret (results_1 rfl (Gives.row (g := w.heap.size + 1) rfl (((blk_new (by simp)).alloc _).drewN 1) Tryz.underlying89 rfl (by kernel_rfl))) rfl ?_
  refine ⟨w.heap.size + 1 + 1, rfl, below_dr (below_a3 _ _ _ _) 1, by omega, ?_⟩
  show Blk _ _ _ _
  rw [← made_zero]
  exact (blk_new (by simp)).drewN 1
theorem g_row_is (g n cap i p : Nat) (n1 : 1 ≤ n) (n2 : n ≤ 4) (hi : i < n) (hp : p = i * n) (hc : p + n ≤ cap) (w : World) :
    Calls Tryz.prog 46 #[gsqV n (.slice (some ⟨g, 0, none⟩) cap cap), .int .i64 i] w fun e w' => e = .returned (.slice (some ⟨g, p, none⟩) n n) ∧ Below w.heap.size w w' := by
  have HP := Lib.hid hp
  clear hp
  unfold gsqV
  go_enter Tryz.func46, Tryz.ntmps46
  go_wp2_with fail
  refine (g_rowOf_is g 0 cap cap i n p n1 n2 hi HP.out hc _).mono ?_
  rintro e w' ⟨rfl, rfl⟩
  rw [Nat.zero_add]
  go_wp2_with fail
  go_ret
  exact ⟨rfl, below_a1 _ _⟩
theorem g_squareOf_any (n p cap : Nat) (A : Option Addr) (zs : List Int) (w : World) (n1 : 1 ≤ n) (n2 : n ≤ 4) (hp : p = n * n) (hl : zs.length = p) (hz : Ints w w.heap.size A zs) :
    Calls Tryz.prog 68 #[.agg gringV, .agg #[.int .i64 n, .slice A p cap]] w fun e w' => ∃ g, e = .returned (gsqV n (.slice (some ⟨g, 0, none⟩) p p)) ∧ Below w.heap.size w w' ∧ w.heap.size ≤ g ∧ GSq w' g zs := by
  have p1 : p ≤ 16 := by
    rw [hp]
    calc n * n ≤ 4 * 4 := Nat.mul_le_mul n2 n2
      _ = 16 := rfl
  have HP := Lib.hid hp
  clear hp
  unfold gringV
  go_enter Tryz.func68, Tryz.ntmps68
  go_wp2_with fail
  refine (g_newSquare_any n p _ n1 n2 HP.out).mono ?_
  rintro e w1 ⟨g, rfl, hb1, hg1, hsq⟩
  unfold gsqV
  have m1 : Blk w1 (w.heap.size + 1) 30 #[.int .i64 n, .slice A p cap] := ((blk_new (by simp)).alloc _).below hb1 (by simp)
  have r1 : Blk w1 (w.heap.size + 1 + 1) 89 #[.nilFunc, .int .i64 0, .nilFunc, .int .i64 0, .int .i64 0, .slice none 0 0] := (blk_new (by simp)).below hb1 (by simp)
  have hgr : w.heap.size + 1 + 1 < g := by simp at hg1; omega
  have hb0 := below_on (below_a3 w _ _ _) hb1
  have hc1 : ∀ o, (w1.alloc o).cell? ⟨w.heap.size + 1, 1, none⟩ = some (.slice A p cap) := fun o => (m1.alloc o).cell 1
  have hz1 := (hz.below hb0)
  clear hb1 hg1
  go_wp2_with fail
  obtain ⟨w2, hw2⟩ : ∃ w2, w2 = w1.alloc (.cells (gsqC n (.slice (some ⟨g, 0, none⟩) p p)) 89) := ⟨_, rfl⟩
  have v2 : Blk w2 w1.heap.size 89 (gsqC n (.slice (some ⟨g, 0, none⟩) p p)) := by rw [hw2]; exact Blk.new _ _ _
  have r2 : Blk w2 (w.heap.size + 1 + 1) 89 #[.nilFunc, .int .i64 0, .nilFunc, .int .i64 0, .int .i64 0, .slice none 0 0] := by rw [hw2]; exact r1.alloc _
  have q2 : GSq w2 g (List.replicate p 0) := by rw [hw2]; exact Blk.alloc hsq _
  have z2 : Ints w2 w.heap.size A zs := by rw [hw2]; exact hz1.below ((Below.refl _ _).alloc hb0.size _)
  have b2 : Below w.heap.size w w2 := by rw [hw2]; exact hb0.alloc hb0.size _
  have hgs : ¬ w1.heap.size = g := by have := Blk.lt hsq; omega
  unfold gsqC at hw2
  rw [← hw2]
  obtain ⟨S, hS⟩ : ∃ S, S = w1.heap.size := ⟨_, rfl⟩
  rw [← hS] at v2 hgs
  rw [← hS]
  have V2 := Lib.hid v2
  have R2 := Lib.hid r2
  have Q2 := Lib.hid q2
  have B2 := Lib.hid b2
  clear hw2 hS v2 r2 q2 b2 m1 r1 hsq hb0 hc1 hz1 hz
  go_loopw [15] (fun i wr => ∃ (k : Nat) (cs : List Int), k ≤ p ∧ i = .int .i64 k ∧ Hid (cs.length = p) ∧ Hid (cs.take k = zs.take k) ∧ Hid (GSq wr g cs) ∧ Hid (w2.grownBy wr (some g))) (fun i _ => p - (intOf i).toNat)
  case atStart => exact ⟨0, List.replicate p 0, Nat.zero_le _, rfl, List.length_replicate, rfl, Q2, World.grownBy.refl _ _⟩
  case round =>
    obtain ⟨k, cs, hk, rfl, hcl, htk, hsq, hg2⟩ := hrel
    have hvr := (V2.out.grown hg2.out hgs)
    have hs2 := hvr.cell 5
    simp [gsqC] at hs2
    by_cases hlt : k < p
    · have hzr := ints_grown z2 hg2.out (by omega) B2.out.size
      obtain ⟨b, off, z, rfl, _, hc, hd, hgz⟩ := hzr.at_ (k := k) (by omega)
      have hcell := hsq.out.at_ (k := k) (by have := hcl.out; omega)
      have hfr := hsq.out.fz k
      have Q3 := Lib.hid (hsq.out.set_ k z)
      have G3 := Lib.hid (grow_trans hg2.out (grow_set wr g k (.int .i64 z)))
      have T3 := Lib.hid (set_prefix htk.out (by omega) (by have := hcl.out; omega) hgz)
      clear hd hgz hzr
      go_wp2_with fail
      go_roundw
      case rel => exact ⟨k + 1, cs.set k z, by omega, by go_num, by show _ = _; rw [List.length_set]; exact hcl.out, T3.out, Q3.out, G3.out⟩
      case measure => simp [intOf]; omega
    · have hrr := R2.out.grown hg2.out (by omega)
      obtain ⟨a0, a1, a2, a3, a4, a5⟩ := six_cells (show Blk wr S 89 #[_, _, _, _, _, _] from hvr)
      obtain ⟨d0, d1, d2, d3, d4, d5⟩ := six_cells hrr
      obtain ⟨f0, f1, f2, f3, f4, f5⟩ := six_frozen hrr
      have HRR := Lib.hid hrr
      have HZS : Hid (cs = zs) := by
        have h1 := htk.out
        have h2 := hcl.out
        show _ = _
        rwa [List.take_of_length_le (by omega), List.take_of_length_le (by omega)] at h1
      clear hrr hvr hs2
      go_wp2_with fail
      refine bodyPost_ret (results_1 rfl (Gives.row (g := w.heap.size + 1 + 1) rfl (blk_six HRR.out) Tryz.underlying89 rfl (by kernel_rfl))) rfl ?_
      refine ⟨g, rfl, ?_, by omega, ?_⟩
      · exact (B2.out.grown hg2.out B2.out.size (fun j hj => by cases hj; omega)).grown (grow_six _ _ _ _ _ _ _ _) (by have := hg2.out.size; have := B2.out.size; omega) (fun j hj => by cases hj; omega)
      · rw [← HZS.out]
        exact Blk.grown hsq.out (grow_six _ _ _ _ _ _ _ _) (by omega)
theorem gsq_eq (n : Nat) (x : Value) : gsqC n x = #[.func (.func 89) #[] #[], .int .i64 0, .func (.func 45) #[] #[], .int .i64 3, .int .i64 n, x] := rfl
theorem g_matrix_any (n p g : Nat) (zs : List Int) (w : World) (hp : Hid (p = zs.length)) (p1 : p ≤ 16) (hq : GSq w g zs) :
    Calls Tryz.prog 43 #[gsqV n (.slice (some ⟨g, 0, none⟩) p p)] w fun e w' => ∃ v, e = .returned v ∧ MatOwn w' w.heap.size v n zs ∧ Below w.heap.size w w' := by
  have hmk : ∀ w : World, (Instr.makeSlice 23 (.int .i64 (p : Int)) (.int .i64 (p : Int))).run Tryz.prog w = .ok (.slice (some ⟨w.heap.size, 0, none⟩) p p) (w.alloc (.cells (madeCells #[.int .i64 0] p) 3)) :=
    fun w => run_make_row' 23 3 (.int .i64 0) 8 Tryz.underlying23 info_int' rfl .i64 .i64 p (by omega) (by omega) w
  have hgw := Blk.lt hq
  unfold gsqV
  go_enter Tryz.func43, Tryz.ntmps43
  go_wp2
  obtain ⟨w2, hw2⟩ : ∃ w2, w2 = ((w.alloc (.cells (gsqC n (.slice (some ⟨g, 0, none⟩) p p)) 89)).alloc (.cells #[.int .i64 0, .slice none 0 0] 30)).alloc (.cells (madeCells #[.int .i64 0] p) 3) := ⟨_, rfl⟩
  have v2 : Blk w2 w.heap.size 89 (gsqC n (.slice (some ⟨g, 0, none⟩) p p)) := by rw [hw2]; exact ((Blk.new _ _ _).alloc _).alloc _
  have r2 : Blk w2 (w.heap.size + 1) 30 #[.int .i64 0, .slice none 0 0] := by rw [hw2]; exact (blk_new (by simp)).alloc _
  have q2 : Nm w2 (w.heap.size + 1 + 1) 3 (List.replicate p 0) := by
    rw [hw2]
    show Blk _ _ _ _
    rw [← made_zero]
    exact blk_new (by simp)
  have b2 : Below w.heap.size w w2 := by rw [hw2]; exact below_a3 _ _ _ _
  have z2 : Ints w2 w.heap.size (some ⟨g, 0, none⟩) zs := by rw [hw2]; exact (hq.ints (by have := hp.out; omega)).below (below_a3 _ _ _ _)
  unfold gsqC at hw2
  rw [← hw2]
  have V2 := Lib.hid v2
  have R2 := Lib.hid r2
  have Q2 := Lib.hid q2
  have B2 := Lib.hid b2
  have hs1 : w.heap.size + 1 + 1 < w2.heap.size := Blk.lt q2
  clear hw2 v2 r2 q2 b2 hmk
  go_loopw [13] (fun i wr => ∃ (k : Nat) (cs : List Int), k ≤ p ∧ i = .int .i64 k ∧ Hid (cs.length = p) ∧ Hid (cs.take k = zs.take k) ∧ Hid (Nm wr (w.heap.size + 1 + 1) 3 cs) ∧ Hid (w2.grownBy wr (some (w.heap.size + 1 + 1)))) (fun i _ => p - (intOf i).toNat)
  case atStart => exact ⟨0, List.replicate p 0, Nat.zero_le _, rfl, List.length_replicate, rfl, Q2, World.grownBy.refl _ _⟩
  case round =>
    obtain ⟨k, cs, hk, rfl, hcl, htk, hsq, hg2⟩ := hrel
    by_cases hlt : k < p
    · have hzr := ints_grown z2 hg2.out (by omega) (by omega)
      obtain ⟨b, off, z, e0, _, hc, hd, hgz⟩ := hzr.at_ (k := k) (by have := hp.out; omega)
      cases e0
      rw [Nat.zero_add] at hc
      have hcell := hsq.out.at_ (k := k) (by have := hcl.out; omega)
      have hfr := hsq.out.fz k
      have Q3 := Lib.hid (hsq.out.set_ k z)
      have G3 := Lib.hid (grow_trans hg2.out (grow_set wr (w.heap.size + 1 + 1) k (.int .i64 z)))
      have T3 := Lib.hid (set_prefix htk.out (by have := hp.out; omega) (by have := hcl.out; have := hp.out; omega) hgz)
      clear hd hgz hzr
      go_wp2_with fail
      go_roundw
      case rel => exact ⟨k + 1, cs.set k z, by omega, by go_num, by show _ = _; rw [List.length_set]; exact hcl.out, T3.out, Q3.out, G3.out⟩
      case measure => simp [intOf]; omega
    · have hvr := V2.out.grown hg2.out (by omega)
      have hrr := R2.out.grown hg2.out (by omega)
      obtain ⟨a0, a1, a2, a3, a4, a5⟩ := six_cells (show Blk wr w.heap.size 89 #[_, _, _, _, _, _] from hvr)
      have d0 := hrr.cell 0
      have d1 := hrr.cell 1
      have f0 := hrr.frozen 0
      have f1 := hrr.frozen 1
      simp at d0 d1
      have HRR := Lib.hid ((hrr.set_ 0 (.int .i64 n)).set_ 1 (.slice (some ⟨w.heap.size + 1 + 1, 0, none⟩) p p))
      have GR := Lib.hid (grow_trans (grow_set wr (w.heap.size + 1) 0 (.int .i64 n)) (grow_set _ (w.heap.size + 1) 1 (.slice (some ⟨w.heap.size + 1 + 1, 0, none⟩) p p)))
      have HZS : Hid (cs = zs) := by
        have h1 := htk.out
        have h2 := hcl.out
        have h3 := hp.out
        show _ = _
        rwa [List.take_of_length_le (by omega), List.take_of_length_le (by omega)] at h1
      clear hrr hvr
      go_wp2_with fail
      refine bodyPost_ret (results_1 rfl (gives_mat (g := w.heap.size + 1) rfl HRR.out)) rfl ?_
      refine ⟨_, rfl, ⟨_, rfl, ?_, by have := hp.out; omega⟩, ?_⟩
      · have h := Nm.own (base := w.heap.size) (show Nm _ _ _ _ from Blk.grown hsq.out GR.out (by omega)) (by omega) (by have := hcl.out; omega)
        rw [hcl.out, HZS.out] at h
        rw [← hp.out]
        exact h
      · exact (B2.out.grown hg2.out B2.out.size (fun j hj => by cases hj; omega)).grown GR.out (by have := hg2.out.size; have := B2.out.size; omega) (fun j hj => by cases hj; omega)
theorem gunitL_at {n q : Nat} (hq : q < n * n) : (gunitL n).getD q 0 = if q / n = q % n then 0 else 3 := by
  unfold gunitL; rw [ofF_getD _ hq]; rfl
/-- What a row becomes behind a square. -/
def gbehindL (n : Nat) (F : Nat → Int) (zs : List Int) : List Int := (List.range n).map fun k => gdot F (fun l => zs.getD (l * n + k) 0) n
theorem gbehindL_len (n : Nat) (F : Nat → Int) (zs : List Int) : (gbehindL n F zs).length = n := by simp [gbehindL]
theorem gbehindL_at {n k : Nat} (F : Nat → Int) (zs : List Int) (hk : k < n) : (gbehindL n F zs).getD k 0 = gdot F (fun l => zs.getD (l * n + k) 0) n := by
  unfold gbehindL
  rw [List.getD_eq_getElem?_getD, List.getElem?_map, List.getElem?_range hk]
  rfl
theorem greater_is (a b v : Int) (w : World) (hv : max a b = v) :
    Calls Tryz.prog 89 #[.int .i64 a, .int .i64 b] w fun e w' => e = .returned (.int .i64 v) ∧ w = w' := by
  go_enter Tryz.func89, Tryz.ntmps89
  go_wp2
  all_goals
    go_ret
    exact ⟨ret_int (by omega), rfl⟩
theorem lesser_is (a b v : Int) (w : World) (hv : min a b = v) :
    Calls Tryz.prog 45 #[.int .i64 a, .int .i64 b] w fun e w' => e = .returned (.int .i64 v) ∧ w = w' := by
  go_enter Tryz.func45, Tryz.ntmps45
  go_wp2
  all_goals
    go_ret
    exact ⟨ret_int (by omega), rfl⟩
theorem g_behind_any (n p g h off hc : Nat) (F : Nat → Int) (zs : List Int) (w : World) (n1 : 1 ≤ n) (n2 : n ≤ 4) (hp : Hid (p = n * n)) (hz : Hid (zs.length = p)) (p1 : p ≤ 16) (hq : GSq w g zs)
    (hF : Hid (∀ l, l < n → 0 ≤ F l ∧ F l ≤ 3)) (hG : Hid (∀ q, q < p → 0 ≤ zs.getD q 0 ∧ zs.getD q 0 ≤ 3)) (hh : h < w.heap.size) (hrow : Hid (∀ l, l < n → w.cell? ⟨h, off + l, none⟩ = some (.int .i64 (F l)))) :
    Calls Tryz.prog 71 #[gsqV n (.slice (some ⟨g, 0, none⟩) p p), .slice (some ⟨h, off, none⟩) n hc] w fun e w' => ∃ g', e = .returned (.slice (some ⟨g', 0, none⟩) n n) ∧ Below w.heap.size w w' ∧ w.heap.size ≤ g' ∧ GSq w' g' (gbehindL n F zs) := by
  have hmk : ∀ w : World, (Instr.makeSlice 87 (.int .i64 (n : Int)) (.int .i64 (n : Int))).run Tryz.prog w = .ok (.slice (some ⟨w.heap.size, 0, none⟩) n n) (w.alloc (.cells (madeCells #[.int .i64 0] n) 76)) :=
    fun w => run_make_row' 87 76 (.int .i64 0) 8 Tryz.underlying87 info_grade rfl .i64 .i64 n (by omega) (by omega) w
  unfold gsqV
  go_enter Tryz.func71, Tryz.ntmps71
  go_wp2_with fail
  obtain ⟨R, hR⟩ : ∃ R, R = w.heap.size + 1 := ⟨_, rfl⟩
  obtain ⟨w2, hw2⟩ : ∃ w2, w2 = (w.alloc (.cells (gsqC n (.slice (some ⟨g, 0, none⟩) p p)) 89)).alloc (.cells (madeCells #[.int .i64 0] n) 76) := ⟨_, rfl⟩
  have S2 : Hid (Blk w2 w.heap.size 89 (gsqC n (.slice (some ⟨g, 0, none⟩) p p))) := by rw [hw2]; exact (Blk.new _ _ _).alloc _
  have Q2 : Hid (GSq w2 R (List.replicate n 0)) := by
    rw [hw2, hR]
    show Blk _ _ _ _
    rw [← made_zero]
    exact blk_new (by simp)
  have Z2 : Hid (GSq w2 g zs) := by rw [hw2]; exact Blk.alloc (Blk.alloc hq _) _
  have B2 : Hid (Below w.heap.size w w2) := by rw [hw2]; exact below_a2 _ _ _
  have hgR : g < R := by have := Blk.lt hq; omega
  have hR1 : w.heap.size < R := by omega
  have hhR : ¬ h = R := by omega
  unfold gsqC at hw2
  rw [← hw2, ← hR]
  have hRr : w.heap.size ≤ R := by omega
  clear hw2 hR hmk hq
  have HL : Hid ((gbehindL n F zs).length = n) := gbehindL_len n F zs
  go_loopg [14] n (fun gh i wr => ∃ (k : Nat) (cs : List Int), k ≤ n ∧ gh = n - k ∧ i = .int .i64 k ∧ Hid (cs.length = n) ∧ Hid (∀ q, q < k → cs.getD q 0 = gdot F (fun l => zs.getD (l * n + q) 0) n) ∧ Hid (GSq wr R cs) ∧ Hid (w2.grownBy wr (some R)))
  case atStart => exact ⟨0, List.replicate n 0, Nat.zero_le _, rfl, rfl, List.length_replicate, (fun q hq => by omega), Q2, World.grownBy.refl _ _⟩
  case round =>
    obtain ⟨k, cs, hk, rfl, rfl, hcl, hpre, hsq, hg2⟩ := hrel
    by_cases hlt : k < n
    · have e3 := (S2.out.grown hg2.out (by omega)).cell 3
      simp [gsqC] at e3
      have hcell := hsq.out.at_ (k := k) (by have := hcl.out; omega)
      have hfr := hsq.out.fz k
      have Q3 := Lib.hid (hsq.out.set_ k 3)
      have G3 := Lib.hid (grow_trans hg2.out (grow_set wr R k (.int .i64 3)))
      obtain ⟨G, hGe⟩ : ∃ G : Nat → Int, G = fun l => zs.getD (l * n + k) 0 := ⟨_, rfl⟩
      have HGe := Lib.hid hGe
      have D1 : Hid (∀ q, q < k → (cs.set k 3).getD q 0 = gdot F (fun l => zs.getD (l * n + q) 0) n) := fun q hq => by rw [getD_set _ _ _ _ (by have := hcl.out; omega), if_neg (by omega)]; exact hpre.out q hq
      have D2 : Hid ((cs.set k 3).getD k 0 = gdot F G 0) := by show _ = _; rw [getD_set _ _ _ _ (by have := hcl.out; omega), if_pos rfl]; rfl
      have i0 : (0 : Int) ≤ (k : Int) := by omega
      have i1 : (k : Int) < (n : Int) := by omega
      clear hGe
      go_wp2_with fail
      clear hcell hfr e3
      go_loopg [25] n (fun gi i wi => ∃ (l : Nat) (ds : List Int), l ≤ n ∧ gi = n - l ∧ i = .int .i64 l ∧ Hid (ds.length = n) ∧ Hid (∀ q, q < k → ds.getD q 0 = gdot F (fun l => zs.getD (l * n + q) 0) n) ∧ Hid (ds.getD k 0 = gdot F G l) ∧ Hid (GSq wi R ds) ∧ Hid (w2.grownBy wi (some R)))
      case atStart => exact ⟨0, cs.set k 3, Nat.zero_le _, rfl, rfl, by show _ = _; rw [List.length_set]; exact hcl.out, D1, D2, Q3, G3⟩
      case round =>
        obtain ⟨l, ds, hl, rfl, rfl, hdl, hd1, hd2, hsq2, hg3⟩ := hrel
        by_cases hll : l < n
        · obtain ⟨y, hy⟩ : ∃ y, y = l * n := ⟨_, rfl⟩
          have hyn : y + n ≤ p := by
            have : (l + 1) * n ≤ n * n := Nat.mul_le_mul_right n hll
            rw [Nat.succ_mul] at this
            rw [hy, hp.out]; exact this
          have HY := Lib.hid hy
          obtain ⟨c0, hc0⟩ : ∃ c0, c0 = ds.getD k 0 := ⟨_, rfl⟩
          obtain ⟨z, hze⟩ : ∃ z, z = zs.getD (y + k) 0 := ⟨_, rfl⟩
          obtain ⟨u, hu⟩ : ∃ u, u = F l := ⟨_, rfl⟩
          have hub := hF.out l hll
          rw [← hu] at hub
          have hzb := hG.out (y + k) (by omega)
          rw [← hze] at hzb
          obtain ⟨t, ht⟩ : ∃ t, max u z = t := ⟨_, rfl⟩
          obtain ⟨c1, hc1⟩ : ∃ c1, min c0 t = c1 := ⟨_, rfl⟩
          have HT := Lib.hid ht
          have HC := Lib.hid hc1
          have HD : Hid (c1 = gdot F G (l + 1)) := by
            have f2 : G l = z := by rw [HGe.out]; show zs.getD (l * n + k) 0 = z; rw [← hy]; exact hze.symm
            show _ = min (gdot F G l) (max (F l) (G l))
            rw [← hd2.out, ← hc0, ← hu, f2, ht, hc1]
          have hB3 := B2.out.grown hg3.out B2.out.size (fun j hj => by cases hj; omega)
          have hrc : wr.cell? ⟨h, off + l, none⟩ = some (.int .i64 u) := by rw [hu]; exact (hB3.cell (p := ⟨h, off + l, none⟩) hh).trans (hrow.out l hll)
          have keep : ∀ w', w2.grownBy w' (some R) → w'.heap[R]? = wr.heap[R]? → (Hid (w2.grownBy w' (some R) ∧ w'.heap[R]? = wr.heap[R]?) ∧ w'.cell? ⟨w.heap.size, 0, none⟩ = some (.func (.func 89) #[] #[]) ∧ w'.cell? ⟨w.heap.size, 1, none⟩ = some (.int .i64 0) ∧ w'.cell? ⟨w.heap.size, 2, none⟩ = some (.func (.func 45) #[] #[]) ∧ w'.cell? ⟨w.heap.size, 3, none⟩ = some (.int .i64 3) ∧ w'.cell? ⟨w.heap.size, 4, none⟩ = some (.int .i64 n) ∧ w'.cell? ⟨w.heap.size, 5, none⟩ = some (.slice (some ⟨g, 0, none⟩) p p) ∧ w'.cell? ⟨R, k, none⟩ = some (.int .i64 c0) ∧ w'.cell? ⟨g, y + k, none⟩ = some (.int .i64 z)) := by
            intro w' h' hR'
            obtain ⟨a0, a1, a2, a3, a4, a5⟩ := six_cells (show Blk w' w.heap.size 89 #[_, _, _, _, _, _] from S2.out.grown h' (by omega))
            have hq2 : GSq w' R ds := hR'.trans hsq2.out
            exact ⟨⟨h', hR'⟩, a0, a1, a2, a3, a4, a5, by rw [hc0]; exact hq2.at_ (by have := hdl.out; omega), by rw [hze]; exact Nm.at_ (Blk.grown Z2.out h' (by omega)) (by have := hz.out; omega)⟩
          have K := Lib.hid keep
          have hRw : R < wr.heap.size := Blk.lt hsq2.out
          have KB : Hid (∀ w', w2.grownBy w' (some R) ∧ w'.heap[R]? = wr.heap[R]? → ∀ w'', Below w'.heap.size w' w'' → R < w'.heap.size → (Hid (w2.grownBy w'' (some R) ∧ w''.heap[R]? = wr.heap[R]?) ∧ w''.cell? ⟨w.heap.size, 0, none⟩ = some (.func (.func 89) #[] #[]) ∧ w''.cell? ⟨w.heap.size, 1, none⟩ = some (.int .i64 0) ∧ w''.cell? ⟨w.heap.size, 2, none⟩ = some (.func (.func 45) #[] #[]) ∧ w''.cell? ⟨w.heap.size, 3, none⟩ = some (.int .i64 3) ∧ w''.cell? ⟨w.heap.size, 4, none⟩ = some (.int .i64 n) ∧ w''.cell? ⟨w.heap.size, 5, none⟩ = some (.slice (some ⟨g, 0, none⟩) p p) ∧ w''.cell? ⟨R, k, none⟩ = some (.int .i64 c0) ∧ w''.cell? ⟨g, y + k, none⟩ = some (.int .i64 z))) := fun w' h' w'' hb hRs => keep _ (grow_trans h'.1 (grow_below_any hb (some R))) ((hb.block R hRs).trans h'.2)
          have hS0 := K.out wr.drew (grow_trans hg3.out (grow_drew _ _)) rfl
          have i2 : (0 : Int) ≤ (l : Int) := by omega
          have i3 : (l : Int) < (n : Int) := by omega
          clear keep hc0 hze hu ht hc1 hB3 hy
          go_wp2_with fail
          clear hrc
          refine wp_region_Z (S := fun w' => (Hid (w2.grownBy w' (some R) ∧ w'.heap[R]? = wr.heap[R]?) ∧ w'.cell? ⟨w.heap.size, 0, none⟩ = some (.func (.func 89) #[] #[]) ∧ w'.cell? ⟨w.heap.size, 1, none⟩ = some (.int .i64 0) ∧ w'.cell? ⟨w.heap.size, 2, none⟩ = some (.func (.func 45) #[] #[]) ∧ w'.cell? ⟨w.heap.size, 3, none⟩ = some (.int .i64 3) ∧ w'.cell? ⟨w.heap.size, 4, none⟩ = some (.int .i64 n) ∧ w'.cell? ⟨w.heap.size, 5, none⟩ = some (.slice (some ⟨g, 0, none⟩) p p) ∧ w'.cell? ⟨R, k, none⟩ = some (.int .i64 c0) ∧ w'.cell? ⟨g, y + k, none⟩ = some (.int .i64 z))) (by kernel_rfl) hS0 (fun hS => ?_)
          clear hS0
          refine wpAnyZ_take (i := 0) (v := ?vb0) rfl (by kernel_rfl) (by kernel_rfl) (by kernel_rfl) (by kernel_rfl) (fun _ _ _ h => h) (Or.inl ⟨by rfl, ?yb0⟩) (by with_reducible assumption) ?rb0
          case yb0 => (intro w hSw; (try dsimp only at hSw); go_simp; (try with_reducible rfl))
          simp only [Act.put, List.setIfInBounds_toArray]
          refine wpAnyZ_take (i := 1) (v := ?vb1) rfl (by kernel_rfl) (by kernel_rfl) (by kernel_rfl) (by kernel_rfl) (fun _ _ _ h => h) (Or.inl ⟨by rfl, ?yb1⟩) (by with_reducible assumption) ?rb1
          case yb1 => (intro w hSw; (try dsimp only at hSw); go_simp; (try with_reducible rfl))
          simp only [Act.put]
          refine wpAnyZ_take (i := 2) (v := ?vb2) rfl (by kernel_rfl) (by kernel_rfl) (by kernel_rfl) (by kernel_rfl) (fun _ _ _ h => h) (Or.inl ⟨by rfl, ?yb2⟩) (by with_reducible assumption) ?rb2
          case yb2 => (intro w hSw; (try dsimp only at hSw); go_simp; (try with_reducible rfl))
          simp only [Act.put]
          refine wpAnyZ_take (i := 3) (v := ?vb3) rfl (by kernel_rfl) (by kernel_rfl) (by kernel_rfl) (by kernel_rfl) (fun _ _ _ h => h) (Or.inl ⟨by rfl, ?yb3⟩) (by with_reducible assumption) ?rb3
          case yb3 => (intro w hSw; (try dsimp only at hSw); go_simp; (try with_reducible rfl))
          simp only [Act.put]
          refine wpAnyZ_take (i := 4) (v := ?vb4) rfl (by kernel_rfl) (by kernel_rfl) (by kernel_rfl) (by kernel_rfl) (fun _ _ _ h => h) (Or.inl ⟨by rfl, ?yb4⟩) (by with_reducible assumption) ?rb4
          case yb4 => (intro w hSw; (try dsimp only at hSw); go_simp; (try with_reducible rfl))
          simp only [Act.put]
          refine wpAnyZ_take (i := 5) (v := ?vb5) rfl (by kernel_rfl) (by kernel_rfl) (by kernel_rfl) (by kernel_rfl) (fun _ _ _ h => h) (Or.inl ⟨by rfl, ?yb5⟩) (by with_reducible assumption) ?rb5
          case yb5 => (intro w hSw; (try dsimp only at hSw); go_simp; (try with_reducible rfl))
          simp only [Act.put]
          refine wpAnyZ_take (i := 6) (v := ?vb6) rfl (by kernel_rfl) (by kernel_rfl) (by kernel_rfl) (by kernel_rfl) (fun _ _ _ h => h) (Or.inl ⟨by rfl, ?yb6⟩) (by with_reducible assumption) ?rb6
          case yb6 => (intro w hSw; (try dsimp only at hSw); go_simp; (try with_reducible rfl))
          simp only [Act.put]
          refine wpAnyZ_take (i := 7) (v := ?vb7) rfl (by kernel_rfl) (by kernel_rfl) (by kernel_rfl) (by kernel_rfl) (fun _ _ _ h => h) (Or.inl ⟨by rfl, ?yb7⟩) (by with_reducible assumption) ?rb7
          case yb7 => (intro w hSw; (try dsimp only at hSw); go_simp; (try with_reducible rfl))
          simp only [Act.put]
          refine wpAnyZ_take (i := 8) (v := ?vb8) rfl (by kernel_rfl) (by kernel_rfl) (by kernel_rfl) (by kernel_rfl) (fun _ _ _ h => h) (Or.inl ⟨by rfl, ?yb8⟩) (by with_reducible assumption) ?rb8
          case yb8 => (intro w hSw; (try dsimp only at hSw); go_simp; (try with_reducible rfl))
          simp only [Act.put]
          refine wpAnyZ_take (i := 9) (v := ?vb9) rfl (by kernel_rfl) (by kernel_rfl) (by kernel_rfl) (by kernel_rfl) (fun _ _ _ h => h) (Or.inl ⟨by rfl, ?yb9⟩) (by with_reducible assumption) ?rb9
          case yb9 => (intro w hSw; (try dsimp only at hSw); go_simp; (try with_reducible rfl))
          simp only [Act.put]
          refine wpAnyZ_take (i := 10) (v := ?vb10) rfl (by kernel_rfl) (by kernel_rfl) (by kernel_rfl) (by kernel_rfl) (fun _ _ _ h => h) (Or.inl ⟨by rfl, ?yb10⟩) (by with_reducible assumption) ?rb10
          case yb10 => (intro w hSw; (try dsimp only at hSw); go_simp; (try with_reducible rfl))
          simp only [Act.put]
          refine wpAnyZ_take (i := 11) (v := ?vb11) rfl (by kernel_rfl) (by kernel_rfl) (by kernel_rfl) (by kernel_rfl) (fun _ _ _ h => h) (Or.inl ⟨by rfl, ?yb11⟩) (by with_reducible assumption) ?rb11
          case yb11 => (intro w hSw; (try dsimp only at hSw); go_simp; (try with_reducible rfl))
          simp only [Act.put]
          refine wpAnyZ_take (i := 12) (v := ?vb12) rfl (by kernel_rfl) (by kernel_rfl) (by kernel_rfl) (by kernel_rfl) (fun _ _ _ h => h) (Or.inl ⟨by rfl, ?yb12⟩) (by with_reducible assumption) ?rb12
          case yb12 => (intro w hSw; (try dsimp only at hSw); go_simp; (try with_reducible rfl))
          simp only [Act.put]
          refine wpAnyZ_take (i := 13) (v := ?vb13) rfl (by kernel_rfl) (by kernel_rfl) (by kernel_rfl) (by kernel_rfl) (fun _ _ _ h => h) (Or.inl ⟨by rfl, ?yb13⟩) (by with_reducible assumption) ?rb13
          case yb13 => (intro w hSw; (try dsimp only at hSw); go_simp; (try with_reducible rfl))
          simp only [Act.put]
          refine wpAnyZ_take (i := 14) (v := ?vb14) rfl (by kernel_rfl) (by kernel_rfl) (by kernel_rfl) (by kernel_rfl) (fun _ _ _ h => h) (Or.inl ⟨by rfl, ?yb14⟩) (by with_reducible assumption) ?rb14
          case yb14 => (intro w hSw; (try dsimp only at hSw); go_simp; (try with_reducible rfl))
          simp only [Act.put]
          refine wpAnyZ_take (i := 16) (v := ?vb16) rfl (by kernel_rfl) (by kernel_rfl) (by kernel_rfl) (by kernel_rfl) (fun _ _ _ h => h) (Or.inl ⟨by rfl, ?yb16⟩) (by with_reducible assumption) ?rb16
          case yb16 => (intro w hSw; (try dsimp only at hSw); go_simp; (try with_reducible rfl))
          simp only [Act.put]
          refine wpAnyZ_step (i := 15) (by kernel_rfl) rfl ?_
          intro K1 hK1
          go_simp
          refine (g_row_is g n p l y n1 n2 hll HY.out hyn _).mono ?_
          rintro e w3 ⟨rfl, hb3⟩
          have hS3 := KB.out _ hS.1.out _ hb3 hRw
          refine hK1.out _ _ hS3 (fun hS1 => ?_)
          clear hK1 hS hS3
          have j2 : (0 : Int) ≤ (k : Int) := by omega
          (try simp only [Act.put])
          refine wpAnyZ_take (i := 17) (v := ?vc17) rfl (by kernel_rfl) (by kernel_rfl) (by kernel_rfl) (by kernel_rfl) (fun _ _ _ h => h) (Or.inl ⟨by rfl, ?yc17⟩) (by with_reducible assumption) ?rc17
          case yc17 => (intro w hSw; (try dsimp only at hSw); go_simp; (try with_reducible rfl))
          simp only [Act.put]
          refine wpAnyZ_take (i := 18) (v := ?vc18) rfl (by kernel_rfl) (by kernel_rfl) (by kernel_rfl) (by kernel_rfl) (fun _ _ _ h => h) (Or.inl ⟨by rfl, ?yc18⟩) (by with_reducible assumption) ?rc18
          case yc18 => (intro w hSw; (try dsimp only at hSw); go_simp; (try with_reducible rfl))
          simp only [Act.put]
          refine wpAnyZ_step (i := 19) (by kernel_rfl) rfl ?_
          intro K2 hK2
          go_simp
          refine (greater_is u z t _ HT.out).mono ?_
          rintro e w4 ⟨rfl, rfl⟩
          refine hK2.out _ _ hS1 (fun hS2 => ?_)
          clear hK2 hS1
          (try simp only [Act.put])
          refine wpAnyZ_step (i := 20) (by kernel_rfl) rfl ?_
          intro K3 hK3
          go_simp
          refine (lesser_is c0 t c1 _ HC.out).mono ?_
          rintro e w4 ⟨rfl, rfl⟩
          refine hK3.out _ _ hS2 (fun hS3 => ?_)
          clear hK3 hS2
          have hsq3 : GSq w3 R ds := hS3.1.out.2.trans hsq2.out
          have hfr := hsq3.fz k
          have Q4 := Lib.hid (hsq3.set_ k c1)
          have G4 := Lib.hid (grow_trans hS3.1.out.1 (grow_set w3 R k (.int .i64 c1)))
          have E1 : Hid (∀ q, q < k → (ds.set k c1).getD q 0 = gdot F (fun l => zs.getD (l * n + q) 0) n) := fun q hq => by rw [getD_set _ _ _ _ (by have := hdl.out; omega), if_neg (by omega)]; exact hd1.out q hq
          have E2 : Hid ((ds.set k c1).getD k 0 = gdot F G (l + 1)) := by show _ = _; rw [getD_set _ _ _ _ (by have := hdl.out; omega), if_pos rfl]; exact HD.out
          have hcl3 : Hid (w3.cell? ⟨R, k, none⟩ = some (.int .i64 c0)) := hS3.2.2.2.2.2.2.2.1
          (try simp only [Act.put])
          refine wpAnyZ_take (i := 21) (v := ?vd21) rfl (by kernel_rfl) (by kernel_rfl) (by kernel_rfl) (by kernel_rfl) (fun _ _ _ h => h) (Or.inl ⟨by rfl, ?yd21⟩) (by with_reducible assumption) ?rd21
          case yd21 => (intro w hSw; (try dsimp only at hSw); go_simp; (try with_reducible rfl))
          simp only [Act.put]
          have hcell := hcl3.out
          clear hsq3
          refine wpAnyZ_last (i := 22) (by kernel_rfl) rfl (by kernel_rfl) ?_
          intro K4 hK4
          go_simp
          refine hK4.out _ _ ?_
          clear hK4 hS3 hcell hfr
          go_wp2_with fail
          go_roundg (n - (l + 1))
          case rel => exact ⟨l + 1, ds.set k c1, by omega, rfl, by go_num, by show _ = _; rw [List.length_set]; exact hdl.out, E1, E2, Q4, G4⟩
          case measure => omega
        · obtain rfl : n = l := by omega
          have D3 : Hid (∀ q, q < k + 1 → ds.getD q 0 = gdot F (fun l => zs.getD (l * n + q) 0) n) := fun q hq => by
            by_cases e : q = k
            · subst e
              rw [hd2.out, HGe.out]
            · exact hd1.out q (by omega)
          go_wp2_with fail
          go_roundg (n - (k + 1))
          case rel => exact ⟨k + 1, ds, by omega, rfl, by go_num, hdl, D3, hsq2, hg3⟩
          case measure => omega
    · obtain rfl : n = k := by omega
      have HZS : Hid (cs = gbehindL n F zs) := eq_of_getD (by rw [hcl.out, HL.out]) (fun q hq => by
        have hq' : q < n := by rw [← hcl.out]; exact hq
        rw [hpre.out q hq', gbehindL_at F zs hq'])
      go_wp2_with fail
      go_ret
      refine ⟨R, rfl, ?_, hRr, ?_⟩
      · exact B2.out.grown hg2.out B2.out.size (fun j hj => by cases hj; omega)
      · rw [← HZS.out]; exact hsq.out
theorem gmulL_row (n : Nat) (zs ys : List Int) {i k : Nat} (hi : i < n) (hk : k < n) : (gmulL n zs ys).getD (i * n + k) 0 = gdot (fun l => zs.getD (i * n + l) 0) (fun l => ys.getD (l * n + k) 0) n := by
  unfold gmulL
  rw [ofF_getD _ (at_lt hi hk)]
  show gdot (fun l => zs.getD ((i * n + k) / n * n + l) 0) (fun l => ys.getD (l * n + (i * n + k) % n) 0) n = _
  rw [at_div hk, at_mod hk]
theorem g_times_any (n p g h : Nat) (zs ys : List Int) (w : World) (n1 : 1 ≤ n) (n2 : n ≤ 4) (hp : Hid (p = n * n)) (hz : Hid (zs.length = p)) (hy : Hid (ys.length = p)) (p1 : p ≤ 16)
    (hzb : Hid (∀ q, q < p → 0 ≤ zs.getD q 0 ∧ zs.getD q 0 ≤ 3)) (hyb : Hid (∀ q, q < p → 0 ≤ ys.getD q 0 ∧ ys.getD q 0 ≤ 3)) (hq : GSq w g zs) (hr : GSq w h ys) :
    Calls Tryz.prog 42 #[gsqV n (.slice (some ⟨g, 0, none⟩) p p), gsqV n (.slice (some ⟨h, 0, none⟩) p p)] w fun e w' => ∃ g', e = .returned (gsqV n (.slice (some ⟨g', 0, none⟩) p p)) ∧ Below w.heap.size w w' ∧ w.heap.size ≤ g' ∧ GSq w' g' (gmulL n zs ys) := by
  unfold gsqV
  go_enter Tryz.func42, Tryz.ntmps42
  go_wp2_with fail
  refine (g_newSquare_any n p _ n1 n2 hp.out).mono ?_
  rintro e w1 ⟨g', rfl, hb1, hg1, hsq⟩
  unfold gsqV
  have sA : Blk w1 w.heap.size 89 (gsqC n (.slice (some ⟨g, 0, none⟩) p p)) := (((Blk.new w _ _).alloc _).alloc _).below hb1 (by simp; omega)
  have tA : Blk w1 (w.heap.size + 1) 89 (gsqC n (.slice (some ⟨h, 0, none⟩) p p)) := ((blk_new (by simp)).alloc _).below hb1 (by simp)
  have rA : Blk w1 (w.heap.size + 1 + 1) 89 #[.nilFunc, .int .i64 0, .nilFunc, .int .i64 0, .int .i64 0, .slice none 0 0] := (blk_new (by simp)).below hb1 (by simp)
  have hgr : w.heap.size + 1 + 1 < g' := by simp at hg1; omega
  have hb0 := below_on (below_a3 w _ _ _) hb1
  have hgw := Blk.lt hq
  have hhw := Blk.lt hr
  have qA := hq.below hb0
  have uA := hr.below hb0
  have hc4 : ∀ o, (w1.alloc o).cell? ⟨w.heap.size, 4, none⟩ = some (.int .i64 n) := fun o => (sA.alloc o).cell 4
  clear hb1 hg1
  go_wp2_with fail
  obtain ⟨w2, hw2⟩ : ∃ w2, w2 = w1.alloc (.cells (gsqC n (.slice (some ⟨g', 0, none⟩) p p)) 89) := ⟨_, rfl⟩
  have v2 : Blk w2 w1.heap.size 89 (gsqC n (.slice (some ⟨g', 0, none⟩) p p)) := by rw [hw2]; exact Blk.new _ _ _
  have r2 : Blk w2 (w.heap.size + 1 + 1) 89 #[.nilFunc, .int .i64 0, .nilFunc, .int .i64 0, .int .i64 0, .slice none 0 0] := by rw [hw2]; exact rA.alloc _
  have s2 : Blk w2 w.heap.size 89 (gsqC n (.slice (some ⟨g, 0, none⟩) p p)) := by rw [hw2]; exact sA.alloc _
  have t2 : Blk w2 (w.heap.size + 1) 89 (gsqC n (.slice (some ⟨h, 0, none⟩) p p)) := by rw [hw2]; exact tA.alloc _
  have q2 : GSq w2 g' (List.replicate p 0) := by rw [hw2]; exact Blk.alloc hsq _
  have z2 : GSq w2 g zs := by rw [hw2]; exact Blk.alloc qA _
  have y2 : GSq w2 h ys := by rw [hw2]; exact Blk.alloc uA _
  have b2 : Below w.heap.size w w2 := by rw [hw2]; exact hb0.alloc hb0.size _
  have hgs : ¬ w1.heap.size = g' := by have := Blk.lt hsq; omega
  unfold gsqC at hw2
  rw [← hw2]
  obtain ⟨S, hS⟩ : ∃ S, S = w1.heap.size := ⟨_, rfl⟩
  rw [← hS] at v2 hgs
  rw [← hS]
  have V2 := Lib.hid v2
  have R2 := Lib.hid r2
  have S2 := Lib.hid s2
  have T2 := Lib.hid t2
  have Q2 := Lib.hid q2
  have Z2 := Lib.hid z2
  have Y2 := Lib.hid y2
  have B2 := Lib.hid b2
  have hw1 := b2.size
  have HL : Hid ((gmulL n zs ys).length = p) := by show _ = _; unfold gmulL; rw [ofF_len, hp.out]
  clear hw2 hS v2 r2 s2 t2 q2 z2 y2 b2 sA tA rA hsq hb0 qA uA hq hr hc4
  go_loopg [14] n (fun gh i wr => ∃ (r : Nat) (cs : List Int), r ≤ n ∧ gh = n - r ∧ i = .int .i64 r ∧ Hid (cs.length = p) ∧ Hid (∀ q, q < r * n → cs.getD q 0 = (gmulL n zs ys).getD q 0) ∧ Hid (GSq wr g' cs) ∧ Hid (w2.grownBy wr (some g')))
  case atStart => exact ⟨0, List.replicate p 0, Nat.zero_le _, rfl, rfl, List.length_replicate, (fun q hq => by rw [Nat.zero_mul] at hq; omega), Q2, World.grownBy.refl _ _⟩
  case round =>
    obtain ⟨r, cs, hr, rfl, rfl, hcl, hpre, hsq, hg2⟩ := hrel
    by_cases hlt : r < n
    · obtain ⟨P, hP⟩ : ∃ P, P = r * n := ⟨_, rfl⟩
      have hPn : P + n ≤ p := by
        have : (r + 1) * n ≤ n * n := Nat.mul_le_mul_right n hlt
        rw [Nat.succ_mul] at this
        rw [hP, hp.out]; exact this
      have HP := Lib.hid hP
      have keep : ∀ w', w2.grownBy w' (some g') → w'.heap[g']? = wr.heap[g']? → (Hid (w2.grownBy w' (some g') ∧ w'.heap[g']? = wr.heap[g']?) ∧ w'.cell? ⟨S, 0, none⟩ = some (.func (.func 89) #[] #[]) ∧ w'.cell? ⟨S, 1, none⟩ = some (.int .i64 0) ∧ w'.cell? ⟨S, 2, none⟩ = some (.func (.func 45) #[] #[]) ∧ w'.cell? ⟨S, 3, none⟩ = some (.int .i64 3) ∧ w'.cell? ⟨S, 4, none⟩ = some (.int .i64 n) ∧ w'.cell? ⟨S, 5, none⟩ = some (.slice (some ⟨g', 0, none⟩) p p) ∧ w'.cell? ⟨w.heap.size, 0, none⟩ = some (.func (.func 89) #[] #[]) ∧ w'.cell? ⟨w.heap.size, 1, none⟩ = some (.int .i64 0) ∧ w'.cell? ⟨w.heap.size, 2, none⟩ = some (.func (.func 45) #[] #[]) ∧ w'.cell? ⟨w.heap.size, 3, none⟩ = some (.int .i64 3) ∧ w'.cell? ⟨w.heap.size, 4, none⟩ = some (.int .i64 n) ∧ w'.cell? ⟨w.heap.size, 5, none⟩ = some (.slice (some ⟨g, 0, none⟩) p p) ∧ w'.cell? ⟨(w.heap.size + 1), 0, none⟩ = some (.func (.func 89) #[] #[]) ∧ w'.cell? ⟨(w.heap.size + 1), 1, none⟩ = some (.int .i64 0) ∧ w'.cell? ⟨(w.heap.size + 1), 2, none⟩ = some (.func (.func 45) #[] #[]) ∧ w'.cell? ⟨(w.heap.size + 1), 3, none⟩ = some (.int .i64 3) ∧ w'.cell? ⟨(w.heap.size + 1), 4, none⟩ = some (.int .i64 n) ∧ w'.cell? ⟨(w.heap.size + 1), 5, none⟩ = some (.slice (some ⟨h, 0, none⟩) p p)) := fun w' h' hR' =>
        ⟨⟨h', hR'⟩, six_cells (show Blk w' S 89 #[_, _, _, _, _, _] from V2.out.grown h' hgs) |>.1, (six_cells (show Blk w' S 89 #[_, _, _, _, _, _] from V2.out.grown h' hgs)).2.1, (six_cells (show Blk w' S 89 #[_, _, _, _, _, _] from V2.out.grown h' hgs)).2.2.1, (six_cells (show Blk w' S 89 #[_, _, _, _, _, _] from V2.out.grown h' hgs)).2.2.2.1, (six_cells (show Blk w' S 89 #[_, _, _, _, _, _] from V2.out.grown h' hgs)).2.2.2.2.1, (six_cells (show Blk w' S 89 #[_, _, _, _, _, _] from V2.out.grown h' hgs)).2.2.2.2.2,
          (six_cells (show Blk w' w.heap.size 89 #[_, _, _, _, _, _] from S2.out.grown h' (by omega))).1, (six_cells (show Blk w' w.heap.size 89 #[_, _, _, _, _, _] from S2.out.grown h' (by omega))).2.1, (six_cells (show Blk w' w.heap.size 89 #[_, _, _, _, _, _] from S2.out.grown h' (by omega))).2.2.1, (six_cells (show Blk w' w.heap.size 89 #[_, _, _, _, _, _] from S2.out.grown h' (by omega))).2.2.2.1, (six_cells (show Blk w' w.heap.size 89 #[_, _, _, _, _, _] from S2.out.grown h' (by omega))).2.2.2.2.1, (six_cells (show Blk w' w.heap.size 89 #[_, _, _, _, _, _] from S2.out.grown h' (by omega))).2.2.2.2.2,
          six_cells (show Blk w' (w.heap.size + 1) 89 #[_, _, _, _, _, _] from T2.out.grown h' (by omega))⟩
      have K := Lib.hid keep
      have hRw : g' < wr.heap.size := Blk.lt hsq.out
      have KB : Hid (∀ w', w2.grownBy w' (some g') ∧ w'.heap[g']? = wr.heap[g']? → ∀ w'', Below w'.heap.size w' w'' → g' < w'.heap.size → (Hid (w2.grownBy w'' (some g') ∧ w''.heap[g']? = wr.heap[g']?) ∧ w''.cell? ⟨S, 0, none⟩ = some (.func (.func 89) #[] #[]) ∧ w''.cell? ⟨S, 1, none⟩ = some (.int .i64 0) ∧ w''.cell? ⟨S, 2, none⟩ = some (.func (.func 45) #[] #[]) ∧ w''.cell? ⟨S, 3, none⟩ = some (.int .i64 3) ∧ w''.cell? ⟨S, 4, none⟩ = some (.int .i64 n) ∧ w''.cell? ⟨S, 5, none⟩ = some (.slice (some ⟨g', 0, none⟩) p p) ∧ w''.cell? ⟨w.heap.size, 0, none⟩ = some (.func (.func 89) #[] #[]) ∧ w''.cell? ⟨w.heap.size, 1, none⟩ = some (.int .i64 0) ∧ w''.cell? ⟨w.heap.size, 2, none⟩ = some (.func (.func 45) #[] #[]) ∧ w''.cell? ⟨w.heap.size, 3, none⟩ = some (.int .i64 3) ∧ w''.cell? ⟨w.heap.size, 4, none⟩ = some (.int .i64 n) ∧ w''.cell? ⟨w.heap.size, 5, none⟩ = some (.slice (some ⟨g, 0, none⟩) p p) ∧ w''.cell? ⟨(w.heap.size + 1), 0, none⟩ = some (.func (.func 89) #[] #[]) ∧ w''.cell? ⟨(w.heap.size + 1), 1, none⟩ = some (.int .i64 0) ∧ w''.cell? ⟨(w.heap.size + 1), 2, none⟩ = some (.func (.func 45) #[] #[]) ∧ w''.cell? ⟨(w.heap.size + 1), 3, none⟩ = some (.int .i64 3) ∧ w''.cell? ⟨(w.heap.size + 1), 4, none⟩ = some (.int .i64 n) ∧ w''.cell? ⟨(w.heap.size + 1), 5, none⟩ = some (.slice (some ⟨h, 0, none⟩) p p))) := fun w' h' w'' hb hRs => keep _ (grow_trans h'.1 (grow_below_any hb (some g'))) ((hb.block g' hRs).trans h'.2)
      have hS0 := K.out wr.drew (grow_trans hg2.out (grow_drew _ _)) rfl
      have hb4 := (six_cells (show Blk wr w.heap.size 89 #[_, _, _, _, _, _] from S2.out.grown hg2.out (by omega))).2.2.2.2.1
      have HFb : Hid (∀ l, l < n → 0 ≤ (fun l => zs.getD (P + l) 0) l ∧ (fun l => zs.getD (P + l) 0) l ≤ 3) := fun l hl => hzb.out (P + l) (by omega)
      clear keep hP
      go_wp2_with fail
      refine wp_region_Z (S := fun w' => (Hid (w2.grownBy w' (some g') ∧ w'.heap[g']? = wr.heap[g']?) ∧ w'.cell? ⟨S, 0, none⟩ = some (.func (.func 89) #[] #[]) ∧ w'.cell? ⟨S, 1, none⟩ = some (.int .i64 0) ∧ w'.cell? ⟨S, 2, none⟩ = some (.func (.func 45) #[] #[]) ∧ w'.cell? ⟨S, 3, none⟩ = some (.int .i64 3) ∧ w'.cell? ⟨S, 4, none⟩ = some (.int .i64 n) ∧ w'.cell? ⟨S, 5, none⟩ = some (.slice (some ⟨g', 0, none⟩) p p) ∧ w'.cell? ⟨w.heap.size, 0, none⟩ = some (.func (.func 89) #[] #[]) ∧ w'.cell? ⟨w.heap.size, 1, none⟩ = some (.int .i64 0) ∧ w'.cell? ⟨w.heap.size, 2, none⟩ = some (.func (.func 45) #[] #[]) ∧ w'.cell? ⟨w.heap.size, 3, none⟩ = some (.int .i64 3) ∧ w'.cell? ⟨w.heap.size, 4, none⟩ = some (.int .i64 n) ∧ w'.cell? ⟨w.heap.size, 5, none⟩ = some (.slice (some ⟨g, 0, none⟩) p p) ∧ w'.cell? ⟨(w.heap.size + 1), 0, none⟩ = some (.func (.func 89) #[] #[]) ∧ w'.cell? ⟨(w.heap.size + 1), 1, none⟩ = some (.int .i64 0) ∧ w'.cell? ⟨(w.heap.size + 1), 2, none⟩ = some (.func (.func 45) #[] #[]) ∧ w'.cell? ⟨(w.heap.size + 1), 3, none⟩ = some (.int .i64 3) ∧ w'.cell? ⟨(w.heap.size + 1), 4, none⟩ = some (.int .i64 n) ∧ w'.cell? ⟨(w.heap.size + 1), 5, none⟩ = some (.slice (some ⟨h, 0, none⟩) p p))) (by kernel_rfl) hS0 (fun hS => ?_)
      clear hS0 hb4
      refine wpAnyZ_take (i := 0) (v := ?vb0) rfl (by kernel_rfl) (by kernel_rfl) (by kernel_rfl) (by kernel_rfl) (fun _ _ _ h => h) (Or.inl ⟨by rfl, ?yb0⟩) (by with_reducible assumption) ?rb0
      case yb0 => (intro w hSw; (try dsimp only at hSw); go_simp; (try with_reducible rfl))
      simp only [Act.put, List.setIfInBounds_toArray]
      refine wpAnyZ_take (i := 1) (v := ?vb1) rfl (by kernel_rfl) (by kernel_rfl) (by kernel_rfl) (by kernel_rfl) (fun _ _ _ h => h) (Or.inl ⟨by rfl, ?yb1⟩) (by with_reducible assumption) ?rb1
      case yb1 => (intro w hSw; (try dsimp only at hSw); go_simp; (try with_reducible rfl))
      simp only [Act.put]
      refine wpAnyZ_take (i := 3) (v := ?vb3) rfl (by kernel_rfl) (by kernel_rfl) (by kernel_rfl) (by kernel_rfl) (fun _ _ _ h => h) (Or.inl ⟨by rfl, ?yb3⟩) (by with_reducible assumption) ?rb3
      case yb3 => (intro w hSw; (try dsimp only at hSw); go_simp; (try with_reducible rfl))
      simp only [Act.put]
      refine wpAnyZ_take (i := 4) (v := ?vb4) rfl (by kernel_rfl) (by kernel_rfl) (by kernel_rfl) (by kernel_rfl) (fun _ _ _ h => h) (Or.inl ⟨by rfl, ?yb4⟩) (by with_reducible assumption) ?rb4
      case yb4 => (intro w hSw; (try dsimp only at hSw); go_simp; (try with_reducible rfl))
      simp only [Act.put]
      refine wpAnyZ_take (i := 5) (v := ?vb5) rfl (by kernel_rfl) (by kernel_rfl) (by kernel_rfl) (by kernel_rfl) (fun _ _ _ h => h) (Or.inl ⟨by rfl, ?yb5⟩) (by with_reducible assumption) ?rb5
      case yb5 => (intro w hSw; (try dsimp only at hSw); go_simp; (try with_reducible rfl))
      simp only [Act.put]
      refine wpAnyZ_step (i := 2) (by kernel_rfl) rfl ?_
      intro K1 hK1
      go_simp
      refine (g_row_is g' n p r P n1 n2 hlt HP.out hPn _).mono ?_
      rintro e w3 ⟨rfl, hb3⟩
      have hS3 := KB.out _ hS.1.out _ hb3 hRw
      have hR3 : g' < w3.heap.size := Nat.lt_of_lt_of_le hRw hb3.size
      refine hK1.out _ _ hS3 (fun hS1 => ?_)
      clear hK1 hS hS3 hb3
      (try simp only [Act.put])
      refine wpAnyZ_step (i := 6) (by kernel_rfl) rfl ?_
      intro K2 hK2
      go_simp
      refine (g_row_is g n p r P n1 n2 hlt HP.out hPn _).mono ?_
      rintro e w4 ⟨rfl, hb4⟩
      have hS4 := KB.out _ hS1.1.out _ hb4 hR3
      have hR4 : g' < w4.heap.size := Nat.lt_of_lt_of_le hR3 hb4.size
      refine hK2.out _ _ hS4 (fun hS2 => ?_)
      clear hK2 hS1 hS4 hb4
      (try simp only [Act.put])
      refine wpAnyZ_step (i := 7) (by kernel_rfl) rfl ?_
      intro K3 hK3
      go_simp
      have hzr := Blk.grown Z2.out hS2.1.out.1 (by omega)
      refine (g_behind_any n p h g P n (fun l => zs.getD (P + l) 0) ys _ n1 n2 hp hy p1 (Blk.grown Y2.out hS2.1.out.1 (by omega)) HFb hyb (Blk.lt hzr) (fun l hl => Nm.at_ hzr (by have := hz.out; omega))).mono ?_
      rintro e w5 ⟨g2, rfl, hb5, hg5, hq5⟩
      have hS5 := KB.out _ hS2.1.out _ hb5 hR4
      refine hK3.out _ _ hS5 (fun hS3 => ?_)
      clear hK3 hS2 hS5 hzr
      (try simp only [Act.put])
      obtain ⟨bl, hbl⟩ : ∃ bl, bl = gbehindL n (fun l => zs.getD (P + l) 0) ys := ⟨_, rfl⟩
      rw [← hbl] at hq5
      have hbn : bl.length = n := by rw [hbl]; exact gbehindL_len _ _ _
      have hsq5 : GSq w5 g' cs := hS3.1.out.2.trans hsq.out
      have hfit : P + bl.length ≤ cs.length := by have := hcl.out; omega
      have D1 : Hid (∀ q, q < (r + 1) * n → (put cs P bl).getD q 0 = (gmulL n zs ys).getD q 0) := fun q hq => by
        rw [Nat.succ_mul, ← HP.out] at hq
        by_cases h1 : q < P
        · rw [put_lo cs P bl hfit h1]
          exact hpre.out q (by rw [← HP.out]; exact h1)
        · obtain ⟨k, rfl⟩ : ∃ k, q = P + k := ⟨q - P, by omega⟩
          have hk : k < n := by omega
          have hm := gmulL_row n zs ys hlt hk
          rw [← HP.out] at hm
          rw [put_mid cs P bl hfit (by omega), hm, hbl, gbehindL_at _ _ hk]
      have DL : Hid ((put cs P bl).length = p) := by show _ = _; rw [put_len cs P bl hfit]; exact hcl.out
      have G5 := hS3.1.out.1
      refine wpAnyZ_last (i := 8) (by kernel_rfl) rfl (by kernel_rfl) ?_
      intro K4 hK4
      refine step_copy_into rfl _ _ _ _ rfl 76 Tryz.underlying87 (by kernel_rfl) g' P n n ⟨g2, 0, none⟩ n n rfl rfl _ _ hsq5 (bl.map (Value.int .i64)) (by rw [List.length_map, hbn]; exact (Nat.min_self n).symm) ?_ (by simp; omega) (by intro v hv; simp at hv; obtain ⟨x, _, rfl⟩ := hv; rfl) ?_
      · intro j v hj
        rw [List.getElem?_map] at hj
        have hjn : j < bl.length := by
          rcases Nat.lt_or_ge j bl.length with h' | h'
          · exact h'
          · rw [List.getElem?_eq_none h'] at hj; cases hj
        rw [List.getElem?_eq_getElem hjn] at hj
        cases hj
        have hcj := hq5.at_ hjn
        rw [List.getD_eq_getElem?_getD, List.getElem?_eq_getElem hjn] at hcj
        have e : (⟨g2, 0, none⟩ : Addr).add j = ⟨g2, j, none⟩ := by by_cases h0 : j = 0 <;> simp [Addr.add, h0]
        rw [e]
        simpa using hcj
      rw [put_map]
      have Q6 : Hid (GSq (w5.setRow g' ((put cs P bl).map (Value.int .i64)).toArray) g' (put cs P bl)) := setRow_heap w5 g' _ _ _ _ hsq5
      have G6 := Lib.hid (grow_trans G5 (grow_setRow w5 g' ((put cs P bl).map (Value.int .i64)).toArray))
      refine hK4.out _ _ ?_
      clear hK4 hS3 hq5 hb5 hsq5 hbl G5
      go_wp2_with fail
      go_roundg (n - (r + 1))
      case rel => exact ⟨r + 1, put cs P bl, by omega, rfl, by go_num, DL, D1, Q6, G6⟩
      case measure => omega
    · obtain rfl : n = r := by omega
      have hrr := R2.out.grown hg2.out (by omega)
      have hvr := V2.out.grown hg2.out hgs
      obtain ⟨a0, a1, a2, a3, a4, a5⟩ := six_cells (show Blk wr S 89 #[_, _, _, _, _, _] from hvr)
      obtain ⟨d0, d1, d2, d3, d4, d5⟩ := six_cells hrr
      obtain ⟨f0, f1, f2, f3, f4, f5⟩ := six_frozen hrr
      have HRR := Lib.hid hrr
      have HZS : Hid (cs = gmulL n zs ys) := eq_of_getD (by rw [hcl.out, HL.out]) (fun q hq => hpre.out q (by rw [← hp.out, ← hcl.out]; exact hq))
      clear hrr hvr
      go_wp2_with fail
      refine bodyPost_ret (results_1 rfl (Gives.row (g := w.heap.size + 1 + 1) rfl (blk_six HRR.out) Tryz.underlying89 rfl (by kernel_rfl))) rfl ?_
      refine ⟨g', rfl, ?_, by omega, ?_⟩
      · exact (B2.out.grown hg2.out B2.out.size (fun j hj => by cases hj; omega)).grown (grow_six _ _ _ _ _ _ _ _) (by have := hg2.out.size; have := B2.out.size; omega) (fun j hj => by cases hj; omega)
      · rw [← HZS.out]
        exact Blk.grown hsq.out (grow_six _ _ _ _ _ _ _ _) (by omega)
end Go.Proofs.YtjhaegkefagngaaGreatDoor
namespace Go.Proofs.YtjhaegkefagngaaGreatDoor
open Go.RowKit
set_option maxHeartbeats 2000000
set_option maxRecDepth 100000
set_option linter.unusedVariables false

def keyL (zs : List Int) : List Int := zs ++ List.replicate (16 - zs.length) 0
def keyC (zs : List Int) : Array Value := ((keyL zs).map (Value.int .i64)).toArray
theorem keyL_len {zs : List Int} (h : zs.length ≤ 16) : (keyL zs).length = 16 := by simp [keyL]; omega
theorem keyL_inj {xs ys : List Int} (h : xs.length = ys.length) : (keyL xs = keyL ys) ↔ xs = ys := by
  constructor
  · intro e
    exact (List.append_inj e h).1
  · intro e; rw [e]
theorem keyC_size {zs : List Int} (h : zs.length ≤ 16) : (keyC zs).size = 16 := by simp [keyC, keyL_len h]
theorem eq_items (xs ys : List Int) (w : World) (hx : xs.length = 16) (hy : ys.length = 16) : ∀ is : List Nat, (∀ i ∈ is, i < 16) →
    (Op.eqItems 9999 76 1 (xs.map (Value.int .i64)).toArray (ys.map (Value.int .i64)).toArray is).run Tryz.prog w = .ok (is.all fun i => xs.getD i 0 == ys.getD i 0) w
  | [], _ => by simp [Op.eqItems]
  | i :: is, h => by
    have hi := h i (by simp)
    have hp : Tryz.prog.plainKey 76 = true := by kernel_rfl
    have pu : ∀ zs : List Int, zs.length = 16 → (part 76 (zs.map (Value.int .i64)).toArray (i * 1)).run Tryz.prog w = .ok (.int .i64 (zs.getD i 0)) w := fun zs hz =>
      run_part_plain w hp (by rw [Nat.mul_one, List.getElem?_toArray, List.getElem?_map, List.getElem?_eq_getElem (by omega), List.getD_eq_getElem?_getD, List.getElem?_eq_getElem (by omega)]; rfl)
    have e := run_equalIn_int w 9998 76 .i64 .i64 (xs.getD i 0) (ys.getD i 0) Tryz.underlying76
    have ih := eq_items xs ys w hx hy is (fun j hj => h j (by simp [hj]))
    simp only [Op.eqItems, Sem.run_bind, pu xs hx, pu ys hy, e, Result.andThen_ok]
    rw [List.all_cons]
    rcases (xs.getD i 0 == ys.getD i 0) with _ | _
    · rfl
    · simp only [Bool.not_true, Bool.true_and, ih, Bool.false_eq_true, if_false]
end Go.Proofs.YtjhaegkefagngaaGreatDoor
namespace Go.Proofs.YtjhaegkefagngaaGreatDoor
open Go.RowKit
set_option maxHeartbeats 1000000
set_option maxRecDepth 100000
set_option linter.unusedVariables false

theorem gvalid_is (z : Int) (r : Bool) (w : World) (hr : gvld z = r) :
    Calls Tryz.prog 47 #[.int .i64 z] w fun e w' => e = .returned (.bool r) ∧ w = w' := by
  by_cases h0 : 0 ≤ z
  · by_cases h3 : z ≤ 3
    · have hR : r = true := by rw [← hr]; exact gvld_yes ⟨h0, h3⟩
      subst hR
      clear hr
      go_enter Tryz.func47, Tryz.ntmps47
      go_wp2
      go_ret
      exact ⟨rfl, rfl⟩
    · have hR : r = false := by rw [← hr]; simp only [gvld, decide_eq_false_iff_not]; omega
      subst hR
      clear hr
      go_enter Tryz.func47, Tryz.ntmps47
      go_wp2
      go_ret
      exact ⟨rfl, rfl⟩
  · have hR : r = false := by rw [← hr]; simp only [gvld, decide_eq_false_iff_not]; omega
    subst hR
    clear hr
    go_enter Tryz.func47, Tryz.ntmps47
    go_wp2
    go_ret
    exact ⟨rfl, rfl⟩

theorem iGradesValid_is (m : Int) (A : Option Addr) (cap : Nat) (zs : List Int) (r : Bool) (w : World) (hz : Ints w w.heap.size A zs) (hr : gradeOk m zs = r) :
    Calls Tryz.prog 19 #[.agg #[.int .i64 m, .slice A zs.length cap]] w fun e w' => e = .returned (.bool r) ∧ Below w.heap.size w w' := by
  have hl := hz.len
  have hb0 := below_a1 w (.cells #[.int .i64 m, .slice A zs.length cap] 30)
  rcases Bool.eq_false_or_eq_true (matOk m zs) with hok | hok
  · have hE : Hid (gAll zs = r) := by show _ = _; rw [← hr, gradeOk_all hok]
    have HOK := Lib.hid hok
    clear hok hr
    go_enter Tryz.func19, Tryz.ntmps19
    go_wp2_with fail
    refine (iMatrixValid_is _ _ _ _ _ _ (ints_al hz _) HOK.out).mono ?_
    rintro e w1 ⟨rfl, hb1⟩
    have pA : Blk w1 w.heap.size 30 #[.int .i64 m, .slice A zs.length cap] := (Blk.new w _ _).below hb1 (by simp)
    obtain ⟨c0, c1⟩ := two_cells pA
    have HB := Lib.hid (below_on hb0 hb1)
    have hz1 := (hz.below HB.out).more HB.out.size
    clear hb1 hb0 pA
    go_wp2_with fail
    go_loop [11] (fun i => ∃ k : Nat, k ≤ zs.length ∧ i = .int .i64 k ∧ Hid (gAll zs = gAll (zs.drop k))) (fun i => zs.length - (intOf i).toNat)
    case atStart => exact ⟨0, Nat.zero_le _, rfl, rfl⟩
    case round =>
      obtain ⟨k, hk, rfl, HR2⟩ := hrel
      by_cases hlt : k < zs.length
      · obtain ⟨b, off, z, rfl, _, hc, hd, _⟩ := hz1.at_ hlt
        have HD := Lib.hid hd
        clear hd
        rcases Bool.eq_false_or_eq_true (gvld z) with hv | hv
        · have HV := Lib.hid hv
          clear hv
          go_wp2_with fail
          refine (gvalid_is _ _ _ HV.out).mono ?_
          rintro e w' ⟨rfl, rfl⟩
          go_wp2_with fail
          go_round
          case rel => exact ⟨k + 1, by omega, by go_num, by show _ = _; rw [HR2.out, HD.out, gAll_t HV.out]⟩
          case measure => simp [intOf]; omega
        · have HV := Lib.hid hv
          have HF := Lib.hid (show r = false by rw [← hE.out, HR2.out, HD.out, gAll_f HV.out])
          clear hv
          go_wp2_with fail
          refine (gvalid_is _ _ _ HV.out).mono ?_
          rintro e w' ⟨rfl, rfl⟩
          go_wp2_with fail
          go_ret
          exact ⟨ret_bool HF.out.symm, HB.out⟩
      · have HF := Lib.hid (show r = true by rw [← hE.out, HR2.out, List.drop_of_length_le (by omega)]; rfl)
        go_wp2_with fail
        go_ret
        exact ⟨ret_bool HF.out.symm, HB.out⟩
  · have hR : r = false := by rw [← hr]; exact gradeOk_mat hok
    have HOK := Lib.hid hok
    subst hR
    clear hok hr
    go_enter Tryz.func19, Tryz.ntmps19
    go_wp2_with fail
    refine (iMatrixValid_is _ _ _ _ _ _ (ints_al hz _) HOK.out).mono ?_
    rintro e w1 ⟨rfl, hb1⟩
    go_wp2_with fail
    go_ret
    exact ⟨rfl, below_on hb0 hb1⟩

theorem l1In_is (x a b : Int) (r : Bool) (w : World) (hr : decide (a ≤ x ∧ x ≤ b) = r) :
    Calls Tryz.prog 82 #[.int .i64 x, .int .i64 a, .int .i64 b] w fun e w' => e = .returned (.bool r) ∧ w = w' := by
  subst hr; exact l1In_any x a b w
/-! The square of a matrix of grades. -/
theorem g_gives_sq {tmps : Array Value} {w : World} {p : Tmp} {g : Nat} {t : TypeId} {a b c d e f : Value} (hp : tmps.getD p undef = .pointer (some ⟨g, 0, none⟩)) (hg : Blk w g t #[a, b, c, d, e, f]) : Gives Tryz.prog tmps w (.cell p 89) (.agg #[a, b, c, d, e, f]) :=
  Gives.row hp hg Tryz.underlying89 rfl (by kernel_rfl)
theorem g_squareOf_raw (n p cap : Nat) (A : Option Addr) (zs : List Int) (w : World) (n1 : 1 ≤ n) (n2 : n ≤ 4) (hp : p = n * n) (hl : zs.length = p) (hz : Ints w w.heap.size A zs) :
    Calls Tryz.prog 68 #[.agg gringV, .agg #[.int .i64 n, .slice A p cap]] w fun e w' => ∃ g, e = .returned (.agg #[.func (.func 89) #[] #[], .int .i64 0, .func (.func 45) #[] #[], .int .i64 3, .int .i64 n, .slice (some ⟨g, 0, none⟩) p p]) ∧ Below w.heap.size w w' ∧ w.heap.size ≤ g ∧ GSq w' g zs := g_squareOf_any n p cap A zs w n1 n2 hp hl hz
theorem iGradesValid_p (m : Int) (A : Option Addr) (cap p : Nat) (zs : List Int) (r : Bool) (w : World) (hl : zs.length = p) (hz : Ints w w.heap.size A zs) (hr : gradeOk m zs = r) :
    Calls Tryz.prog 19 #[.agg #[.int .i64 m, .slice A p cap]] w fun e w' => e = .returned (.bool r) ∧ Below w.heap.size w w' := by
  subst hl; exact iGradesValid_is m A cap zs r w hz hr
theorem below_sq {B : Nat} {w0 w : World} (h : Below B w0 w) (g : Nat) (hg : B ≤ g) (v0 v1 v2 v3 v4 v5 : Value) : Below B w0 (((((((w.setCell ⟨g, 0, none⟩ v0).setCell ⟨g, 1, none⟩ v1).setCell ⟨g, 2, none⟩ v2).setCell ⟨g, 3, none⟩ v3).setCell ⟨g, 4, none⟩ v4).setCell ⟨g, 5, none⟩ v5)) :=
  (((((h.setCell (p := ⟨g, 0, none⟩) hg v0).setCell (p := ⟨g, 1, none⟩) hg v1).setCell (p := ⟨g, 2, none⟩) hg v2).setCell (p := ⟨g, 3, none⟩) hg v3).setCell (p := ⟨g, 4, none⟩) hg v4).setCell (p := ⟨g, 5, none⟩) hg v5
theorem gradeSquare_ok (N p : Nat) (A : Option Addr) (cap : Nat) (zs : List Int) (w : World) (n1 : 1 ≤ N) (n2 : N ≤ 4) (HP : Hid (p = N * N)) (HLP : Hid (zs.length = p)) (HOK : Hid (gradeOk (N : Int) zs = true)) (hz : Ints w w.heap.size A zs) :
    Calls Tryz.prog 41 #[.agg #[.int .i64 N, .slice A p cap]] w fun e w' => ∃ g, e = .returned (.tuple #[gsqV N (.slice (some ⟨g, 0, none⟩) p p), .bool true]) ∧ Below w.heap.size w w' ∧ w.heap.size ≤ g ∧ GSq w' g zs := by
  go_enter Tryz.func41, Tryz.ntmps41
  go_wp2_with fail
  refine (iGradesValid_p _ _ _ _ _ _ _ HLP.out (ints_al (ints_al hz _) _) HOK.out).mono ?_
  rintro e w1 ⟨rfl, hb1⟩
  have hb0 := below_on (below_a2 w _ _) hb1
  have pA : Blk w1 w.heap.size 30 #[.int .i64 N, .slice A p cap] := ((Blk.new w _ _).alloc _).below hb1 (by simp; omega)
  have rA : Blk w1 (w.heap.size + 1) 89 #[.nilFunc, .int .i64 0, .nilFunc, .int .i64 0, .int .i64 0, .slice none 0 0] := (blk_new (by simp)).below hb1 (by simp)
  obtain ⟨R, hRe⟩ : ∃ R, R = w.heap.size + 1 := ⟨_, rfl⟩
  rw [← hRe] at rA
  rw [← hRe]
  have hRg : w.heap.size < R := by omega
  have hz1 := hz.below hb0
  have keep : ∀ w', w1.grownBy w' (some R) → (Hid (w1.grownBy w' (some R)) ∧ w'.cell? ⟨w.heap.size, 0, none⟩ = some (.int .i64 N) ∧ w'.cell? ⟨w.heap.size, 1, none⟩ = some (.slice A p cap)) := by
    intro w' h
    exact ⟨h, (pA.grown h (by omega)).cell 0, (pA.grown h (by omega)).cell 1⟩
  have K := Lib.hid keep
  have HZ := Lib.hid hz1
  have HB := Lib.hid hb0
  have RA := Lib.hid (rA.drewN 1)
  have hS0 := K.out w1.drew (grow_drew _ _)
  clear keep hb1 hz1 hb0 pA rA hz hRe
  go_wp2_with fail
  go_region_held3 (fun w' => Hid (w1.grownBy w' (some R)) ∧ w'.cell? ⟨w.heap.size, 0, none⟩ = some (.int .i64 N) ∧ w'.cell? ⟨w.heap.size, 1, none⟩ = some (.slice A p cap)) (first | with_reducible assumption | with_reducible exact K.out _ (grow_trans hS2.1.out (grow_six _ _ _ _ _ _ _ _)) | skip)
    (first
      | (go_at_call 69; refine (gradeRing_any _).mono ?_; rintro e w2 ⟨rfl, hb2⟩; have hS1 := K.out _ (grow_trans hS0.1.out (grow_below_any hb2 _)); have R2 := Lib.hid (RA.out.below hb2 (Blk.lt RA.out)); clear hb2)
      | (go_at_call 68; refine (g_squareOf_raw N p cap A zs _ n1 n2 HP.out HLP.out ((ints_grown HZ.out hS1.1.out (Nat.le_of_lt hRg) HB.out.size).more (Nat.le_trans HB.out.size hS1.1.out.size))).mono ?_; rintro e w3 ⟨g, rfl, hb3, hg3, hq3⟩; have hS2 := K.out _ (grow_trans hS1.1.out (grow_below_any hb3 _)); have R3 := Lib.hid (R2.out.below hb3 (Blk.lt R2.out)); have Q3 := Lib.hid hq3; have hRg3 := Nat.lt_of_lt_of_le (Blk.lt R2.out) hg3; obtain ⟨d0, d1, d2, d3, d4, d5⟩ := six_cells R3.out; obtain ⟨f0, f1, f2, f3, f4, f5⟩ := six_frozen R3.out; clear hb3 hq3))
  go_wp2_with fail
  refine bodyPost_ret (results_2 rfl (g_gives_sq (g := R) rfl (blk_six R3.out)) (.tmp rfl)) rfl ?_
  refine ⟨g, rfl, below_sq (HB.out.grown hS2.1.out HB.out.size (fun j hj => by cases hj; omega)) _ (by omega) _ _ _ _ _ _, by omega, ?_⟩
  exact Blk.grown Q3.out (grow_six _ R _ _ _ _ _ _) (by omega)
theorem gradeSquare_no (m : Int) (A : Option Addr) (cap : Nat) (zs : List Int) (w : World) (hz : Ints w w.heap.size A zs) (hok : gradeOk m zs = false) :
    Calls Tryz.prog 41 #[.agg #[.int .i64 m, .slice A zs.length cap]] w fun e w' => e = .returned (.tuple #[.agg #[.nilFunc, .int .i64 0, .nilFunc, .int .i64 0, .int .i64 0, .slice none 0 0], .bool false]) ∧ Below w.heap.size w w' := by
  have HOK := Lib.hid hok
  clear hok
  go_enter Tryz.func41, Tryz.ntmps41
  go_wp2_with fail
  refine (iGradesValid_is _ _ _ _ _ _ (ints_al (ints_al hz _) _) HOK.out).mono ?_
  rintro e w1 ⟨rfl, hb1⟩
  have HB := Lib.hid (below_on (below_a2 w _ _) hb1)
  have rA : Blk w1 (w.heap.size + 1) 89 #[.nilFunc, .int .i64 0, .nilFunc, .int .i64 0, .int .i64 0, .slice none 0 0] := (blk_new (by simp)).below hb1 (by simp)
  obtain ⟨d0, d1, d2, d3, d4, d5⟩ := six_cells rA
  obtain ⟨f0, f1, f2, f3, f4, f5⟩ := six_frozen rA
  have RA := Lib.hid rA
  clear hb1 rA
  go_wp2_with fail
  refine bodyPost_ret (results_2 rfl (g_gives_sq (g := w.heap.size + 1) rfl (blk_six RA.out)) (.tmp rfl)) rfl ?_
  exact ⟨rfl, below_sq HB.out _ (by omega) _ _ _ _ _ _⟩
end Go.Proofs.YtjhaegkefagngaaGreatDoor
