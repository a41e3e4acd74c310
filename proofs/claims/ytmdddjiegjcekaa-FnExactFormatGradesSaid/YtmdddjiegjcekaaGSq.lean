/- Squares of grades: a matrix of one, units, products: each the plain function of its numbers, in new memory; nothing that was there changes. -/
import Derived.Test.YtmdddjiegjcekaaSq7
import Derived.Test.YtmdddjiegjcekaaLastOp
import Derived.Test.YtmdddjiegjcekaaGr
import Derived.Laws.CopyOwn
namespace Go.Proofs.Ytmdddjiegjcekaa
open Go.RowKit
set_option maxHeartbeats 2000000
set_option maxRecDepth 100000
set_option linter.unusedVariables false
/-- The semiring of costs as a value. -/
def gringV : Array Value := #[.func (.func 30) #[] #[], .int .i64 0, .func (.func 31) #[] #[], .int .i64 3]
theorem gradeRing_any (w : World) :
    Calls Try.prog 21 #[] w fun e w' => e = .returned (.agg gringV) ∧ Below w.heap.size w w' := by
  go_enter Try.func21, Try.ntmps21
  go_wp2
  refine bodyPost_ret (results_1 rfl (Gives.row (g := w.heap.size) rfl (Blk.new _ _ _) Try.underlying37 rfl (by kernel_rfl))) rfl ?_
  exact ⟨rfl, below_a1 _ _⟩
theorem g_rowOf_is (b off n cap i s p : Nat) (s1 : 1 ≤ s) (s2 : s ≤ 4) (hi : i < s) (hp : p = i * s) (hc : p + s ≤ cap) (w : World) :
    Calls Try.prog 22 #[.slice (some ⟨b, off, none⟩) n cap, .int .i64 s, .int .i64 i] w fun e w' => e = .returned (.slice (some ⟨b, off + p, none⟩) s s) ∧ w = w' := by
  have p1 : p ≤ 16 := by
    rw [hp]
    calc i * s ≤ 4 * 4 := Nat.mul_le_mul (by omega) s2
      _ = 16 := rfl
  have h1 : wrap64 ((i : Int) * (s : Int)) = (p : Int) := by rw [← Int.natCast_mul, ← hp]; exact w64_nat (by omega)
  have h2 : wrap64 (((i : Int) + 1) * (s : Int)) = ((p + s : Nat) : Int) := by
    have e : ((i : Int) + 1) * (s : Int) = ((p + s : Nat) : Int) := by rw [Int.add_mul, Int.one_mul, ← Int.natCast_mul, ← hp]; simp
    rw [e]; exact w64_nat (by omega)
  obtain ⟨q, hq⟩ : ∃ q, q = p + s := ⟨_, rfl⟩
  rw [← hq] at h2
  have H1 := Lib.hid h1
  have c1 : (0 : Int) ≤ (q : Int) := by omega
  have c2 : (q : Int) ≤ (cap : Int) := by omega
  have c3 : (p : Int) ≤ (q : Int) := by omega
  have c4 : (0 : Int) ≤ (p : Int) := by omega
  have c5 : ¬ q = p := by omega
  have c6 : q - p = s := by omega
  clear H1 hp hc hq
  go_enter Try.func22, Try.ntmps22
  go_wp2
  go_ret
  exact ⟨rfl, rfl⟩
theorem info_grade : (Try.prog.info? 35).map (fun i => (i.zero, i.size, i.bytes)) = some (some (.int .i64 0), 1, 8) := by kernel_rfl
/-- A square as a value: the semiring of costs, its size, its numbers' slice. -/
def gsqV (n : Nat) (x : Value) : Value := .agg #[.func (.func 30) #[] #[], .int .i64 0, .func (.func 31) #[] #[], .int .i64 3, .int .i64 n, x]
def gsqC (n : Nat) (x : Value) : Array Value := #[.func (.func 30) #[] #[], .int .i64 0, .func (.func 31) #[] #[], .int .i64 3, .int .i64 n, x]
theorem gsqV_eq (n : Nat) (x : Value) : gsqV n x = .agg (gsqC n x) := rfl
abbrev GSq (w : World) (g : Nat) (zs : List Int) : Prop := Nm w g 35 zs
theorem g_newSquare_any (n p : Nat) (w : World) (n1 : 1 ≤ n) (n2 : n ≤ 4) (hp : p = n * n) :
    Calls Try.prog 29 #[.agg gringV, .int .i64 n] w fun e w' => ∃ g, e = .returned (gsqV n (.slice (some ⟨g, 0, none⟩) p p)) ∧ Below w.heap.size w w' ∧ w.heap.size ≤ g ∧ GSq w' g (List.replicate p 0) := by
  have p1 : p ≤ 16 := by
    rw [hp]
    calc n * n ≤ 4 * 4 := Nat.mul_le_mul n2 n2
      _ = 16 := rfl
  have h1 : wrap64 ((n : Int) * (n : Int)) = (p : Int) := by rw [← Int.natCast_mul, ← hp]; exact w64_nat (by omega)
  clear hp
  have hmk : ∀ w : World, (Instr.makeSlice 38 (.int .i64 (p : Int)) (.int .i64 (p : Int))).run Try.prog w = .ok (.slice (some ⟨w.heap.size, 0, none⟩) p p) (w.alloc (.cells (madeCells #[.int .i64 0] p) 35)) :=
    fun w => run_make_row' 38 35 (.int .i64 0) 8 Try.underlying38 info_grade rfl .i64 .i64 p (by omega) (by omega) w
  unfold gringV
  go_enter Try.func29, Try.ntmps29
  go_wp2_with fail
  go_region
  go_wp2_with fail
  refine bodyPost_ret (results_1 rfl (Gives.row (g := w.heap.size + 1) rfl (((blk_new (by simp)).alloc _).drewN 1) Try.underlying40 rfl (by kernel_rfl))) rfl ?_
  refine ⟨w.heap.size + 1 + 1, rfl, below_dr (below_a3 _ _ _ _) 1, by omega, ?_⟩
  show Blk _ _ _ _
  rw [← made_zero]
  exact (blk_new (by simp)).drewN 1
theorem g_row_is (g n cap i p : Nat) (n1 : 1 ≤ n) (n2 : n ≤ 4) (hi : i < n) (hp : p = i * n) (hc : p + n ≤ cap) (w : World) :
    Calls Try.prog 13 #[gsqV n (.slice (some ⟨g, 0, none⟩) cap cap), .int .i64 i] w fun e w' => e = .returned (.slice (some ⟨g, p, none⟩) n n) ∧ Below w.heap.size w w' := by
  have HP := Lib.hid hp
  clear hp
  unfold gsqV
  go_enter Try.func13, Try.ntmps13
  go_wp2_with fail
  refine (g_rowOf_is g 0 cap cap i n p n1 n2 hi HP.out hc _).mono ?_
  rintro e w' ⟨rfl, rfl⟩
  rw [Nat.zero_add]
  go_wp2_with fail
  go_ret
  exact ⟨rfl, below_a1 _ _⟩
theorem g_squareOf_any (n p cap : Nat) (A : Option Addr) (zs : List Int) (w : World) (n1 : 1 ≤ n) (n2 : n ≤ 4) (hp : p = n * n) (hl : zs.length = p) (hz : Ints w w.heap.size A zs) :
    Calls Try.prog 20 #[.agg gringV, .agg #[.int .i64 n, .slice A p cap]] w fun e w' => ∃ g, e = .returned (gsqV n (.slice (some ⟨g, 0, none⟩) p p)) ∧ Below w.heap.size w w' ∧ w.heap.size ≤ g ∧ GSq w' g zs := by
  have p1 : p ≤ 16 := by
    rw [hp]
    calc n * n ≤ 4 * 4 := Nat.mul_le_mul n2 n2
      _ = 16 := rfl
  have HP := Lib.hid hp
  clear hp
  unfold gringV
  go_enter Try.func20, Try.ntmps20
  go_wp2_with fail
  refine (g_newSquare_any n p _ n1 n2 HP.out).mono ?_
  rintro e w1 ⟨g, rfl, hb1, hg1, hsq⟩
  unfold gsqV
  have m1 : Blk w1 (w.heap.size + 1) 27 #[.int .i64 n, .slice A p cap] := ((blk_new (by simp)).alloc _).below hb1 (by simp)
  have r1 : Blk w1 (w.heap.size + 1 + 1) 40 #[.nilFunc, .int .i64 0, .nilFunc, .int .i64 0, .int .i64 0, .slice none 0 0] := (blk_new (by simp)).below hb1 (by simp)
  have hgr : w.heap.size + 1 + 1 < g := by simp at hg1; omega
  have hb0 := below_on (below_a3 w _ _ _) hb1
  have hc1 : ∀ o, (w1.alloc o).cell? ⟨w.heap.size + 1, 1, none⟩ = some (.slice A p cap) := fun o => (m1.alloc o).cell 1
  have hz1 := (hz.below hb0)
  clear hb1 hg1
  go_wp2_with fail
  obtain ⟨w2, hw2⟩ : ∃ w2, w2 = w1.alloc (.cells (gsqC n (.slice (some ⟨g, 0, none⟩) p p)) 40) := ⟨_, rfl⟩
  have v2 : Blk w2 w1.heap.size 40 (gsqC n (.slice (some ⟨g, 0, none⟩) p p)) := by rw [hw2]; exact Blk.new _ _ _
  have r2 : Blk w2 (w.heap.size + 1 + 1) 40 #[.nilFunc, .int .i64 0, .nilFunc, .int .i64 0, .int .i64 0, .slice none 0 0] := by rw [hw2]; exact r1.alloc _
  have q2 : GSq w2 g (List.replicate p 0) := by rw [hw2]; exact Blk.alloc hsq _
  have z2 : Ints w2 w.heap.size A zs := by rw [hw2]; exact hz1.below ((Below.refl _ _).alloc hb0.size _)
  have b2 : Below w.heap.size w w2 := by rw [hw2]; exact hb0.alloc hb0.size _
  have hgs : ¬ w1.heap.size = g := by have := Blk.lt hsq; omega
  unfold gsqC at hw2
  rw [← hw2]
  obtain ⟨S, hS⟩ : ∃ S, S = w1.heap.size := ⟨_, rfl⟩
  rw [← hS] at v2 hgs
  rw [← hS]
  have V2 := Lib.hid v2
  have R2 := Lib.hid r2
  have Q2 := Lib.hid q2
  have B2 := Lib.hid b2
  clear hw2 hS v2 r2 q2 b2 m1 r1 hsq hb0 hc1 hz1 hz
  go_loopw [15] (fun i wr => ∃ (k : Nat) (cs : List Int), k ≤ p ∧ i = .int .i64 k ∧ Hid (cs.length = p) ∧ Hid (cs.take k = zs.take k) ∧ Hid (GSq wr g cs) ∧ Hid (w2.grownBy wr (some g))) (fun i _ => p - (intOf i).toNat)
  case atStart => exact ⟨0, List.replicate p 0, Nat.zero_le _, rfl, List.length_replicate, rfl, Q2, World.grownBy.refl _ _⟩
  case round =>
    obtain ⟨k, cs, hk, rfl, hcl, htk, hsq, hg2⟩ := hrel
    have hvr := (V2.out.grown hg2.out hgs)
    have hs2 := hvr.cell 5
    simp [gsqC] at hs2
    by_cases hlt : k < p
    · have hzr := ints_grown z2 hg2.out (by omega) B2.out.size
      obtain ⟨b, off, z, rfl, _, hc, hd, hgz⟩ := hzr.at_ (k := k) (by omega)
      have hcell := hsq.out.at_ (k := k) (by have := hcl.out; omega)
      have hfr := hsq.out.fz k
      have Q3 := Lib.hid (hsq.out.set_ k z)
      have G3 := Lib.hid (grow_trans hg2.out (grow_set wr g k (.int .i64 z)))
      have T3 := Lib.hid (set_prefix htk.out (by omega) (by have := hcl.out; omega) hgz)
      clear hd hgz hzr
      go_wp2_with fail
      go_roundw
      case rel => exact ⟨k + 1, cs.set k z, by omega, by go_num, by show _ = _; rw [List.length_set]; exact hcl.out, T3.out, Q3.out, G3.out⟩
      case measure => simp [intOf]; omega
    · have hrr := R2.out.grown hg2.out (by omega)
      obtain ⟨a0, a1, a2, a3, a4, a5⟩ := six_cells (show Blk wr S 40 #[_, _, _, _, _, _] from hvr)
      obtain ⟨d0, d1, d2, d3, d4, d5⟩ := six_cells hrr
      obtain ⟨f0, f1, f2, f3, f4, f5⟩ := six_frozen hrr
      have HRR := Lib.hid hrr
      have HZS : Hid (cs = zs) := by
        have h1 := htk.out
        have h2 := hcl.out
        show _ = _
        rwa [List.take_of_length_le (by omega), List.take_of_length_le (by omega)] at h1
      clear hrr hvr hs2
      go_wp2_with fail
      refine bodyPost_ret (results_1 rfl (Gives.row (g := w.heap.size + 1 + 1) rfl (blk_six HRR.out) Try.underlying40 rfl (by kernel_rfl))) rfl ?_
      refine ⟨g, rfl, ?_, by omega, ?_⟩
      · exact (B2.out.grown hg2.out B2.out.size (fun j hj => by cases hj; omega)).grown (grow_six _ _ _ _ _ _ _ _) (by have := hg2.out.size; have := B2.out.size; omega) (fun j hj => by cases hj; omega)
      · rw [← HZS.out]
        exact Blk.grown hsq.out (grow_six _ _ _ _ _ _ _ _) (by omega)
theorem gsq_eq (n : Nat) (x : Value) : gsqC n x = #[.func (.func 30) #[] #[], .int .i64 0, .func (.func 31) #[] #[], .int .i64 3, .int .i64 n, x] := rfl
theorem gunitL_at {n q : Nat} (hq : q < n * n) : (gunitL n).getD q 0 = if q / n = q % n then 0 else 3 := by
  unfold gunitL; rw [ofF_getD _ hq]; rfl
/-- What a row becomes behind a square. -/
def gbehindL (n : Nat) (F : Nat → Int) (zs : List Int) : List Int := (List.range n).map fun k => gdot F (fun l => zs.getD (l * n + k) 0) n
theorem gbehindL_len (n : Nat) (F : Nat → Int) (zs : List Int) : (gbehindL n F zs).length = n := by simp [gbehindL]
theorem gbehindL_at {n k : Nat} (F : Nat → Int) (zs : List Int) (hk : k < n) : (gbehindL n F zs).getD k 0 = gdot F (fun l => zs.getD (l * n + k) 0) n := by
  unfold gbehindL
  rw [List.getD_eq_getElem?_getD, List.getElem?_map, List.getElem?_range hk]
  rfl
theorem greater_is (a b v : Int) (w : World) (hv : max a b = v) :
    Calls Try.prog 30 #[.int .i64 a, .int .i64 b] w fun e w' => e = .returned (.int .i64 v) ∧ w = w' := by
  go_enter Try.func30, Try.ntmps30
  go_wp2
  all_goals
    go_ret
    exact ⟨ret_int (by omega), rfl⟩
theorem lesser_is (a b v : Int) (w : World) (hv : min a b = v) :
    Calls Try.prog 31 #[.int .i64 a, .int .i64 b] w fun e w' => e = .returned (.int .i64 v) ∧ w = w' := by
  go_enter Try.func31, Try.ntmps31
  go_wp2
  all_goals
    go_ret
    exact ⟨ret_int (by omega), rfl⟩
theorem gmulL_row (n : Nat) (zs ys : List Int) {i k : Nat} (hi : i < n) (hk : k < n) : (gmulL n zs ys).getD (i * n + k) 0 = gdot (fun l => zs.getD (i * n + l) 0) (fun l => ys.getD (l * n + k) 0) n := by
  unfold gmulL
  rw [ofF_getD _ (at_lt hi hk)]
  show gdot (fun l => zs.getD ((i * n + k) / n * n + l) 0) (fun l => ys.getD (l * n + (i * n + k) % n) 0) n = _
  rw [at_div hk, at_mod hk]
end Go.Proofs.Ytmdddjiegjcekaa
