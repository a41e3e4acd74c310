/- Sq. The methods of squares of costs: a matrix of one, what a row becomes, products, lesser ones, turned ones: each the plain function of its numbers, in new memory; nothing that was there changes. Lesser squares, turned ones, units: each the plain function of its numbers, in new memory; nothing that was there changes. The unit square, and squares turned: each the plain function of its numbers, in new memory; nothing that was there changes. Squares turned: the plain function of their numbers, in new memory; nothing that was there changes. -/
import Derived.Test.YtjhaegkefagngaaGreatDoorMats
import Derived.Laws.EntriesVeiled
import Derived.IntWalk
import Derived.Deep.OwnRows
import Derived.Deep.RegionHeld3
import Derived.Laws.CopyOwn
import Derived.Deep.LoopGhost
namespace Go.Proofs.YtjhaegkefagngaaGreatDoor
open Go.RowKit
set_option maxHeartbeats 1000000
set_option linter.unusedVariables false
theorem w64_nat {p : Nat} (h : p < 9223372036854775808) : wrap64 (p : Int) = (p : Int) := by unfold wrap64; omega
/-- The semiring of costs as a value. -/
def ringV : Array Value := #[.func (.func 65) #[] #[], .int .i64 0, .func (.func 66) #[] #[], .int .i64 1000000]
theorem costRing_any (w : World) :
    Calls Tryz.prog 37 #[] w fun e w' => e = .returned (.agg ringV) ∧ Below w.heap.size w w' := by
  go_enter Tryz.func37, Tryz.ntmps37
  go_wp2
  refine bodyPost_ret (results_1 rfl (Gives.row (g := w.heap.size) rfl (Blk.new _ _ _) Tryz.underlying58 rfl (by kernel_rfl))) rfl ?_
  exact ⟨rfl, below_a1 _ _⟩
theorem rowOf_is (b off n cap i s p : Nat) (s1 : 1 ≤ s) (s2 : s ≤ 4) (hi : i < s) (hp : p = i * s) (hc : p + s ≤ cap) (w : World) :
    Calls Tryz.prog 87 #[.slice (some ⟨b, off, none⟩) n cap, .int .i64 s, .int .i64 i] w fun e w' => e = .returned (.slice (some ⟨b, off + p, none⟩) s s) ∧ w = w' := by
  have p1 : p ≤ 16 := by
    rw [hp]
    calc i * s ≤ 4 * 4 := Nat.mul_le_mul (by omega) s2
      _ = 16 := rfl
  have h1 : wrap64 ((i : Int) * (s : Int)) = (p : Int) := by rw [← Int.natCast_mul, ← hp]; exact w64_nat (by omega)
  have h2 : wrap64 (((i : Int) + 1) * (s : Int)) = ((p + s : Nat) : Int) := by
    have e : ((i : Int) + 1) * (s : Int) = ((p + s : Nat) : Int) := by rw [Int.add_mul, Int.one_mul, ← Int.natCast_mul, ← hp]; simp
    rw [e]; exact w64_nat (by omega)
  obtain ⟨q, hq⟩ : ∃ q, q = p + s := ⟨_, rfl⟩
  rw [← hq] at h2
  have H1 := Lib.hid h1
  have c1 : (0 : Int) ≤ (q : Int) := by omega
  have c2 : (q : Int) ≤ (cap : Int) := by omega
  have c3 : (p : Int) ≤ (q : Int) := by omega
  have c4 : (0 : Int) ≤ (p : Int) := by omega
  have c5 : ¬ q = p := by omega
  have c6 : q - p = s := by omega
  clear H1 hp hc hq
  go_enter Tryz.func87, Tryz.ntmps87
  go_wp2
  go_ret
  exact ⟨rfl, rfl⟩

theorem info_cost : (Tryz.prog.info? 56).map (fun i => (i.zero, i.size, i.bytes)) = some (some (.int .i64 0), 1, 8) := by kernel_rfl
/-- A square as a value: the semiring of costs, its size, its numbers' slice. -/
def sqV (n : Nat) (x : Value) : Value := .agg #[.func (.func 65) #[] #[], .int .i64 0, .func (.func 66) #[] #[], .int .i64 1000000, .int .i64 n, x]
def sqC (n : Nat) (x : Value) : Array Value := #[.func (.func 65) #[] #[], .int .i64 0, .func (.func 66) #[] #[], .int .i64 1000000, .int .i64 n, x]
theorem sqV_eq (n : Nat) (x : Value) : sqV n x = .agg (sqC n x) := rfl
/-- A block of numbers known whole. -/
def Nm (w : World) (g : Nat) (t : TypeId) (zs : List Int) : Prop := Blk w g t (zs.map (Value.int .i64)).toArray
abbrev Sq (w : World) (g : Nat) (zs : List Int) : Prop := Nm w g 56 zs
theorem Nm.ints {w : World} {g : Nat} {t : TypeId} {zs : List Int} (h : Nm w g t zs) (hm : zs.length ≤ 1048577) : Ints w w.heap.size (some ⟨g, 0, none⟩) zs :=
  ⟨by unfold maxLen; omega, fun _ => ⟨g, 0, rfl, h.lt, fun k hk => by
    rw [Nat.zero_add, Blk.cell h k, List.getElem?_toArray, List.getElem?_map, List.getElem?_eq_getElem hk, List.getD_eq_getElem?_getD, List.getElem?_eq_getElem hk]; rfl⟩⟩
theorem Nm.below {w w' : World} {g : Nat} {t : TypeId} {zs : List Int} (h : Nm w g t zs) (hb : Below w.heap.size w w') : Nm w' g t zs := Blk.below h hb (Blk.lt h)
theorem Nm.set_ {w : World} {g : Nat} {t : TypeId} {zs : List Int} (h : Nm w g t zs) (k : Nat) (v : Int) : Nm (w.setCell ⟨g, k, none⟩ (.int .i64 v)) g t (zs.set k v) := by
  have h2 := Blk.set_ h k (.int .i64 v)
  unfold Nm
  rw [List.map_set]
  simpa using h2
theorem Nm.at_ {w : World} {g : Nat} {t : TypeId} {zs : List Int} (h : Nm w g t zs) {k : Nat} (hk : k < zs.length) : w.cell? ⟨g, k, none⟩ = some (.int .i64 (zs.getD k 0)) := by
  rw [Blk.cell h k, List.getElem?_toArray, List.getElem?_map, List.getElem?_eq_getElem hk, List.getD_eq_getElem?_getD, List.getElem?_eq_getElem hk]; rfl
theorem Nm.fz {w : World} {g : Nat} {t : TypeId} {zs : List Int} (h : Nm w g t zs) (k : Nat) : w.frozen? ⟨g, k, none⟩ = false := Blk.frozen h k
theorem Nm.own {w : World} {g base : Nat} {t : TypeId} {zs : List Int} (h : Nm w g t zs) (hb : base ≤ g) (hm : zs.length ≤ 1048577) : w.ownsRow base t 1 (.slice (some ⟨g, 0, none⟩) zs.length zs.length) zs.length (zs.map (Value.int .i64)) :=
  ⟨by simp, Or.inr ⟨g, zs.length, _, rfl, hb, h, Nat.le_refl _, by unfold maxLen; omega, by simp, by simp only [Nat.mul_one]; exact List.take_of_length_le (by simp)⟩⟩
theorem made_zero (p : Nat) : madeCells #[Value.int .i64 0] p = ((List.replicate p (0 : Int)).map (Value.int .i64)).toArray := by
  apply Array.ext
  · simp [size_madeCells]
  · intro i h1 h2
    simp [madeCells, Nat.mod_one]
theorem newSquare_any (n p : Nat) (w : World) (n1 : 1 ≤ n) (n2 : n ≤ 4) (hp : p = n * n) :
    Calls Tryz.prog 57 #[.agg ringV, .int .i64 n] w fun e w' => ∃ g, e = .returned (sqV n (.slice (some ⟨g, 0, none⟩) p p)) ∧ Below w.heap.size w w' ∧ w.heap.size ≤ g ∧ Sq w' g (List.replicate p 0) := by
  have p1 : p ≤ 16 := by
    rw [hp]
    calc n * n ≤ 4 * 4 := Nat.mul_le_mul n2 n2
      _ = 16 := rfl
  have h1 : wrap64 ((n : Int) * (n : Int)) = (p : Int) := by rw [← Int.natCast_mul, ← hp]; exact w64_nat (by omega)
  clear hp
  have hmk : ∀ w : World, (Instr.makeSlice 59 (.int .i64 (p : Int)) (.int .i64 (p : Int))).run Tryz.prog w = .ok (.slice (some ⟨w.heap.size, 0, none⟩) p p) (w.alloc (.cells (madeCells #[.int .i64 0] p) 56)) :=
    fun w => run_make_row' 59 56 (.int .i64 0) 8 Tryz.underlying59 info_cost rfl .i64 .i64 p (by omega) (by omega) w
  unfold ringV
  go_enter Tryz.func57, Tryz.ntmps57
  go_wp2_with fail
  go_region
  go_wp2_with fail
  refine bodyPost_ret (results_1 rfl (Gives.row (g := w.heap.size + 1) rfl (((blk_new (by simp)).alloc _).drewN 1) Tryz.underlying61 rfl (by kernel_rfl))) rfl ?_
  refine ⟨w.heap.size + 1 + 1, rfl, below_dr (below_a3 _ _ _ _) 1, by omega, ?_⟩
  show Blk _ _ _ _
  rw [← made_zero]
  exact (blk_new (by simp)).drewN 1

theorem row_is (g n cap i p : Nat) (n1 : 1 ≤ n) (n2 : n ≤ 4) (hi : i < n) (hp : p = i * n) (hc : p + n ≤ cap) (w : World) :
    Calls Tryz.prog 58 #[sqV n (.slice (some ⟨g, 0, none⟩) cap cap), .int .i64 i] w fun e w' => e = .returned (.slice (some ⟨g, p, none⟩) n n) ∧ Below w.heap.size w w' := by
  have HP := Lib.hid hp
  clear hp
  unfold sqV
  go_enter Tryz.func58, Tryz.ntmps58
  go_wp2_with fail
  refine (rowOf_is g 0 cap cap i n p n1 n2 hi HP.out hc _).mono ?_
  rintro e w' ⟨rfl, rfl⟩
  rw [Nat.zero_add]
  go_wp2_with fail
  go_ret
  exact ⟨rfl, below_a1 _ _⟩

theorem Blk.grown {w w' : World} {g j : Nat} {t : TypeId} {cs : Array Value} (h : Blk w j t cs) (hg : w.grownBy w' (some g)) (hne : ¬ j = g) : Blk w' j t cs :=
  (hg.block j h.lt (fun e => hne (Option.some.inj e))).trans h
theorem grow_below_any {w w' : World} (h : Below w.heap.size w w') (r : Option Nat) : w.grownBy w' r := ⟨h.os, h.tape, h.output, h.size, fun k hk _ => h.block k hk⟩
theorem ints_grown {w w' : World} {g : Nat} {B : Nat} {A : Option Addr} {zs : List Int} (h : Ints w B A zs) (hg : w.grownBy w' (some g)) (hB : B ≤ g) (hs : B ≤ w.heap.size) : Ints w' B A zs :=
  h.below (grow_below hg hB hs)
theorem grow_six (w : World) (g : Nat) (v0 v1 v2 v3 v4 v5 : Value) : w.grownBy (((((((w.setCell ⟨g, 0, none⟩ v0).setCell ⟨g, 1, none⟩ v1).setCell ⟨g, 2, none⟩ v2).setCell ⟨g, 3, none⟩ v3).setCell ⟨g, 4, none⟩ v4).setCell ⟨g, 5, none⟩ v5)) (some g) :=
  grow_trans (grow_trans (grow_trans (grow_trans (grow_trans (grow_set w g 0 v0) (grow_set _ g 1 v1)) (grow_set _ g 2 v2)) (grow_set _ g 3 v3)) (grow_set _ g 4 v4)) (grow_set _ g 5 v5)
theorem blk_six {w : World} {g : Nat} {t : TypeId} {u0 u1 u2 u3 u4 u5 v0 v1 v2 v3 v4 v5 : Value} (h : Blk w g t #[u0, u1, u2, u3, u4, u5]) : Blk (((((((w.setCell ⟨g, 0, none⟩ v0).setCell ⟨g, 1, none⟩ v1).setCell ⟨g, 2, none⟩ v2).setCell ⟨g, 3, none⟩ v3).setCell ⟨g, 4, none⟩ v4).setCell ⟨g, 5, none⟩ v5)) g t #[v0, v1, v2, v3, v4, v5] :=
  (((((h.set_ 0 v0).set_ 1 v1).set_ 2 v2).set_ 3 v3).set_ 4 v4).set_ 5 v5
theorem six_cells {w : World} {g : Nat} {t : TypeId} {u0 u1 u2 u3 u4 u5 : Value} (h : Blk w g t #[u0, u1, u2, u3, u4, u5]) :
    w.cell? ⟨g, 0, none⟩ = some u0 ∧ w.cell? ⟨g, 1, none⟩ = some u1 ∧ w.cell? ⟨g, 2, none⟩ = some u2 ∧ w.cell? ⟨g, 3, none⟩ = some u3 ∧ w.cell? ⟨g, 4, none⟩ = some u4 ∧ w.cell? ⟨g, 5, none⟩ = some u5 :=
  ⟨h.cell 0, h.cell 1, h.cell 2, h.cell 3, h.cell 4, h.cell 5⟩
theorem six_frozen {w : World} {g : Nat} {t : TypeId} {cs : Array Value} (h : Blk w g t cs) :
    w.frozen? ⟨g, 0, none⟩ = false ∧ w.frozen? ⟨g, 1, none⟩ = false ∧ w.frozen? ⟨g, 2, none⟩ = false ∧ w.frozen? ⟨g, 3, none⟩ = false ∧ w.frozen? ⟨g, 4, none⟩ = false ∧ w.frozen? ⟨g, 5, none⟩ = false :=
  ⟨h.frozen 0, h.frozen 1, h.frozen 2, h.frozen 3, h.frozen 4, h.frozen 5⟩
theorem set_prefix {k : Nat} {cs zs : List Int} {z : Int} (h : cs.take k = zs.take k) (hk : k < zs.length) (hl : cs.length = zs.length) (hz : zs.getD k 0 = z) : (cs.set k z).take (k + 1) = zs.take (k + 1) := by
  rw [take_set_snoc _ _ _ (by omega), h, List.take_succ_eq_append_getElem hk]
  rw [List.getD_eq_getElem?_getD, List.getElem?_eq_getElem hk] at hz
  rw [← hz]; rfl

theorem squareOf_any (n p cap : Nat) (A : Option Addr) (zs : List Int) (w : World) (n1 : 1 ≤ n) (n2 : n ≤ 4) (hp : p = n * n) (hl : zs.length = p) (hz : Ints w w.heap.size A zs) :
    Calls Tryz.prog 51 #[.agg ringV, .agg #[.int .i64 n, .slice A p cap]] w fun e w' => ∃ g, e = .returned (sqV n (.slice (some ⟨g, 0, none⟩) p p)) ∧ Below w.heap.size w w' ∧ w.heap.size ≤ g ∧ Sq w' g zs := by
  have p1 : p ≤ 16 := by
    rw [hp]
    calc n * n ≤ 4 * 4 := Nat.mul_le_mul n2 n2
      _ = 16 := rfl
  have HP := Lib.hid hp
  clear hp
  unfold ringV
  go_enter Tryz.func51, Tryz.ntmps51
  go_wp2_with fail
  refine (newSquare_any n p _ n1 n2 HP.out).mono ?_
  rintro e w1 ⟨g, rfl, hb1, hg1, hsq⟩
  unfold sqV
  have m1 : Blk w1 (w.heap.size + 1) 30 #[.int .i64 n, .slice A p cap] := ((blk_new (by simp)).alloc _).below hb1 (by simp)
  have r1 : Blk w1 (w.heap.size + 1 + 1) 61 #[.nilFunc, .int .i64 0, .nilFunc, .int .i64 0, .int .i64 0, .slice none 0 0] := (blk_new (by simp)).below hb1 (by simp)
  have hgr : w.heap.size + 1 + 1 < g := by simp at hg1; omega
  have hb0 := below_on (below_a3 w _ _ _) hb1
  have hc1 : ∀ o, (w1.alloc o).cell? ⟨w.heap.size + 1, 1, none⟩ = some (.slice A p cap) := fun o => (m1.alloc o).cell 1
  have hz1 := (hz.below hb0)
  clear hb1 hg1
  go_wp2_with fail
  obtain ⟨w2, hw2⟩ : ∃ w2, w2 = w1.alloc (.cells (sqC n (.slice (some ⟨g, 0, none⟩) p p)) 61) := ⟨_, rfl⟩
  have v2 : Blk w2 w1.heap.size 61 (sqC n (.slice (some ⟨g, 0, none⟩) p p)) := by rw [hw2]; exact Blk.new _ _ _
  have r2 : Blk w2 (w.heap.size + 1 + 1) 61 #[.nilFunc, .int .i64 0, .nilFunc, .int .i64 0, .int .i64 0, .slice none 0 0] := by rw [hw2]; exact r1.alloc _
  have q2 : Sq w2 g (List.replicate p 0) := by rw [hw2]; exact Blk.alloc hsq _
  have z2 : Ints w2 w.heap.size A zs := by rw [hw2]; exact hz1.below ((Below.refl _ _).alloc hb0.size _)
  have b2 : Below w.heap.size w w2 := by rw [hw2]; exact hb0.alloc hb0.size _
  have hgs : ¬ w1.heap.size = g := by have := Blk.lt hsq; omega
  unfold sqC at hw2
  rw [← hw2]
  obtain ⟨S, hS⟩ : ∃ S, S = w1.heap.size := ⟨_, rfl⟩
  rw [← hS] at v2 hgs
  rw [← hS]
  have V2 := Lib.hid v2
  have R2 := Lib.hid r2
  have Q2 := Lib.hid q2
  have B2 := Lib.hid b2
  clear hw2 hS v2 r2 q2 b2 m1 r1 hsq hb0 hc1 hz1 hz
  go_loopw [15] (fun i wr => ∃ (k : Nat) (cs : List Int), k ≤ p ∧ i = .int .i64 k ∧ Hid (cs.length = p) ∧ Hid (cs.take k = zs.take k) ∧ Hid (Sq wr g cs) ∧ Hid (w2.grownBy wr (some g))) (fun i _ => p - (intOf i).toNat)
  case atStart => exact ⟨0, List.replicate p 0, Nat.zero_le _, rfl, List.length_replicate, rfl, Q2, World.grownBy.refl _ _⟩
  case round =>
    obtain ⟨k, cs, hk, rfl, hcl, htk, hsq, hg2⟩ := hrel
    have hvr := (V2.out.grown hg2.out hgs)
    have hs2 := hvr.cell 5
    simp [sqC] at hs2
    by_cases hlt : k < p
    · have hzr := ints_grown z2 hg2.out (by omega) B2.out.size
      obtain ⟨b, off, z, rfl, _, hc, hd, hgz⟩ := hzr.at_ (k := k) (by omega)
      have hcell := hsq.out.at_ (k := k) (by have := hcl.out; omega)
      have hfr := hsq.out.fz k
      have Q3 := Lib.hid (hsq.out.set_ k z)
      have G3 := Lib.hid (grow_trans hg2.out (grow_set wr g k (.int .i64 z)))
      have T3 := Lib.hid (set_prefix htk.out (by omega) (by have := hcl.out; omega) hgz)
      clear hd hgz hzr
      go_wp2_with fail
      go_roundw
      case rel => exact ⟨k + 1, cs.set k z, by omega, by go_num, by show _ = _; rw [List.length_set]; exact hcl.out, T3.out, Q3.out, G3.out⟩
      case measure => simp [intOf]; omega
    · have hrr := R2.out.grown hg2.out (by omega)
      obtain ⟨a0, a1, a2, a3, a4, a5⟩ := six_cells (show Blk wr S 61 #[_, _, _, _, _, _] from hvr)
      obtain ⟨d0, d1, d2, d3, d4, d5⟩ := six_cells hrr
      obtain ⟨f0, f1, f2, f3, f4, f5⟩ := six_frozen hrr
      have HRR := Lib.hid hrr
      have HZS : Hid (cs = zs) := by
        have h1 := htk.out
        have h2 := hcl.out
        show _ = _
        rwa [List.take_of_length_le (by omega), List.take_of_length_le (by omega)] at h1
      clear hrr hvr hs2
      go_wp2_with fail
      refine bodyPost_ret (results_1 rfl (Gives.row (g := w.heap.size + 1 + 1) rfl (blk_six HRR.out) Tryz.underlying61 rfl (by kernel_rfl))) rfl ?_
      refine ⟨g, rfl, ?_, by omega, ?_⟩
      · exact (B2.out.grown hg2.out B2.out.size (fun j hj => by cases hj; omega)).grown (grow_six _ _ _ _ _ _ _ _) (by have := hg2.out.size; have := B2.out.size; omega) (fun j hj => by cases hj; omega)
      · rw [← HZS.out]
        exact Blk.grown hsq.out (grow_six _ _ _ _ _ _ _ _) (by omega)
end Go.Proofs.YtjhaegkefagngaaGreatDoor
namespace Go.Proofs.YtjhaegkefagngaaGreatDoor
open Go.RowKit
set_option maxHeartbeats 1000000
set_option linter.unusedVariables false

theorem info_int' : (Tryz.prog.info? 3).map (fun i => (i.zero, i.size, i.bytes)) = some (some (.int .i64 0), 1, 8) := by kernel_rfl
theorem sq_eq (n : Nat) (x : Value) : sqC n x = #[.func (.func 65) #[] #[], .int .i64 0, .func (.func 66) #[] #[], .int .i64 1000000, .int .i64 n, x] := rfl

theorem matrix_any (n p g : Nat) (zs : List Int) (w : World) (hp : Hid (p = zs.length)) (p1 : p ≤ 16) (hq : Sq w g zs) :
    Calls Tryz.prog 24 #[sqV n (.slice (some ⟨g, 0, none⟩) p p)] w fun e w' => ∃ v, e = .returned v ∧ MatOwn w' w.heap.size v n zs ∧ Below w.heap.size w w' := by
  have hmk : ∀ w : World, (Instr.makeSlice 23 (.int .i64 (p : Int)) (.int .i64 (p : Int))).run Tryz.prog w = .ok (.slice (some ⟨w.heap.size, 0, none⟩) p p) (w.alloc (.cells (madeCells #[.int .i64 0] p) 3)) :=
    fun w => run_make_row' 23 3 (.int .i64 0) 8 Tryz.underlying23 info_int' rfl .i64 .i64 p (by omega) (by omega) w
  have hgw := Blk.lt hq
  unfold sqV
  go_enter Tryz.func24, Tryz.ntmps24
  go_wp2
  obtain ⟨w2, hw2⟩ : ∃ w2, w2 = ((w.alloc (.cells (sqC n (.slice (some ⟨g, 0, none⟩) p p)) 61)).alloc (.cells #[.int .i64 0, .slice none 0 0] 30)).alloc (.cells (madeCells #[.int .i64 0] p) 3) := ⟨_, rfl⟩
  have v2 : Blk w2 w.heap.size 61 (sqC n (.slice (some ⟨g, 0, none⟩) p p)) := by rw [hw2]; exact ((Blk.new _ _ _).alloc _).alloc _
  have r2 : Blk w2 (w.heap.size + 1) 30 #[.int .i64 0, .slice none 0 0] := by rw [hw2]; exact (blk_new (by simp)).alloc _
  have q2 : Nm w2 (w.heap.size + 1 + 1) 3 (List.replicate p 0) := by
    rw [hw2]
    show Blk _ _ _ _
    rw [← made_zero]
    exact blk_new (by simp)
  have b2 : Below w.heap.size w w2 := by rw [hw2]; exact below_a3 _ _ _ _
  have z2 : Ints w2 w.heap.size (some ⟨g, 0, none⟩) zs := by rw [hw2]; exact (hq.ints (by have := hp.out; omega)).below (below_a3 _ _ _ _)
  unfold sqC at hw2
  rw [← hw2]
  have V2 := Lib.hid v2
  have R2 := Lib.hid r2
  have Q2 := Lib.hid q2
  have B2 := Lib.hid b2
  have hs1 : w.heap.size + 1 + 1 < w2.heap.size := Blk.lt q2
  clear hw2 v2 r2 q2 b2 hmk
  go_loopw [13] (fun i wr => ∃ (k : Nat) (cs : List Int), k ≤ p ∧ i = .int .i64 k ∧ Hid (cs.length = p) ∧ Hid (cs.take k = zs.take k) ∧ Hid (Nm wr (w.heap.size + 1 + 1) 3 cs) ∧ Hid (w2.grownBy wr (some (w.heap.size + 1 + 1)))) (fun i _ => p - (intOf i).toNat)
  case atStart => exact ⟨0, List.replicate p 0, Nat.zero_le _, rfl, List.length_replicate, rfl, Q2, World.grownBy.refl _ _⟩
  case round =>
    obtain ⟨k, cs, hk, rfl, hcl, htk, hsq, hg2⟩ := hrel
    by_cases hlt : k < p
    · have hzr := ints_grown z2 hg2.out (by omega) (by omega)
      obtain ⟨b, off, z, e0, _, hc, hd, hgz⟩ := hzr.at_ (k := k) (by have := hp.out; omega)
      cases e0
      rw [Nat.zero_add] at hc
      have hcell := hsq.out.at_ (k := k) (by have := hcl.out; omega)
      have hfr := hsq.out.fz k
      have Q3 := Lib.hid (hsq.out.set_ k z)
      have G3 := Lib.hid (grow_trans hg2.out (grow_set wr (w.heap.size + 1 + 1) k (.int .i64 z)))
      have T3 := Lib.hid (set_prefix htk.out (by have := hp.out; omega) (by have := hcl.out; have := hp.out; omega) hgz)
      clear hd hgz hzr
      go_wp2_with fail
      go_roundw
      case rel => exact ⟨k + 1, cs.set k z, by omega, by go_num, by show _ = _; rw [List.length_set]; exact hcl.out, T3.out, Q3.out, G3.out⟩
      case measure => simp [intOf]; omega
    · have hvr := V2.out.grown hg2.out (by omega)
      have hrr := R2.out.grown hg2.out (by omega)
      obtain ⟨a0, a1, a2, a3, a4, a5⟩ := six_cells (show Blk wr w.heap.size 61 #[_, _, _, _, _, _] from hvr)
      have d0 := hrr.cell 0
      have d1 := hrr.cell 1
      have f0 := hrr.frozen 0
      have f1 := hrr.frozen 1
      simp at d0 d1
      have HRR := Lib.hid ((hrr.set_ 0 (.int .i64 n)).set_ 1 (.slice (some ⟨w.heap.size + 1 + 1, 0, none⟩) p p))
      have GR := Lib.hid (grow_trans (grow_set wr (w.heap.size + 1) 0 (.int .i64 n)) (grow_set _ (w.heap.size + 1) 1 (.slice (some ⟨w.heap.size + 1 + 1, 0, none⟩) p p)))
      have HZS : Hid (cs = zs) := by
        have h1 := htk.out
        have h2 := hcl.out
        have h3 := hp.out
        show _ = _
        rwa [List.take_of_length_le (by omega), List.take_of_length_le (by omega)] at h1
      clear hrr hvr
      go_wp2_with fail
      refine bodyPost_ret (results_1 rfl (gives_mat (g := w.heap.size + 1) rfl HRR.out)) rfl ?_
      refine ⟨_, rfl, ⟨_, rfl, ?_, by have := hp.out; omega⟩, ?_⟩
      · have h := Nm.own (base := w.heap.size) (show Nm _ _ _ _ from Blk.grown hsq.out GR.out (by omega)) (by omega) (by have := hcl.out; omega)
        rw [hcl.out, HZS.out] at h
        rw [← hp.out]
        exact h
      · exact (B2.out.grown hg2.out B2.out.size (fun j hj => by cases hj; omega)).grown GR.out (by have := hg2.out.size; have := B2.out.size; omega) (fun j hj => by cases hj; omega)
end Go.Proofs.YtjhaegkefagngaaGreatDoor
namespace Go.Proofs.YtjhaegkefagngaaGreatDoor
open Go.RowKit
set_option maxHeartbeats 1000000
set_option linter.unusedVariables false

theorem grow_drew (w : World) (r : Option Nat) : w.grownBy w.drew r := ⟨rfl, rfl, rfl, Nat.le_refl _, fun _ _ _ => rfl⟩
theorem ringMin_any (a b : Int) (w : World) :
    Calls Tryz.prog 66 #[.int .i64 a, .int .i64 b] w fun e w' => e = .returned (.int .i64 (min a b)) ∧ w = w' := by
  go_enter Tryz.func66, Tryz.ntmps66
  go_wp2
  all_goals
    go_ret
    exact ⟨ret_int (by omega), rfl⟩

end Go.Proofs.YtjhaegkefagngaaGreatDoor
namespace Go.Proofs.YtjhaegkefagngaaGreatDoor
open Go.RowKit
set_option maxHeartbeats 1000000
set_option linter.unusedVariables false
theorem getD_set (cs : List Int) (j q : Nat) (v : Int) (hj : j < cs.length) : (cs.set j v).getD q 0 = if q = j then v else cs.getD q 0 := by
  rw [List.getD_eq_getElem?_getD, List.getElem?_set]
  by_cases h : j = q
  · subst h; simp [hj]
  · rw [if_neg h, if_neg (fun e => h e.symm), List.getD_eq_getElem?_getD]
theorem eq_of_getD {xs ys : List Int} (hl : xs.length = ys.length) (h : ∀ q, q < xs.length → xs.getD q 0 = ys.getD q 0) : xs = ys := by
  apply List.ext_getElem hl
  intro q h1 h2
  have := h q h1
  rwa [List.getD_eq_getElem?_getD, List.getElem?_eq_getElem h1, List.getD_eq_getElem?_getD, List.getElem?_eq_getElem h2] at this
theorem unitL_at {n q : Nat} (hq : q < n * n) : (unitL n).getD q 0 = if q / n = q % n then 0 else 1000000 := by
  unfold unitL; rw [ofF_getD _ hq]; rfl
theorem grown_dr {w w' : World} {r : Option Nat} (h : w.grownBy w' r) (m : Nat) : w.grownBy (w'.drewN m) r := ⟨h.os, h.tape, h.output, h.size, h.block⟩

theorem unitSquare_any (n p : Nat) (w : World) (n1 : 1 ≤ n) (n2 : n ≤ 4) (hp : Hid (p = n * n)) (p1 : p ≤ 16) :
    Calls Tryz.prog 36 #[.agg ringV, .int .i64 n] w fun e w' => ∃ g, e = .returned (sqV n (.slice (some ⟨g, 0, none⟩) p p)) ∧ Below w.heap.size w w' ∧ w.heap.size ≤ g ∧ Sq w' g (unitL n) := by
  unfold ringV
  go_enter Tryz.func36, Tryz.ntmps36
  go_wp2_with fail
  refine (newSquare_any n p _ n1 n2 hp.out).mono ?_
  rintro e w1 ⟨g, rfl, hb1, hg1, hsq⟩
  unfold sqV
  have sA : Blk w1 w.heap.size 58 ringV := ((Blk.new w _ _).alloc _).below hb1 (by simp; omega)
  have rA : Blk w1 (w.heap.size + 1) 61 #[.nilFunc, .int .i64 0, .nilFunc, .int .i64 0, .int .i64 0, .slice none 0 0] := (blk_new (by simp)).below hb1 (by simp)
  have hgr : w.heap.size + 1 < g := by simp at hg1; omega
  have hb0 := below_on (below_a2 w _ _) hb1
  clear hb1 hg1
  go_wp2_with fail
  obtain ⟨w2, hw2⟩ : ∃ w2, w2 = w1.alloc (.cells (sqC n (.slice (some ⟨g, 0, none⟩) p p)) 61) := ⟨_, rfl⟩
  have v2 : Blk w2 w1.heap.size 61 (sqC n (.slice (some ⟨g, 0, none⟩) p p)) := by rw [hw2]; exact Blk.new _ _ _
  have r2 : Blk w2 (w.heap.size + 1) 61 #[.nilFunc, .int .i64 0, .nilFunc, .int .i64 0, .int .i64 0, .slice none 0 0] := by rw [hw2]; exact rA.alloc _
  have s2 : Blk w2 w.heap.size 58 ringV := by rw [hw2]; exact sA.alloc _
  have q2 : Sq w2 g (List.replicate p 0) := by rw [hw2]; exact Blk.alloc hsq _
  have b2 : Below w.heap.size w w2 := by rw [hw2]; exact hb0.alloc hb0.size _
  have hgs : ¬ w1.heap.size = g := by have := Blk.lt hsq; omega
  unfold sqC at hw2
  rw [← hw2]
  obtain ⟨S, hS⟩ : ∃ S, S = w1.heap.size := ⟨_, rfl⟩
  rw [← hS] at v2 hgs
  rw [← hS]
  have V2 := Lib.hid v2
  have R2 := Lib.hid r2
  have S2 := Lib.hid s2
  have Q2 := Lib.hid q2
  have B2 := Lib.hid b2
  have HL : Hid ((unitL n).length = p) := by show _ = _; unfold unitL; rw [ofF_len, hp.out]
  clear hw2 hS v2 r2 s2 q2 b2 sA rA hsq hb0
  go_loopg [13] n (fun gh i wr => ∃ (r : Nat) (cs : List Int), r ≤ n ∧ gh = n - r ∧ i = .int .i64 r ∧ Hid (cs.length = p) ∧ Hid (∀ q, q < r * n → cs.getD q 0 = (unitL n).getD q 0) ∧ Hid (Sq wr g cs) ∧ Hid (w2.grownBy wr (some g)))
  case atStart => exact ⟨0, List.replicate p 0, Nat.zero_le _, rfl, rfl, List.length_replicate, (fun q hq => by rw [Nat.zero_mul] at hq; omega), Q2, World.grownBy.refl _ _⟩
  case round =>
    obtain ⟨r, cs, hr, rfl, rfl, hcl, hpre, hsq, hg2⟩ := hrel
    by_cases hlt : r < n
    · obtain ⟨a0, a1, a2, a3, a4, a5⟩ := six_cells (show Blk wr S 61 #[_, _, _, _, _, _] from V2.out.grown hg2.out hgs)
      obtain ⟨P, hP⟩ : ∃ P, P = r * n := ⟨_, rfl⟩
      have hPn : P + n ≤ p := by
        have : (r + 1) * n ≤ n * n := Nat.mul_le_mul_right n hlt
        rw [Nat.succ_mul] at this
        rw [hP, hp.out]; exact this
      have HP := Lib.hid hP
      clear hP
      go_wp2_with fail
      refine (row_is g n p r P n1 n2 hlt HP.out hPn _).mono ?_
      rintro e w3 ⟨rfl, hb3⟩
      have G3 := Lib.hid (grow_trans hg2.out (grow_below_any hb3 (some g)))
      have Q3 := Lib.hid (Nm.below hsq.out hb3)
      clear hb3 a0 a1 a2 a3 a4 a5
      go_wp2_with fail
      go_loopg [21] n (fun gi i wi => ∃ (c : Nat) (ds : List Int), c ≤ n ∧ gi = n - c ∧ i = .int .i64 c ∧ Hid (ds.length = p) ∧ Hid (∀ q, q < P → ds.getD q 0 = (unitL n).getD q 0) ∧ Hid (∀ q, P ≤ q → q < P + c → ds.getD q 0 = 1000000) ∧ Hid (Sq wi g ds) ∧ Hid (w2.grownBy wi (some g)))
      case atStart => exact ⟨0, cs, Nat.zero_le _, rfl, rfl, hcl, (fun q hq => hpre.out q (by rw [← HP.out]; exact hq)), (fun q h1 h2 => by omega), Q3, G3⟩
      case round =>
        obtain ⟨c, ds, hc, rfl, rfl, hdl, hd1, hd2, hsq2, hg3⟩ := hrel
        by_cases hlc : c < n
        · have e3 := (S2.out.grown hg3.out (by omega)).cell 3
          simp [ringV] at e3
          have hcell := hsq2.out.at_ (k := P + c) (by have := hdl.out; omega)
          have hfr := hsq2.out.fz (P + c)
          have Q4 := Lib.hid (hsq2.out.set_ (P + c) 1000000)
          have G4 := Lib.hid (grow_trans hg3.out (grow_set wr g (P + c) (.int .i64 1000000)))
          have D1 : Hid (∀ q, q < P → (ds.set (P + c) 1000000).getD q 0 = (unitL n).getD q 0) := fun q hq => by rw [getD_set _ _ _ _ (by have := hdl.out; omega), if_neg (by omega)]; exact hd1.out q hq
          have D2 : Hid (∀ q, P ≤ q → q < P + (c + 1) → (ds.set (P + c) 1000000).getD q 0 = 1000000) := fun q h1 h2 => by
            rw [getD_set _ _ _ _ (by have := hdl.out; omega)]
            by_cases e : q = P + c
            · rw [if_pos e]
            · rw [if_neg e]; exact hd2.out q h1 (by omega)
          go_wp2_with fail
          go_roundg (n - (c + 1))
          case rel => exact ⟨c + 1, ds.set (P + c) 1000000, by omega, rfl, by go_num, by show _ = _; rw [List.length_set]; exact hdl.out, D1, D2, Q4, G4⟩
          case measure => omega
        · obtain rfl : c = n := by omega
          have e1 := (S2.out.grown hg3.out (by omega)).cell 1
          simp [ringV] at e1
          have hcell := hsq2.out.at_ (k := P + r) (by have := hdl.out; omega)
          have hfr := hsq2.out.fz (P + r)
          have Q4 := Lib.hid (hsq2.out.set_ (P + r) 0)
          have G4 := Lib.hid (grow_trans hg3.out (grow_set wr g (P + r) (.int .i64 0)))
          have D1 : Hid (∀ q, q < (r + 1) * c → (ds.set (P + r) 0).getD q 0 = (unitL c).getD q 0) := fun q hq => by
            rw [Nat.succ_mul, ← HP.out] at hq
            rw [getD_set _ _ _ _ (by have := hdl.out; omega)]
            by_cases h1 : q < P
            · rw [if_neg (by omega)]; exact hd1.out q h1
            · have hqe : q = r * c + (q - P) := by rw [← HP.out]; omega
              have hqp : q < c * c := by rw [← hp.out]; omega
              rw [unitL_at hqp, hqe, at_div (by omega), at_mod (by omega), ← hqe]
              by_cases e : q = P + r
              · rw [if_pos e, if_pos (by omega)]
              · rw [if_neg e, if_neg (by omega)]; exact hd2.out q (by omega) (by omega)
          go_wp2_with fail
          go_roundg (c - (r + 1))
          case rel => exact ⟨r + 1, ds.set (P + r) 0, by omega, rfl, by go_num, by show _ = _; rw [List.length_set]; exact hdl.out, D1, Q4, G4⟩
          case measure => omega
    · obtain rfl : r = n := by omega
      have hrr := R2.out.grown hg2.out (by omega)
      have hvr := V2.out.grown hg2.out hgs
      obtain ⟨a0, a1, a2, a3, a4, a5⟩ := six_cells (show Blk wr S 61 #[_, _, _, _, _, _] from hvr)
      obtain ⟨d0, d1, d2, d3, d4, d5⟩ := six_cells hrr
      obtain ⟨f0, f1, f2, f3, f4, f5⟩ := six_frozen hrr
      have HRR := Lib.hid hrr
      have HZS : Hid (cs = unitL r) := eq_of_getD (by rw [hcl.out, HL.out]) (fun q hq => hpre.out q (by rw [← hp.out, ← hcl.out]; exact hq))
      clear hrr hvr
      go_wp2_with fail
      refine bodyPost_ret (results_1 rfl (Gives.row (g := w.heap.size + 1) rfl (blk_six HRR.out) Tryz.underlying61 rfl (by kernel_rfl))) rfl ?_
      refine ⟨g, rfl, ?_, by omega, ?_⟩
      · exact (B2.out.grown hg2.out B2.out.size (fun j hj => by cases hj; omega)).grown (grow_six _ _ _ _ _ _ _ _) (by have := hg2.out.size; have := B2.out.size; omega) (fun j hj => by cases hj; omega)
      · rw [← HZS.out]
        exact Blk.grown hsq.out (grow_six _ _ _ _ _ _ _ _) (by omega)
end Go.Proofs.YtjhaegkefagngaaGreatDoor
namespace Go.Proofs.YtjhaegkefagngaaGreatDoor
open Go.RowKit
set_option maxHeartbeats 1000000
set_option linter.unusedVariables false
theorem turnL_at {n a b : Nat} (zs : List Int) (ha : a < n) (hb : b < n) : (turnL n zs).getD (a * n + b) 0 = zs.getD (b * n + a) 0 := by
  have h := cel_ofF (turnF (cel n zs)) ha hb
  exact h
end Go.Proofs.YtjhaegkefagngaaGreatDoor
