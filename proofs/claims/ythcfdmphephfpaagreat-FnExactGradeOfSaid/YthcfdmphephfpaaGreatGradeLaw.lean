/- The walk of the exact law of GradeOf: it returns true for all arguments; nothing that was there changes. Condition: the text is no longer than a length. -/
import Derived.Test.YthcfdmphephfpaaGreatValG
import Derived.Test.YthcfdmphephfpaaGreatMarkA
import Derived.Test.YthcfdmphephfpaaGreatToC
import Derived.Deep.RegionHeld3
namespace Go.Proofs.YthcfdmphephfpaaGreat
open Go.RowKit
set_option maxHeartbeats 4000000
set_option maxRecDepth 100000
set_option linter.unusedVariables false

theorem FnExactGradeOf_walk (m : Int) (A1 : Option Addr) (c1 : Nat) (xs : List Int) (A2 : Option Addr) (c2 : Nat) (ys : List Int) (A3 : Option Addr) (c3 : Nat) (ss : List StepD) (l : ByteArray) (hll : l.size ≤ maxLen) (w : World) (hx : IRow .i64 w w.heap.size A1 xs) (hy : IRow .i64 w w.heap.size A2 ys) (hs : SRow w w.heap.size A3 ss) :
    Calls Tryz.prog 4 #[.agg #[.int .i64 m, .slice A1 xs.length c1, .slice A2 ys.length c2, .slice A3 ss.length c3], .string l] w fun e w' => e = .returned (.bool true) ∧ Below w.heap.size w w' := by
  by_cases h20 : l.size ≤ 1048576
  case neg =>
    have hlb : (1048576 : Int) < (l.size : Int) := by omega
    have B0 := Lib.hid (below_a1 w (.cells #[.int .i64 m, .slice A1 xs.length c1, .slice A2 ys.length c2, .slice A3 ss.length c3] 25))
    go_enter Tryz.func4, Tryz.ntmps4
    go_wp2_with fail
    go_ret
    exact ⟨rfl, B0.out⟩
  have lx := hx.len
  have ly := hy.len
  have ls := hs.1
  have lt := Lib.hid hs.2.1
  obtain ⟨r, hr⟩ : ∃ r, gradeR m xs ys ss l.data.toList = r := ⟨_, rfl⟩
  have HR := Lib.hid hr
  have HX := Lib.hid hx
  have HY := Lib.hid hy
  have HS := Lib.hid hs
  have B0 := Lib.hid (below_a1 w (.cells #[.int .i64 m, .slice A1 xs.length c1, .slice A2 ys.length c2, .slice A3 ss.length c3] 25))
  have K0 := Lib.hid (Blk.new w 25 #[.int .i64 m, .slice A1 xs.length c1, .slice A2 ys.length c2, .slice A3 ss.length c3])
  clear hr hx hy hs
  have hlk : (l.size : Int) ≤ 9223372036854775807 := by unfold maxLen at hll; omega
  have hlb : ¬ (1048576 : Int) < (l.size : Int) := by omega
  go_enter Tryz.func4, Tryz.ntmps4
  go_wp2_with fail
  refine (szAutomaton_any _ _ _ _ _ _ _ _ _ _ _ lx ly (HS.out.on B0.out)).mono ?_
  rintro e w1 ⟨v, rfl, v0, v1, hv, hb1⟩
  have B1 := Lib.hid (below_on B0.out hb1.out)
  have K1 := Lib.hid (blk_b K0.out hb1.out)
  clear B0 K0 hb1
  by_cases hvn : v < 0
  · go_wp2_with fail
    go_ret
    exact ⟨rfl, B1.out⟩
  obtain ⟨sx, sy, sz⟩ := hv (by omega)
  clear hv
  obtain ⟨k0, k1, k2, k3⟩ := four_cells K1.out
  have kl := Blk.lt K1.out
  go_wp2_with fail
  refine (toAutomaton_any _ _ _ _ _ _ _ _ _ _ _ ((HX.out.below B1.out).more B1.out.size) ((HY.out.below B1.out).more B1.out.size) (HS.out.on B1.out) sx sy sz).mono ?_
  rintro e w2 ⟨g1, g2, g3, rfl, I1, I2, S3, hb2⟩
  have B2 := Lib.hid (below_on B1.out hb2.out)
  have K2 := Lib.hid (blk_b K1.out hb2.out)
  clear B1 K1 hb2 k0 k1 k2 k3 kl
  go_wp2_with fail
  refine (sGrade_w _ _ _ _ _ _ _ _ _ _ l r h20 _ I1.out I2.out (S3.out.row ls lt.out) HR.out).mono ?_
  rintro e w3 ⟨rfl, hb3⟩
  have B3 := Lib.hid (below_on B2.out hb3.out)
  have K3 := Lib.hid (blk_b K2.out hb3.out)
  clear B2 K2 hb3 I1 I2 S3
  obtain ⟨k0, k1, k2, k3⟩ := four_cells K3.out
  have kl := Blk.lt K3.out
  go_wp2_with fail
  refine (toAutomaton_any _ _ _ _ _ _ _ _ _ _ _ ((HX.out.below B3.out).more B3.out.size) ((HY.out.below B3.out).more B3.out.size) (HS.out.on B3.out) sx sy sz).mono ?_
  rintro e w4 ⟨h1, h2, h3, rfl, J1, J2, T3, hb4⟩
  have B4 := Lib.hid (below_al (below_on B3.out hb4.out) (Nat.le_refl _) (.cells #[.int .i64 m, .slice (some ⟨h1, 0, none⟩) xs.length xs.length, .slice (some ⟨h2, 0, none⟩) ys.length ys.length, .slice (some ⟨h3, 0, none⟩) ss.length ss.length] 33))
  have K4 := Lib.hid ((blk_b K3.out hb4.out).alloc (.cells #[.int .i64 m, .slice (some ⟨h1, 0, none⟩) xs.length xs.length, .slice (some ⟨h2, 0, none⟩) ys.length ys.length, .slice (some ⟨h3, 0, none⟩) ss.length ss.length] 33))
  have X4 := Lib.hid (Blk.new w4 33 #[.int .i64 m, .slice (some ⟨h1, 0, none⟩) xs.length xs.length, .slice (some ⟨h2, 0, none⟩) ys.length ys.length, .slice (some ⟨h3, 0, none⟩) ss.length ss.length])
  have P1 := Lib.hid (ints_al J1.out (.cells #[.int .i64 m, .slice (some ⟨h1, 0, none⟩) xs.length xs.length, .slice (some ⟨h2, 0, none⟩) ys.length ys.length, .slice (some ⟨h3, 0, none⟩) ss.length ss.length] 33))
  have P2 := Lib.hid (ints_al J2.out (.cells #[.int .i64 m, .slice (some ⟨h1, 0, none⟩) xs.length xs.length, .slice (some ⟨h2, 0, none⟩) ys.length ys.length, .slice (some ⟨h3, 0, none⟩) ss.length ss.length] 33))
  have P3 := Lib.hid ((T3.out.row ls lt.out).al (.cells #[.int .i64 m, .slice (some ⟨h1, 0, none⟩) xs.length xs.length, .slice (some ⟨h2, 0, none⟩) ys.length ys.length, .slice (some ⟨h3, 0, none⟩) ss.length ss.length] 33))
  clear B3 K3 hb4 J1 J2 T3 k0 k1 k2 k3 kl
  go_wp2_with fail
  refine (iGrade_w _ _ _ _ _ _ _ _ _ _ l r h20 _ P1.out P2.out P3.out HR.out).mono ?_
  rintro e w5 ⟨rfl, hb5⟩
  have B5 := Lib.hid (below_on B4.out hb5.out)
  have K5 := Lib.hid (blk_b K4.out hb5.out)
  have X5 := Lib.hid (blk_b X4.out hb5.out)
  have Q1 := Lib.hid ((P1.out.below hb5.out).more hb5.out.size)
  have Q2 := Lib.hid ((P2.out.below hb5.out).more hb5.out.size)
  have Q3 := Lib.hid (P3.out.on hb5.out)
  obtain ⟨V, hV⟩ : ∃ V, V = w4.heap.size := ⟨_, rfl⟩
  rw [← hV] at X5 ⊢
  clear hV B4 K4 X4 P1 P2 P3 hb5
  have KS : Hid (∀ w', Below w5.heap.size w5 w' → (Hid (Below w5.heap.size w5 w') ∧ w'.cell? ⟨w.heap.size, 0, none⟩ = some (.int .i64 m) ∧ w'.cell? ⟨w.heap.size, 1, none⟩ = some (.slice A1 xs.length c1) ∧ w'.cell? ⟨w.heap.size, 2, none⟩ = some (.slice A2 ys.length c2) ∧ w'.cell? ⟨w.heap.size, 3, none⟩ = some (.slice A3 ss.length c3) ∧ w'.cell? ⟨V, 0, none⟩ = some (.int .i64 m) ∧ w'.cell? ⟨V, 1, none⟩ = some (.slice (some ⟨h1, 0, none⟩) xs.length xs.length) ∧ w'.cell? ⟨V, 2, none⟩ = some (.slice (some ⟨h2, 0, none⟩) ys.length ys.length) ∧ w'.cell? ⟨V, 3, none⟩ = some (.slice (some ⟨h3, 0, none⟩) ss.length ss.length))) := fun w' h => by
    have a := blk_b K5.out h
    have v := blk_b X5.out h
    exact ⟨h, a.cell 0, a.cell 1, a.cell 2, a.cell 3, v.cell 0, v.cell 1, v.cell 2, v.cell 3⟩
  go_wp2_with fail
  have hS0 := KS.out w5.drew ((Below.refl _ _).drew)
  go_region_held3 (fun w' => Hid (Below w5.heap.size w5 w') ∧ w'.cell? ⟨w.heap.size, 0, none⟩ = some (.int .i64 m) ∧ w'.cell? ⟨w.heap.size, 1, none⟩ = some (.slice A1 xs.length c1) ∧ w'.cell? ⟨w.heap.size, 2, none⟩ = some (.slice A2 ys.length c2) ∧ w'.cell? ⟨w.heap.size, 3, none⟩ = some (.slice A3 ss.length c3) ∧ w'.cell? ⟨V, 0, none⟩ = some (.int .i64 m) ∧ w'.cell? ⟨V, 1, none⟩ = some (.slice (some ⟨h1, 0, none⟩) xs.length xs.length) ∧ w'.cell? ⟨V, 2, none⟩ = some (.slice (some ⟨h2, 0, none⟩) ys.length ys.length) ∧ w'.cell? ⟨V, 3, none⟩ = some (.slice (some ⟨h3, 0, none⟩) ss.length ss.length)) (first | with_reducible assumption | skip)
    (first
      | (go_at_call 7; refine (toAutomaton_any _ _ _ _ _ _ _ _ _ _ _ ((HX.out.below (below_on B5.out hS0.1.out)).more (below_on B5.out hS0.1.out).size) ((HY.out.below (below_on B5.out hS0.1.out)).more (below_on B5.out hS0.1.out).size) (HS.out.on (below_on B5.out hS0.1.out)) sx sy sz).mono ?_; rintro e w6 ⟨i1, i2, i3, rfl, U1, U2, U3, hb6⟩; have hS1 := KS.out _ (below_on hS0.1.out hb6.out))
      | (go_at_call 10; refine (eqAutomaton_eq _ _ _ _ _ _ _ _ _ _ _ _ _ _ _ _ _ ((Q1.out.below hS1.1.out).more hS1.1.out.size) ((Q2.out.below hS1.1.out).more hS1.1.out.size) (Q3.out.on hS1.1.out) U1.out U2.out (U3.out.row ls lt.out)).mono ?_; rintro e w7 ⟨rfl, hb7⟩; have hS2 := KS.out _ (below_on hS1.1.out hb7.out)))
  go_wp2_with fail
  go_ret
  exact ⟨rfl, below_on B5.out hS2.1.out⟩
end Go.Proofs.YthcfdmphephfpaaGreat
