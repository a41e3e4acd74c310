/- The walk of the exact law of GradeBetween: it returns true for all arguments; nothing that was there changes. No condition. -/
import Derived.Test.YthkhamboebmkcaaGBet
namespace Go.Proofs.Ythkhamboebmkcaa
open Go.RowKit
set_option maxHeartbeats 4000000
set_option maxRecDepth 100000
set_option linter.unusedVariables false

theorem FnExactGradeBetween_walk (ma : Int) (A1 : Option Addr) (c1 : Nat) (xs : List Int) (A2 : Option Addr) (c2 : Nat) (ys : List Int) (A3 : Option Addr) (c3 : Nat) (ss : List StepD) (mm : Int) (A : Option Addr) (cap : Nat) (zs : List Int) (w : World) (hx : IRow .i64 w w.heap.size A1 xs) (hy : IRow .i64 w w.heap.size A2 ys) (hs : SRow w w.heap.size A3 ss) (hz : IRow .i64 w w.heap.size A zs) :
    Calls Try.prog 3 #[.agg #[.int .i64 ma, .slice A1 xs.length c1, .slice A2 ys.length c2, .slice A3 ss.length c3], .agg #[.int .i64 mm, .slice A zs.length cap]] w fun e w' => e = .returned (.bool true) ∧ Below w.heap.size w w' := by
  have lx := hx.len
  have ly := hy.len
  have lz := hz.len
  have ls := hs.1
  have lt := Lib.hid hs.2.1
  obtain ⟨r, hr⟩ : ∃ r, betR ma xs ys ss mm zs = r := ⟨_, rfl⟩
  have HR := Lib.hid hr
  have HX := Lib.hid hx
  have HY := Lib.hid hy
  have HS := Lib.hid hs
  have HZ := Lib.hid hz
  have B0 := Lib.hid (below_a2 w (.cells #[.int .i64 ma, .slice A1 xs.length c1, .slice A2 ys.length c2, .slice A3 ss.length c3] 25) (.cells #[.int .i64 mm, .slice A zs.length cap] 27))
  have K0 : Hid (Blk ((w.alloc (.cells #[.int .i64 ma, .slice A1 xs.length c1, .slice A2 ys.length c2, .slice A3 ss.length c3] 25)).alloc (.cells #[.int .i64 mm, .slice A zs.length cap] 27)) w.heap.size 25 #[.int .i64 ma, .slice A1 xs.length c1, .slice A2 ys.length c2, .slice A3 ss.length c3]) := (Blk.new w _ _).alloc _
  have M0 : Hid (Blk ((w.alloc (.cells #[.int .i64 ma, .slice A1 xs.length c1, .slice A2 ys.length c2, .slice A3 ss.length c3] 25)).alloc (.cells #[.int .i64 mm, .slice A zs.length cap] 27)) (w.heap.size + 1) 27 #[.int .i64 mm, .slice A zs.length cap]) := blk_new (by simp)
  clear hr hx hy hs hz
  go_enter Try.func3, Try.ntmps3
  go_wp2_with fail
  refine (szAutomaton_any _ _ _ _ _ _ _ _ _ _ _ lx ly (HS.out.on B0.out)).mono ?_
  rintro e w1 ⟨v, rfl, v0, v1, hv, hb1⟩
  have B1 := Lib.hid (below_on B0.out hb1.out)
  have K1 := Lib.hid (blk_b K0.out hb1.out)
  have M1 := Lib.hid (blk_b M0.out hb1.out)
  clear B0 K0 M0 hb1
  by_cases hvn : v < 0
  · go_wp2_with fail
    go_ret
    exact ⟨rfl, B1.out⟩
  obtain ⟨sx, sy, sz⟩ := hv (by omega)
  clear hv
  obtain ⟨m0, m1⟩ := two_cells M1.out
  by_cases hvz : ¬ (zs.length : Int) ≤ v
  · go_wp2_with fail
    refine (szMatrix_no _ _ _ _ _ _ (by omega) (by omega) (by omega) lz).mono ?_
    rintro e w2 ⟨rfl, hb2⟩
    have B2 := Lib.hid (below_on B1.out hb2)
    clear hb2
    go_wp2_with fail
    go_ret
    exact ⟨rfl, B2.out⟩
  have hvz' : (zs.length : Int) ≤ v := by omega
  have szz : zs.length ≤ 1048576 := by omega
  obtain ⟨v', hv'⟩ : ∃ v', v - zs.length = v' := ⟨_, rfl⟩
  have hv0 : ¬ v' < 0 := by omega
  have HV := Lib.hid hv'
  clear hv' hvz
  go_wp2_with fail
  refine (szMatrix_ok _ _ _ _ _ v' _ (by omega) (by omega) hvz' HV.out).mono ?_
  rintro e w2 ⟨rfl, hb2⟩
  have B2 := Lib.hid (below_on B1.out hb2)
  have K2 := Lib.hid (blk_b K1.out hb2)
  have M2 := Lib.hid (blk_b M1.out hb2)
  clear B1 K1 M1 hb2 m0 m1
  have KS : Hid (∀ w', Below w2.heap.size w2 w' → (Hid (Below w2.heap.size w2 w') ∧ w'.cell? ⟨w.heap.size, 0, none⟩ = some (.int .i64 ma) ∧ w'.cell? ⟨w.heap.size, 1, none⟩ = some (.slice A1 xs.length c1) ∧ w'.cell? ⟨w.heap.size, 2, none⟩ = some (.slice A2 ys.length c2) ∧ w'.cell? ⟨w.heap.size, 3, none⟩ = some (.slice A3 ss.length c3) ∧ w'.cell? ⟨(w.heap.size + 1), 0, none⟩ = some (.int .i64 mm) ∧ w'.cell? ⟨(w.heap.size + 1), 1, none⟩ = some (.slice A zs.length cap))) := fun w' h => by
    have a := blk_b K2.out h
    have m := blk_b M2.out h
    exact ⟨h, a.cell 0, a.cell 1, a.cell 2, a.cell 3, m.cell 0, m.cell 1⟩
  go_wp2_with fail
  have hS0 := KS.out w2.drew ((Below.refl _ _).drew)
  go_region_held3 (fun w' => Hid (Below w2.heap.size w2 w') ∧ w'.cell? ⟨w.heap.size, 0, none⟩ = some (.int .i64 ma) ∧ w'.cell? ⟨w.heap.size, 1, none⟩ = some (.slice A1 xs.length c1) ∧ w'.cell? ⟨w.heap.size, 2, none⟩ = some (.slice A2 ys.length c2) ∧ w'.cell? ⟨w.heap.size, 3, none⟩ = some (.slice A3 ss.length c3) ∧ w'.cell? ⟨(w.heap.size + 1), 0, none⟩ = some (.int .i64 mm) ∧ w'.cell? ⟨(w.heap.size + 1), 1, none⟩ = some (.slice A zs.length cap)) (first | with_reducible assumption | skip)
    (first
      | (go_at_call 7; refine (toAutomaton_any _ _ _ _ _ _ _ _ _ _ _ ((HX.out.below (below_on B2.out hS0.1.out)).more ((below_on B2.out hS0.1.out)).size) ((HY.out.below (below_on B2.out hS0.1.out)).more ((below_on B2.out hS0.1.out)).size) (HS.out.on (below_on B2.out hS0.1.out)) sx sy sz).mono ?_; rintro e w3 ⟨i1, i2, i3, rfl, U1, U2, U3, hb3⟩; have hS1 := KS.out _ (below_on hS0.1.out hb3.out))
      | (go_at_call 8; refine (toMatrix_any _ _ _ _ _ ((HZ.out.below (below_on B2.out hS1.1.out)).more (below_on B2.out hS1.1.out).size) szz).mono ?_; rintro e w4 ⟨_, rfl, ⟨A4, cap4, rfl, hc4, hi4⟩, hb4⟩; have hS2 := KS.out _ (below_on hS1.1.out hb4); have V1 := Lib.hid ((U1.out.below hb4).more hb4.size); have V2 := Lib.hid ((U2.out.below hb4).more hb4.size); have V3 := Lib.hid ((U3.out.row ls lt.out).on hb4))
      | (go_at_call 6; refine (sBetween_any ma _ _ xs _ _ ys _ _ ss mm _ _ zs r _ V1.out V2.out V3.out hi4 HR.out).mono ?_; rintro e w5 ⟨rfl, hb5⟩; have hS3 := KS.out _ (below_on hS2.1.out hb5)))
  have B3 := Lib.hid (below_on B2.out hS3.1.out)
  have K3 := Lib.hid (blk_b K2.out hS3.1.out)
  have M3 := Lib.hid (blk_b M2.out hS3.1.out)
  obtain ⟨k0, k1, k2, k3⟩ := four_cells K3.out
  clear hS0 hS1 hS2 hS3 hi4 B2 K2 M2 KS U1 U2 U3 V1 V2 V3 hb3 hb4 hb5
  go_wp2_with fail
  refine (toAutomaton_any _ _ _ _ _ _ _ _ _ _ _ ((HX.out.below B3.out).more (B3.out).size) ((HY.out.below B3.out).more (B3.out).size) (HS.out.on B3.out) sx sy sz).mono ?_
  rintro e w6 ⟨h1, h2, h3, rfl, J1, J2, T3, hb6⟩
  have B4 := Lib.hid (below_al (below_on B3.out hb6.out) (Nat.le_refl _) (.cells #[.int .i64 ma, .slice (some ⟨h1, 0, none⟩) xs.length xs.length, .slice (some ⟨h2, 0, none⟩) ys.length ys.length, .slice (some ⟨h3, 0, none⟩) ss.length ss.length] 33))
  have K4 := Lib.hid ((blk_b K3.out hb6.out).alloc (.cells #[.int .i64 ma, .slice (some ⟨h1, 0, none⟩) xs.length xs.length, .slice (some ⟨h2, 0, none⟩) ys.length ys.length, .slice (some ⟨h3, 0, none⟩) ss.length ss.length] 33))
  have M4 := Lib.hid ((blk_b M3.out hb6.out).alloc (.cells #[.int .i64 ma, .slice (some ⟨h1, 0, none⟩) xs.length xs.length, .slice (some ⟨h2, 0, none⟩) ys.length ys.length, .slice (some ⟨h3, 0, none⟩) ss.length ss.length] 33))
  have X4 := Lib.hid (Blk.new w6 33 #[.int .i64 ma, .slice (some ⟨h1, 0, none⟩) xs.length xs.length, .slice (some ⟨h2, 0, none⟩) ys.length ys.length, .slice (some ⟨h3, 0, none⟩) ss.length ss.length])
  have P1 := Lib.hid (ints_al J1.out (.cells #[.int .i64 ma, .slice (some ⟨h1, 0, none⟩) xs.length xs.length, .slice (some ⟨h2, 0, none⟩) ys.length ys.length, .slice (some ⟨h3, 0, none⟩) ss.length ss.length] 33))
  have P2 := Lib.hid (ints_al J2.out (.cells #[.int .i64 ma, .slice (some ⟨h1, 0, none⟩) xs.length xs.length, .slice (some ⟨h2, 0, none⟩) ys.length ys.length, .slice (some ⟨h3, 0, none⟩) ss.length ss.length] 33))
  have P3 := Lib.hid ((T3.out.row ls lt.out).al (.cells #[.int .i64 ma, .slice (some ⟨h1, 0, none⟩) xs.length xs.length, .slice (some ⟨h2, 0, none⟩) ys.length ys.length, .slice (some ⟨h3, 0, none⟩) ss.length ss.length] 33))
  obtain ⟨m0, m1⟩ := two_cells M4.out
  have hl6 : w.heap.size + 1 < w6.heap.size := Nat.lt_of_lt_of_le (Blk.lt M3.out) hb6.out.size
  have mm0 : ∀ o, (w6.alloc o).cell? ⟨w.heap.size + 1, 0, none⟩ = some (.int .i64 mm) := fun o => ((blk_b M3.out hb6.out).alloc o).cell 0
  have mm1 : ∀ o, (w6.alloc o).cell? ⟨w.heap.size + 1, 1, none⟩ = some (.slice A zs.length cap) := fun o => ((blk_b M3.out hb6.out).alloc o).cell 1
  clear B3 K3 M3 hb6 J1 J2 T3 k0 k1 k2 k3 m0 m1
  go_wp2_with fail
  refine (toMatrix_any _ _ _ _ _ ((HZ.out.below B4.out).more B4.out.size) szz).mono ?_
  rintro e w7 ⟨_, rfl, ⟨Am, capm, rfl, hcm, him⟩, hb7⟩
  obtain ⟨V, hV⟩ : ∃ V, V = w6.heap.size := ⟨_, rfl⟩
  have B5 := Lib.hid (below_al (below_on B4.out hb7) (Nat.le_refl _) (.cells #[.int .i64 mm, .slice Am zs.length capm] 35))
  have K5 := Lib.hid ((blk_b K4.out hb7).alloc (.cells #[.int .i64 mm, .slice Am zs.length capm] 35))
  have M5 := Lib.hid ((blk_b M4.out hb7).alloc (.cells #[.int .i64 mm, .slice Am zs.length capm] 35))
  have X5 := Lib.hid ((blk_b X4.out hb7).alloc (.cells #[.int .i64 mm, .slice Am zs.length capm] 35))
  have Y5 := Lib.hid (Blk.new w7 35 #[.int .i64 mm, .slice Am zs.length capm])
  have Q1 := Lib.hid (ints_al ((P1.out.below hb7).more hb7.size) (.cells #[.int .i64 mm, .slice Am zs.length capm] 35))
  have Q2 := Lib.hid (ints_al ((P2.out.below hb7).more hb7.size) (.cells #[.int .i64 mm, .slice Am zs.length capm] 35))
  have Q3 := Lib.hid ((P3.out.on hb7).al (.cells #[.int .i64 mm, .slice Am zs.length capm] 35))
  have Q4 := Lib.hid (ints_al him (.cells #[.int .i64 mm, .slice Am zs.length capm] 35))
  have x0 : ∀ o, (w7.alloc o).cell? ⟨V, 0, none⟩ = some (.int .i64 ma) := fun o => by rw [hV]; exact ((blk_b X4.out hb7).alloc o).cell 0
  have x1 : ∀ o, (w7.alloc o).cell? ⟨V, 1, none⟩ = some (.slice (some ⟨h1, 0, none⟩) xs.length xs.length) := fun o => by rw [hV]; exact ((blk_b X4.out hb7).alloc o).cell 1
  have x2 : ∀ o, (w7.alloc o).cell? ⟨V, 2, none⟩ = some (.slice (some ⟨h2, 0, none⟩) ys.length ys.length) := fun o => by rw [hV]; exact ((blk_b X4.out hb7).alloc o).cell 2
  have x3 : ∀ o, (w7.alloc o).cell? ⟨V, 3, none⟩ = some (.slice (some ⟨h3, 0, none⟩) ss.length ss.length) := fun o => by rw [hV]; exact ((blk_b X4.out hb7).alloc o).cell 3
  have hlV : w6.heap.size < w7.heap.size := Blk.lt (blk_b X4.out hb7)
  rw [← hV] at X5 hlV ⊢
  clear hV B4 K4 M4 X4 P1 P2 P3 hb7 him mm0 mm1 hl6
  go_wp2_with fail
  refine (iBetween_any ma _ _ xs _ _ ys _ _ ss mm _ _ zs r _ Q1.out Q2.out Q3.out Q4.out HR.out).mono ?_
  rintro e w8 ⟨rfl, hb8⟩
  obtain ⟨Y, hY⟩ : ∃ Y, Y = w7.heap.size := ⟨_, rfl⟩
  have B6 := Lib.hid (below_on B5.out hb8)
  have K6 := Lib.hid (blk_b K5.out hb8)
  have M6 := Lib.hid (blk_b M5.out hb8)
  have X6 := Lib.hid (blk_b X5.out hb8)
  have Y6 := Lib.hid (blk_b Y5.out hb8)
  have R1 := Lib.hid ((Q1.out.below hb8).more hb8.size)
  have R2 := Lib.hid ((Q2.out.below hb8).more hb8.size)
  have R3 := Lib.hid (Q3.out.on hb8)
  have R4 := Lib.hid ((Q4.out.below hb8).more hb8.size)
  rw [← hY] at Y6 ⊢
  clear hY B5 K5 M5 X5 Y5 Q1 Q2 Q3 Q4 hb8 x0 x1 x2 x3 hlV
  have KS : Hid (∀ w', Below w8.heap.size w8 w' → (Hid (Below w8.heap.size w8 w') ∧ w'.cell? ⟨w.heap.size, 0, none⟩ = some (.int .i64 ma) ∧ w'.cell? ⟨w.heap.size, 1, none⟩ = some (.slice A1 xs.length c1) ∧ w'.cell? ⟨w.heap.size, 2, none⟩ = some (.slice A2 ys.length c2) ∧ w'.cell? ⟨w.heap.size, 3, none⟩ = some (.slice A3 ss.length c3) ∧ w'.cell? ⟨(w.heap.size + 1), 0, none⟩ = some (.int .i64 mm) ∧ w'.cell? ⟨(w.heap.size + 1), 1, none⟩ = some (.slice A zs.length cap) ∧ w'.cell? ⟨V, 0, none⟩ = some (.int .i64 ma) ∧ w'.cell? ⟨V, 1, none⟩ = some (.slice (some ⟨h1, 0, none⟩) xs.length xs.length) ∧ w'.cell? ⟨V, 2, none⟩ = some (.slice (some ⟨h2, 0, none⟩) ys.length ys.length) ∧ w'.cell? ⟨V, 3, none⟩ = some (.slice (some ⟨h3, 0, none⟩) ss.length ss.length) ∧ w'.cell? ⟨Y, 0, none⟩ = some (.int .i64 mm) ∧ w'.cell? ⟨Y, 1, none⟩ = some (.slice Am zs.length capm))) := fun w' h => by
    have a := blk_b K6.out h
    have m := blk_b M6.out h
    have x := blk_b X6.out h
    have y := blk_b Y6.out h
    exact ⟨h, a.cell 0, a.cell 1, a.cell 2, a.cell 3, m.cell 0, m.cell 1, x.cell 0, x.cell 1, x.cell 2, x.cell 3, y.cell 0, y.cell 1⟩
  go_wp2_with fail
  have hS0 := KS.out w8.drew ((Below.refl _ _).drew)
  go_region_held3 (fun w' => Hid (Below w8.heap.size w8 w') ∧ w'.cell? ⟨w.heap.size, 0, none⟩ = some (.int .i64 ma) ∧ w'.cell? ⟨w.heap.size, 1, none⟩ = some (.slice A1 xs.length c1) ∧ w'.cell? ⟨w.heap.size, 2, none⟩ = some (.slice A2 ys.length c2) ∧ w'.cell? ⟨w.heap.size, 3, none⟩ = some (.slice A3 ss.length c3) ∧ w'.cell? ⟨(w.heap.size + 1), 0, none⟩ = some (.int .i64 mm) ∧ w'.cell? ⟨(w.heap.size + 1), 1, none⟩ = some (.slice A zs.length cap) ∧ w'.cell? ⟨V, 0, none⟩ = some (.int .i64 ma) ∧ w'.cell? ⟨V, 1, none⟩ = some (.slice (some ⟨h1, 0, none⟩) xs.length xs.length) ∧ w'.cell? ⟨V, 2, none⟩ = some (.slice (some ⟨h2, 0, none⟩) ys.length ys.length) ∧ w'.cell? ⟨V, 3, none⟩ = some (.slice (some ⟨h3, 0, none⟩) ss.length ss.length) ∧ w'.cell? ⟨Y, 0, none⟩ = some (.int .i64 mm) ∧ w'.cell? ⟨Y, 1, none⟩ = some (.slice Am zs.length capm)) (first | with_reducible assumption | skip)
    (first
      | (go_at_call 7; refine (toAutomaton_any _ _ _ _ _ _ _ _ _ _ _ ((HX.out.below (below_on B6.out hS0.1.out)).more ((below_on B6.out hS0.1.out)).size) ((HY.out.below (below_on B6.out hS0.1.out)).more ((below_on B6.out hS0.1.out)).size) (HS.out.on (below_on B6.out hS0.1.out)) sx sy sz).mono ?_; rintro e w9 ⟨i1, i2, i3, rfl, U1, U2, U3, hb9⟩; have hS1 := KS.out _ (below_on hS0.1.out hb9.out))
      | (go_at_call 10; refine (eqAutomaton_eq _ _ _ _ _ _ _ _ _ _ _ _ _ _ _ _ _ ((R1.out.below hS1.1.out).more hS1.1.out.size) ((R2.out.below hS1.1.out).more hS1.1.out.size) (R3.out.on hS1.1.out) U1.out U2.out (U3.out.row ls lt.out)).mono ?_; rintro e wa ⟨rfl, hba⟩; have hS2 := KS.out _ (below_on hS1.1.out hba.out)))
  have B7 := Lib.hid hS2.1.out
  clear hS0 hS1 U1 U2 U3 hb9
  go_wp2_with fail
  have hT0 := KS.out wa.drew (B7.out.drew)
  go_region_held3 (fun w' => Hid (Below w8.heap.size w8 w') ∧ w'.cell? ⟨w.heap.size, 0, none⟩ = some (.int .i64 ma) ∧ w'.cell? ⟨w.heap.size, 1, none⟩ = some (.slice A1 xs.length c1) ∧ w'.cell? ⟨w.heap.size, 2, none⟩ = some (.slice A2 ys.length c2) ∧ w'.cell? ⟨w.heap.size, 3, none⟩ = some (.slice A3 ss.length c3) ∧ w'.cell? ⟨(w.heap.size + 1), 0, none⟩ = some (.int .i64 mm) ∧ w'.cell? ⟨(w.heap.size + 1), 1, none⟩ = some (.slice A zs.length cap) ∧ w'.cell? ⟨V, 0, none⟩ = some (.int .i64 ma) ∧ w'.cell? ⟨V, 1, none⟩ = some (.slice (some ⟨h1, 0, none⟩) xs.length xs.length) ∧ w'.cell? ⟨V, 2, none⟩ = some (.slice (some ⟨h2, 0, none⟩) ys.length ys.length) ∧ w'.cell? ⟨V, 3, none⟩ = some (.slice (some ⟨h3, 0, none⟩) ss.length ss.length) ∧ w'.cell? ⟨Y, 0, none⟩ = some (.int .i64 mm) ∧ w'.cell? ⟨Y, 1, none⟩ = some (.slice Am zs.length capm)) (first | with_reducible assumption | skip)
    (first
      | (go_at_call 8; refine (toMatrix_any _ _ _ _ _ ((HZ.out.below (below_on B6.out hT0.1.out)).more (below_on B6.out hT0.1.out).size) szz).mono ?_; rintro e wb ⟨_, rfl, ⟨A4, cap4, rfl, hc4, hi4⟩, hbb⟩; have hT1 := KS.out _ (below_on hT0.1.out hbb))
      | (go_at_call 11; refine (eqMatrix_eq _ _ _ _ _ _ _ ((R4.out.below hT1.1.out).more hT1.1.out.size) hi4).mono ?_; rintro e wd ⟨rfl, hbd⟩; have hT2 := KS.out _ (below_on hT1.1.out hbd)))
  have B8 := Lib.hid (below_on B6.out hT2.1.out)
  go_wp2_with fail
  go_ret
  exact ⟨rfl, B8.out⟩
end Go.Proofs.Ythkhamboebmkcaa
