/- The walk of the exact law of CostOfRun: it returns true for all arguments; nothing that was there changes. Conditions: the text is no longer than a length, the list's numbers are numbers of the kind. -/
import Derived.Test.YthgkhpbfbilgmaaDoorRunS
import Derived.Deep.RegionHeld3
namespace Go.Proofs.YthgkhpbfbilgmaaDoor
open Go.RowKit
set_option maxHeartbeats 4000000
set_option maxRecDepth 100000
set_option linter.unusedVariables false

theorem FnExactCostOfRun_walk (m : Int) (A1 : Option Addr) (c1 : Nat) (xs : List Int) (A2 : Option Addr) (c2 : Nat) (ys : List Int) (A3 : Option Addr) (c3 : Nat) (ss : List StepD) (l : ByteArray) (hll : l.size ≤ maxLen) (Az : Option Addr) (cz : Nat) (zs : List Int) (w : World) (hx : IRow .i64 w w.heap.size A1 xs) (hy : IRow .i64 w w.heap.size A2 ys) (hs : SRow w w.heap.size A3 ss) (hz : IRow .i64 w w.heap.size Az zs) (hwf : ∀ z ∈ zs, (Lit.int .i64 z).wf = true) :
    Calls Tryd.prog 7 #[.agg #[.int .i64 m, .slice A1 xs.length c1, .slice A2 ys.length c2, .slice A3 ss.length c3], .string l, .slice Az zs.length cz] w fun e w' => e = .returned (.bool true) ∧ Below w.heap.size w w' := by
  have lx := hx.len
  have ly := hy.len
  have ls := hs.1
  have lt := Lib.hid hs.2.1
  obtain ⟨r, hr⟩ : ∃ r, runR m xs ys ss l zs = r := ⟨_, rfl⟩
  have HR := Lib.hid hr
  have HX := Lib.hid hx
  have HY := Lib.hid hy
  have HS := Lib.hid hs
  have HZ := Lib.hid hz
  have lz := hz.len
  have B0 := Lib.hid (below_a1 w (.cells #[.int .i64 m, .slice A1 xs.length c1, .slice A2 ys.length c2, .slice A3 ss.length c3] 26))
  have K0 := Lib.hid (Blk.new w 26 #[.int .i64 m, .slice A1 xs.length c1, .slice A2 ys.length c2, .slice A3 ss.length c3])
  clear hr hx hy hs hz
  have hlk : (l.size : Int) ≤ 9223372036854775807 := by unfold maxLen at hll; omega
  by_cases hlb : (1048576 : Int) < (l.size : Int)
  · go_enter Tryd.func7, Tryd.ntmps7
    go_wp2_with fail
    go_ret
    exact ⟨rfl, B0.out⟩
  by_cases hzb : (1048576 : Int) < (zs.length : Int)
  · go_enter Tryd.func7, Tryd.ntmps7
    go_wp2_with fail
    go_ret
    exact ⟨rfl, B0.out⟩
  have hz20 : zs.length ≤ 1099511627776 := by omega
  go_enter Tryd.func7, Tryd.ntmps7
  go_wp2_with fail
  refine (szAutomaton_any _ _ _ _ _ _ _ _ _ _ _ lx ly (HS.out.on B0.out)).mono ?_
  rintro e w1 ⟨v, rfl, v0, v1, hv, hb1⟩
  have B1 := Lib.hid (below_on B0.out hb1.out)
  have K1 := Lib.hid (blk_b K0.out hb1.out)
  clear B0 K0 hb1
  by_cases hvn : v < 0
  · go_wp2_with fail
    go_ret
    exact ⟨rfl, B1.out⟩
  obtain ⟨sx, sy, sz⟩ := hv (by omega)
  clear hv
  obtain ⟨k0, k1, k2, k3⟩ := four_cells K1.out
  have kl := Blk.lt K1.out
  go_wp2_with fail
  refine (toAutomaton_any _ _ _ _ _ _ _ _ _ _ _ ((HX.out.below B1.out).more B1.out.size) ((HY.out.below B1.out).more B1.out.size) (HS.out.on B1.out) sx sy sz).mono ?_
  rintro e w2 ⟨g1, g2, g3, rfl, I1, I2, S3, hb2⟩
  have B2 := Lib.hid (below_on B1.out hb2.out)
  have K2 := Lib.hid (blk_b K1.out hb2.out)
  clear B1 K1 hb2 k0 k1 k2 k3 kl
  go_wp2_with fail
  refine (toIntS_own _ _ zs _ ((HZ.out.below B2.out).more B2.out.size) hz20).mono ?_
  rintro e w2a ⟨gz, rfl, hb2a, _, hoz⟩
  obtain ⟨_, _, hez, _, hiz⟩ := own_ints hoz (by unfold maxLen; omega)
  cases hez
  have IZ := Lib.hid hiz
  have B2a := Lib.hid (below_on B2.out hb2a)
  have K2a := Lib.hid (blk_b K2.out hb2a)
  have I1a := Lib.hid ((I1.out.below hb2a).more hb2a.size)
  have I2a := Lib.hid ((I2.out.below hb2a).more hb2a.size)
  have S3a := Lib.hid ((S3.out.row ls lt.out).on hb2a)
  clear hb2a hoz hiz I1 I2 S3 B2 K2
  go_wp2_with fail
  refine (sCostOfRun_any _ _ _ _ _ _ _ _ _ _ _ zs _ l r hll _ I1a.out I2a.out S3a.out IZ.out HR.out).mono ?_
  rintro e w3 ⟨rfl, hb3⟩
  have B3 := Lib.hid (below_on B2a.out hb3.out)
  have K3 := Lib.hid (blk_b K2a.out hb3.out)
  clear B2a K2a hb3 I1a I2a S3a IZ
  obtain ⟨k0, k1, k2, k3⟩ := four_cells K3.out
  have kl := Blk.lt K3.out
  go_wp2_with fail
  refine (toAutomaton_any _ _ _ _ _ _ _ _ _ _ _ ((HX.out.below B3.out).more B3.out.size) ((HY.out.below B3.out).more B3.out.size) (HS.out.on B3.out) sx sy sz).mono ?_
  rintro e w4 ⟨h1, h2, h3, rfl, J1, J2, T3, hb4⟩
  have B4 := Lib.hid (below_al (below_on B3.out hb4.out) (Nat.le_refl _) (.cells #[.int .i64 m, .slice (some ⟨h1, 0, none⟩) xs.length xs.length, .slice (some ⟨h2, 0, none⟩) ys.length ys.length, .slice (some ⟨h3, 0, none⟩) ss.length ss.length] 34))
  have K4 := Lib.hid ((blk_b K3.out hb4.out).alloc (.cells #[.int .i64 m, .slice (some ⟨h1, 0, none⟩) xs.length xs.length, .slice (some ⟨h2, 0, none⟩) ys.length ys.length, .slice (some ⟨h3, 0, none⟩) ss.length ss.length] 34))
  have X4 := Lib.hid (Blk.new w4 34 #[.int .i64 m, .slice (some ⟨h1, 0, none⟩) xs.length xs.length, .slice (some ⟨h2, 0, none⟩) ys.length ys.length, .slice (some ⟨h3, 0, none⟩) ss.length ss.length])
  have P1 := Lib.hid (ints_al J1.out (.cells #[.int .i64 m, .slice (some ⟨h1, 0, none⟩) xs.length xs.length, .slice (some ⟨h2, 0, none⟩) ys.length ys.length, .slice (some ⟨h3, 0, none⟩) ss.length ss.length] 34))
  have P2 := Lib.hid (ints_al J2.out (.cells #[.int .i64 m, .slice (some ⟨h1, 0, none⟩) xs.length xs.length, .slice (some ⟨h2, 0, none⟩) ys.length ys.length, .slice (some ⟨h3, 0, none⟩) ss.length ss.length] 34))
  have P3 := Lib.hid ((T3.out.row ls lt.out).al (.cells #[.int .i64 m, .slice (some ⟨h1, 0, none⟩) xs.length xs.length, .slice (some ⟨h2, 0, none⟩) ys.length ys.length, .slice (some ⟨h3, 0, none⟩) ss.length ss.length] 34))
  clear B3 K3 hb4 J1 J2 T3 k0 k1 k2 k3 kl
  obtain ⟨V, hV⟩ : ∃ V, V = w4.heap.size := ⟨_, rfl⟩
  have HV := Lib.hid hV
  obtain ⟨w4a, hw4a⟩ : ∃ w4a, w4a = w4.alloc (.cells #[.int .i64 m, .slice (some ⟨h1, 0, none⟩) xs.length xs.length, .slice (some ⟨h2, 0, none⟩) ys.length ys.length, .slice (some ⟨h3, 0, none⟩) ss.length ss.length] 34) := ⟨_, rfl⟩
  have HWA := Lib.hid hw4a
  rw [← hw4a] at B4 K4 X4 P1 P2 P3
  rw [← hV] at X4
  clear hV hw4a
  go_wp2_with fail
  rw [← HV.out, ← HWA.out]
  clear HV HWA
  refine (toIntS_own _ _ zs _ ((HZ.out.below B4.out).more B4.out.size) hz20).mono ?_
  rintro e w4b ⟨gy, rfl, hb4b, _, hoy⟩
  have B4b := Lib.hid (below_on B4.out hb4b)
  have K4b := Lib.hid (blk_b K4.out hb4b)
  have X4b := Lib.hid (blk_b X4.out hb4b)
  have P1b := Lib.hid ((P1.out.below hb4b).more hb4b.size)
  have P2b := Lib.hid ((P2.out.below hb4b).more hb4b.size)
  have P3b := Lib.hid (P3.out.on hb4b)
  have OY := Lib.hid hoy
  obtain ⟨_, _, hey, _, hiy⟩ := own_ints hoy (by unfold maxLen; omega)
  cases hey
  have IY := Lib.hid hiy
  clear hb4b hoy hiy B4 K4 X4 P1 P2 P3
  obtain ⟨x0, x1, x2, x3⟩ := four_cells X4b.out
  go_wp2_with fail
  refine (iCostOfRun_any _ _ _ _ _ _ _ _ _ _ _ zs _ l r hll _ P1b.out P2b.out P3b.out IY.out hwf HR.out).mono ?_
  rintro e w5 ⟨rfl, hb5⟩
  have B5 := Lib.hid (below_on B4b.out hb5.out)
  have K5 := Lib.hid (blk_b K4b.out hb5.out)
  have X5 := Lib.hid (blk_b X4b.out hb5.out)
  have Q1 := Lib.hid ((P1b.out.below hb5.out).more hb5.out.size)
  have Q2 := Lib.hid ((P2b.out.below hb5.out).more hb5.out.size)
  have Q3 := Lib.hid (P3b.out.on hb5.out)
  have OY5 := Lib.hid (own_under OY.out hb5.out)
  clear B4b K4b X4b P1b P2b P3b hb5 OY IY x0 x1 x2 x3
  have KS : Hid (∀ w', Below w5.heap.size w5 w' → (Hid (Below w5.heap.size w5 w') ∧ w'.cell? ⟨w.heap.size, 0, none⟩ = some (.int .i64 m) ∧ w'.cell? ⟨w.heap.size, 1, none⟩ = some (.slice A1 xs.length c1) ∧ w'.cell? ⟨w.heap.size, 2, none⟩ = some (.slice A2 ys.length c2) ∧ w'.cell? ⟨w.heap.size, 3, none⟩ = some (.slice A3 ss.length c3) ∧ w'.cell? ⟨V, 0, none⟩ = some (.int .i64 m) ∧ w'.cell? ⟨V, 1, none⟩ = some (.slice (some ⟨h1, 0, none⟩) xs.length xs.length) ∧ w'.cell? ⟨V, 2, none⟩ = some (.slice (some ⟨h2, 0, none⟩) ys.length ys.length) ∧ w'.cell? ⟨V, 3, none⟩ = some (.slice (some ⟨h3, 0, none⟩) ss.length ss.length))) := fun w' h => by
    have a := blk_b K5.out h
    have v := blk_b X5.out h
    exact ⟨h, a.cell 0, a.cell 1, a.cell 2, a.cell 3, v.cell 0, v.cell 1, v.cell 2, v.cell 3⟩
  go_wp2_with fail
  have hS0 := KS.out w5.drew ((Below.refl _ _).drew)
  go_region_held3 (fun w' => Hid (Below w5.heap.size w5 w') ∧ w'.cell? ⟨w.heap.size, 0, none⟩ = some (.int .i64 m) ∧ w'.cell? ⟨w.heap.size, 1, none⟩ = some (.slice A1 xs.length c1) ∧ w'.cell? ⟨w.heap.size, 2, none⟩ = some (.slice A2 ys.length c2) ∧ w'.cell? ⟨w.heap.size, 3, none⟩ = some (.slice A3 ss.length c3) ∧ w'.cell? ⟨V, 0, none⟩ = some (.int .i64 m) ∧ w'.cell? ⟨V, 1, none⟩ = some (.slice (some ⟨h1, 0, none⟩) xs.length xs.length) ∧ w'.cell? ⟨V, 2, none⟩ = some (.slice (some ⟨h2, 0, none⟩) ys.length ys.length) ∧ w'.cell? ⟨V, 3, none⟩ = some (.slice (some ⟨h3, 0, none⟩) ss.length ss.length)) (first | with_reducible assumption | skip)
    (first
      | (go_at_call 13; refine (toAutomaton_any _ _ _ _ _ _ _ _ _ _ _ ((HX.out.below (below_on B5.out hS0.1.out)).more (below_on B5.out hS0.1.out).size) ((HY.out.below (below_on B5.out hS0.1.out)).more (below_on B5.out hS0.1.out).size) (HS.out.on (below_on B5.out hS0.1.out)) sx sy sz).mono ?_; rintro e w6 ⟨i1, i2, i3, rfl, U1, U2, U3, hb6⟩; have hS1 := KS.out _ (below_on hS0.1.out hb6.out))
      | (go_at_call 16; refine (eqAutomaton_eq _ _ _ _ _ _ _ _ _ _ _ _ _ _ _ _ _ ((Q1.out.below hS1.1.out).more hS1.1.out.size) ((Q2.out.below hS1.1.out).more hS1.1.out.size) (Q3.out.on hS1.1.out) U1.out U2.out (U3.out.row ls lt.out)).mono ?_; rintro e w7 ⟨rfl, hb7⟩; have hS2 := KS.out _ (below_on hS1.1.out hb7.out)))
  have B7 := Lib.hid (below_on B5.out hS2.1.out)
  have OY7 := Lib.hid (own_under OY5.out hS2.1.out)
  clear hS0 hS1 hS2 K5 X5 Q1 Q2 Q3 KS OY5 B5 U1 U2 U3
  go_wp2_with fail
  refine (toIntS_own _ _ zs _ ((HZ.out.below B7.out).more B7.out.size) hz20).mono ?_
  rintro e w8 ⟨gx, rfl, hb8, _, hox⟩
  have B8 := Lib.hid (below_on B7.out hb8)
  have OY8 := Lib.hid (own_under OY7.out hb8)
  have OX8 := Lib.hid hox
  clear hb8 hox OY7 B7
  go_wp2_with fail
  refine (eq_own _ _ _ _ _ zs (by omega) OY8.out OX8.out).mono ?_
  rintro e w9 ⟨rfl, m9, h9⟩
  have B9 : Hid (Below w.heap.size w w9) := by
    show Below _ _ _
    rw [h9]; exact below_dr B8.out m9
  clear h9
  go_wp2_with fail
  go_ret
  exact ⟨rfl, B9.out⟩
end Go.Proofs.YthgkhpbfbilgmaaDoor
