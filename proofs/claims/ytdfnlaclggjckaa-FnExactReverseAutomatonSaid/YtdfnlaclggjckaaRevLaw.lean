/- The walk of the exact law FnExactReverseAutomaton: it returns true for all arguments; nothing that was there changes. No condition. -/
import Derived.Test.YtdfnlaclggjckaaRevI
import Derived.Test.YtdfnlaclggjckaaRevS
import Derived.Test.YtdfnlaclggjckaaToC
import Derived.Deep.RegionHeld3
namespace Go.Proofs.Ytdfnlaclggjckaa
open Go.RowKit
set_option maxHeartbeats 4000000
set_option maxRecDepth 100000
set_option linter.unusedVariables false

theorem FnExactReverseAutomaton_walk (ma : Int) (U1 : Option Addr) (d1 : Nat) (xs : List Int) (U2 : Option Addr) (d2 : Nat) (ys : List Int) (U3 : Option Addr) (d3 : Nat) (ss : List StepD) (w : World) (hx : IRow .i64 w w.heap.size U1 xs) (hy : IRow .i64 w w.heap.size U2 ys) (hs : SRow w w.heap.size U3 ss) :
    Calls Try.prog 11 #[.agg #[.int .i64 ma, .slice U1 xs.length d1, .slice U2 ys.length d2, .slice U3 ss.length d3]] w fun e w' => e = .returned (.bool true) ∧ Below w.heap.size w w' := by
  have lx := hx.len
  have ly := hy.len
  have ls := hs.1
  have lt := Lib.hid hs.2.1
  obtain ⟨⟨rm, rx, ry, rs, ok⟩, hr⟩ : ∃ r, r = revV ma xs ys ss := ⟨_, rfl⟩
  have hS := fun a1 a2 a3 c1 c2 c3 w0 (h1 : Ints w0 w0.heap.size (some a1) xs) (h2 : Ints w0 w0.heap.size (some a2) ys) (h3 : SRow w0 w0.heap.size (some a3) ss) l1 l2 l3 => sRev_any ma a1 a2 a3 c1 c2 c3 xs ys ss w0 h1 h2 h3 l1 l2 l3
  have hI := fun A1 A2 A3 c1 c2 c3 w0 (h1 : Ints w0 w0.heap.size A1 xs) (h2 : Ints w0 w0.heap.size A2 ys) (h3 : SRow w0 w0.heap.size A3 ss) => iRev_any ma A1 A2 A3 c1 c2 c3 xs ys ss w0 h1 h2 h3
  rw [← hr] at hS hI
  unfold SEnd at hS
  unfold AEnd at hI
  dsimp only at hS hI
  have HSP := Lib.hid hS
  have HI := Lib.hid hI
  clear hS hI hr
  have HX := Lib.hid hx
  have HY := Lib.hid hy
  have HS := Lib.hid hs
  have B0 := Lib.hid (below_a1 w (.cells #[.int .i64 ma, .slice U1 xs.length d1, .slice U2 ys.length d2, .slice U3 ss.length d3] 25))
  have K0 := Lib.hid (Blk.new w 25 #[.int .i64 ma, .slice U1 xs.length d1, .slice U2 ys.length d2, .slice U3 ss.length d3])
  clear hx hy hs
  go_enter Try.func11, Try.ntmps11
  go_wp2_with fail
  refine (szAutomaton_any _ _ _ _ _ _ _ _ _ _ _ lx ly (HS.out.on B0.out)).mono ?_
  rintro e w1 ⟨v, rfl, v0, v1, hv, hb1⟩
  have B1 := Lib.hid (below_on B0.out hb1.out)
  have K1 := Lib.hid (blk_b K0.out hb1.out)
  clear B0 K0 hb1
  by_cases hvn : v < 0
  · go_wp2_with fail
    go_ret
    exact ⟨rfl, B1.out⟩
  obtain ⟨sx, sy, sz⟩ := hv (by omega)
  clear hv
  obtain ⟨k0, k1, k2, k3⟩ := four_cells K1.out
  have kl := Blk.lt K1.out
  go_wp2_with fail
  refine (toAutomaton_any _ _ _ _ _ _ _ _ _ _ _ ((HX.out.below B1.out).more B1.out.size) ((HY.out.below B1.out).more B1.out.size) (HS.out.on B1.out) sx sy sz).mono ?_
  rintro e w2 ⟨p1, p2, p3, rfl, I1, I2, S3, hb2⟩
  have B2 := Lib.hid (below_on B1.out hb2.out)
  have K2 := Lib.hid (blk_b K1.out hb2.out)
  clear B1 K1 hb2 k0 k1 k2 k3 kl
  go_wp2_with fail
  refine (HSP.out _ _ _ _ _ _ _ I1.out I2.out (S3.out.row ls lt.out) sx sy sz).mono ?_
  rintro e w3 ⟨u1, u2, u3, rfl, hr3, hb3⟩
  obtain ⟨⟨F1, e1, he1, _⟩, ⟨F2, e2, he2, _⟩, ⟨F3, e3, he3, _⟩⟩ := And.intro hr3.1 (And.intro hr3.2.1 hr3.2.2)
  subst he1
  subst he2
  subst he3
  obtain ⟨P, hP⟩ : ∃ P, P = w3.heap.size := ⟨_, rfl⟩
  have B3 := Lib.hid (below_on B2.out hb3)
  have K3 := Lib.hid (blk_b K2.out hb3)
  have R3 : Hid (ARead w3 P (.slice F1 rx.length e1) (.slice F2 ry.length e2) (.slice F3 rs.length e3) rx ry rs) := by rw [hP]; exact hr3
  clear hb3 I1 I2 S3 hr3 B2 K2
  have B3a := Lib.hid (below_al B3.out (Nat.le_refl _) (.cells #[.int .i64 rm, (.slice F1 rx.length e1), (.slice F2 ry.length e2), (.slice F3 rs.length e3)] 29))
  have K3a := Lib.hid (K3.out.alloc (.cells #[.int .i64 rm, (.slice F1 rx.length e1), (.slice F2 ry.length e2), (.slice F3 rs.length e3)] 29))
  have P3a : Hid (Blk (w3.alloc (.cells #[.int .i64 rm, (.slice F1 rx.length e1), (.slice F2 ry.length e2), (.slice F3 rs.length e3)] 29)) P 29 #[.int .i64 rm, (.slice F1 rx.length e1), (.slice F2 ry.length e2), (.slice F3 rs.length e3)]) := by rw [hP]; exact Blk.new _ _ _
  have R3a : Hid (ARead (w3.alloc (.cells #[.int .i64 rm, (.slice F1 rx.length e1), (.slice F2 ry.length e2), (.slice F3 rs.length e3)] 29)) P (.slice F1 rx.length e1) (.slice F2 ry.length e2) (.slice F3 rs.length e3) rx ry rs) := R3.out.below (by rw [hP]; exact (Below.refl _ _).alloc (Nat.le_refl _) _)
  have k0 : ∀ o, (w3.alloc o).cell? ⟨w.heap.size, 0, none⟩ = some (.int .i64 ma) := fun o => (K3.out.alloc o).cell 0
  have k1 : ∀ o, (w3.alloc o).cell? ⟨w.heap.size, 1, none⟩ = some (.slice U1 xs.length d1) := fun o => (K3.out.alloc o).cell 1
  have k2 : ∀ o, (w3.alloc o).cell? ⟨w.heap.size, 2, none⟩ = some (.slice U2 ys.length d2) := fun o => (K3.out.alloc o).cell 2
  have k3 : ∀ o, (w3.alloc o).cell? ⟨w.heap.size, 3, none⟩ = some (.slice U3 ss.length d3) := fun o => (K3.out.alloc o).cell 3
  have hP3 : w3.heap.size = P := hP.symm
  have HP := Lib.hid hP
  clear hP
  go_wp2_with fail
  refine (toAutomaton_own _ _ _ _ _ _ _ _ _ _ _ ((HX.out.below B3a.out).more B3a.out.size) ((HY.out.below B3a.out).more B3a.out.size) (HS.out.on B3a.out) sx sy sz).mono ?_
  rintro e w4 ⟨g1, g2, g3, rfl, hg1, hg12, hg23, J1, J2, T3, hb4⟩
  have B4 := Lib.hid (below_on B3a.out hb4.out)
  have K4 := Lib.hid (blk_b K3a.out hb4.out)
  have P4 := Lib.hid (blk_b P3a.out hb4.out)
  have R4 := Lib.hid (R3a.out.below (hb4.out.mono (by simp; omega)))
  have J14 := Lib.hid (own_base J1.out (show w.heap.size ≤ _ from B3a.out.size))
  have J24 := Lib.hid (own_base J2.out (show w.heap.size ≤ _ from B3a.out.size))
  have hg3w : g3 < w4.heap.size := Blk.lt T3.out
  have hNP : w.heap.size < P := by rw [HP.out]; exact Blk.lt K3.out
  have hPg : P + 1 ≤ g1 := by rw [HP.out]; simp at hg1; omega
  have hP4 : P < w4.heap.size := Blk.lt P4.out
  (try rw [hP3])
  clear hb4 J1 J2 R3 R3a B3 B3a K3 K3a P3a hg1 hP3 HP k0 k1 k2 k3
  go_wp2_with fail
  obtain ⟨X, hX⟩ : ∃ X, X = w4.heap.size := ⟨_, rfl⟩
  rw [← hX]
  obtain ⟨w5, hw5⟩ : ∃ w5, w5 = w4.alloc (.cells #[.int .i64 ma, .slice (some ⟨g1, 0, none⟩) xs.length xs.length, .slice (some ⟨g2, 0, none⟩) ys.length ys.length, .slice (some ⟨g3, 0, none⟩) ss.length ss.length] 29) := ⟨_, rfl⟩
  rw [← hw5]
  have A5b : Hid (Blk w5 w.heap.size 25 #[.int .i64 ma, .slice U1 xs.length d1, .slice U2 ys.length d2, .slice U3 ss.length d3]) := by rw [hw5]; exact K4.out.alloc _
  have P5 : Hid (Blk w5 P 29 #[.int .i64 rm, (.slice F1 rx.length e1), (.slice F2 ry.length e2), (.slice F3 rs.length e3)]) := by rw [hw5]; exact P4.out.alloc _
  have XB5 : Hid (Blk w5 X 29 #[.int .i64 ma, .slice (some ⟨g1, 0, none⟩) xs.length xs.length, .slice (some ⟨g2, 0, none⟩) ys.length ys.length, .slice (some ⟨g3, 0, none⟩) ss.length ss.length]) := by rw [hw5, hX]; exact Blk.new _ _ _
  have R5 : Hid (ARead w5 P (.slice F1 rx.length e1) (.slice F2 ry.length e2) (.slice F3 rs.length e3) rx ry rs) := by rw [hw5]; exact R4.out.below ((Below.refl _ _).alloc (Nat.le_refl _) _ |>.mono (by omega))
  have J15 : Hid (w5.ownsRow w.heap.size 3 1 (.slice (some ⟨g1, 0, none⟩) xs.length xs.length) xs.length (xs.map (Value.int .i64))) := by rw [hw5]; exact J14.out.alloc _
  have J25 : Hid (w5.ownsRow w.heap.size 3 1 (.slice (some ⟨g2, 0, none⟩) ys.length ys.length) ys.length (ys.map (Value.int .i64))) := by rw [hw5]; exact J24.out.alloc _
  have T5 : Hid (SBlk w5 g3 73 ss) := by rw [hw5]; exact Blk.alloc T3.out _
  have B5 : Hid (Below w.heap.size w w5) := by rw [hw5]; exact below_al B4.out (Nat.le_refl _) _
  have hXw : X < w5.heap.size := Blk.lt XB5.out
  have hgX : g3 < X := by rw [hX]; exact hg3w
  clear hw5 hX R4 P4 K4 J14 J24 T3 B4 hg3w hP4
  have XI : Hid (∀ w', Below w5.heap.size w5 w' → Ints w' w'.heap.size (some ⟨g1, 0, none⟩) xs ∧ Ints w' w'.heap.size (some ⟨g2, 0, none⟩) ys ∧ SRow w' w'.heap.size (some ⟨g3, 0, none⟩) ss) := fun w' h => by
    obtain ⟨_, _, e1, _, i1⟩ := own_ints (own_under J15.out h) (by unfold maxLen; omega)
    obtain ⟨_, _, e2, _, i2⟩ := own_ints (own_under J25.out h) (by unfold maxLen; omega)
    cases e1
    cases e2
    exact ⟨i1, i2, (T5.out.row ls lt.out).on h⟩
  refine (HI.out _ _ _ _ _ _ _ (XI.out _ (Below.refl _ _)).1 (XI.out _ (Below.refl _ _)).2.1 (XI.out _ (Below.refl _ _)).2.2).mono ?_
  rintro e w6 ⟨v1, v2, v3, rfl, ho6, hb6⟩
  obtain ⟨⟨G1, d1', he1, _⟩, ⟨G2, d2', he2, _⟩, ⟨G3, d3', he3, _⟩⟩ := ho6.read
  subst he1
  subst he2
  subst he3
  have B6 := Lib.hid (below_on B5.out hb6)
  have H6 := Lib.hid hb6
  have A6b := Lib.hid (blk_b A5b.out hb6)
  have P6 := Lib.hid (blk_b P5.out hb6)
  have XB6 := Lib.hid (blk_b XB5.out hb6)
  have R6 := Lib.hid (R5.out.below (hb6.mono (by omega)))
  have J16 := Lib.hid (own_under J15.out hb6)
  have J26 := Lib.hid (own_under J25.out hb6)
  have T6 : Hid (SBlk w6 g3 73 ss) := blk_b T5.out hb6
  have G6 := Lib.hid ho6
  obtain ⟨E, hE⟩ : ∃ E, E = w5.heap.size := ⟨_, rfl⟩
  have G6 : Hid (AOwn w6 E (.slice G1 rx.length d1') (.slice G2 ry.length d2') (.slice G3 rs.length d3') rx ry rs) := by rw [hE]; exact ho6
  have hXE : X < E := by rw [hE]; exact hXw
  have hw56 : E ≤ w6.heap.size := by rw [hE]; exact hb6.size
  have hBE : w.heap.size ≤ E := by rw [hE]; exact B5.out.size
  have p0 : ∀ o, (w6.alloc o).cell? ⟨P, 0, none⟩ = some (.int .i64 rm) := fun o => (P6.out.alloc o).cell 0
  have p1 : ∀ o, (w6.alloc o).cell? ⟨P, 1, none⟩ = some (.slice F1 rx.length e1) := fun o => (P6.out.alloc o).cell 1
  have p2 : ∀ o, (w6.alloc o).cell? ⟨P, 2, none⟩ = some (.slice F2 ry.length e2) := fun o => (P6.out.alloc o).cell 2
  have p3 : ∀ o, (w6.alloc o).cell? ⟨P, 3, none⟩ = some (.slice F3 rs.length e3) := fun o => (P6.out.alloc o).cell 3
  clear hb6 ho6
  go_wp2_with fail
  obtain ⟨Q, hQ⟩ : ∃ Q, Q = w6.heap.size := ⟨_, rfl⟩
  obtain ⟨w6a, hw6a⟩ : ∃ w6a, w6a = w6.alloc (.cells #[.int .i64 rm, (.slice G1 rx.length d1'), (.slice G2 ry.length d2'), (.slice G3 rs.length d3')] 29) := ⟨_, rfl⟩
  (try rw [← hw6a])
  have hb6a : Below w6.heap.size w6 w6a := by rw [hw6a]; exact (Below.refl _ _).alloc (Nat.le_refl _) _
  have G6a := Lib.hid (G6.out.under hb6a)
  have R6a := Lib.hid (R6.out.below (hb6a.mono (by omega)))
  have Q6a : Hid (Blk w6a Q 29 #[.int .i64 rm, (.slice G1 rx.length d1'), (.slice G2 ry.length d2'), (.slice G3 rs.length d3')]) := by rw [hw6a, hQ]; exact Blk.new _ _ _
  have hE6a : E ≤ w6a.heap.size := Nat.le_trans hw56 hb6a.size
  refine (eqA_read _ _ _ _ _ _ _ _ _ _ _ P (by omega) G6a.out.read R6a.out).mono ?_
  rintro e u1w ⟨rfl, hbu⟩
  have Q7 := Lib.hid (blk_b Q6a.out hbu)
  have hb67 : Below w6.heap.size w6 u1w := hb6a.trans (hbu.mono hb6a.size)
  have B7 := Lib.hid (below_on B6.out hb67)
  have H7 := Lib.hid (below_on H6.out hb67)
  have A7b := Lib.hid (blk_b A6b.out hb67)
  have P7 := Lib.hid (blk_b P6.out hb67)
  have XB7 := Lib.hid (blk_b XB6.out hb67)
  have R7 := Lib.hid (R6a.out.below (hbu.mono (by omega)))
  have J17 := Lib.hid (own_under J16.out hb67)
  have J27 := Lib.hid (own_under J26.out hb67)
  have T7 : Hid (SBlk u1w g3 73 ss) := blk_b T6.out hb67
  have G7 := Lib.hid (G6a.out.under hbu)
  have hEQ : E ≤ Q := by rw [hQ]; exact hw56
  have hQw : Q < u1w.heap.size := Blk.lt Q7.out
  rw [← hQ]
  have K : Hid (∀ w', Below u1w.heap.size u1w w' → (Hid (Below u1w.heap.size u1w w') ∧ w'.cell? ⟨w.heap.size, 0, none⟩ = some (.int .i64 ma) ∧ w'.cell? ⟨w.heap.size, 1, none⟩ = some (.slice U1 xs.length d1) ∧ w'.cell? ⟨w.heap.size, 2, none⟩ = some (.slice U2 ys.length d2) ∧ w'.cell? ⟨w.heap.size, 3, none⟩ = some (.slice U3 ss.length d3) ∧ w'.cell? ⟨X, 0, none⟩ = some (.int .i64 ma) ∧ w'.cell? ⟨X, 1, none⟩ = some (.slice (some ⟨g1, 0, none⟩) xs.length xs.length) ∧ w'.cell? ⟨X, 2, none⟩ = some (.slice (some ⟨g2, 0, none⟩) ys.length ys.length) ∧ w'.cell? ⟨X, 3, none⟩ = some (.slice (some ⟨g3, 0, none⟩) ss.length ss.length))) := fun w' h => by
    have a := blk_b A7b.out h
    have x := blk_b XB7.out h
    exact ⟨h, a.cell 0, a.cell 1, a.cell 2, a.cell 3, x.cell 0, x.cell 1, x.cell 2, x.cell 3⟩
  have KX : Hid (∀ w', Below u1w.heap.size u1w w' → Ints w' w'.heap.size (some ⟨g1, 0, none⟩) xs ∧ Ints w' w'.heap.size (some ⟨g2, 0, none⟩) ys ∧ SRow w' w'.heap.size (some ⟨g3, 0, none⟩) ss) := fun w' h => XI.out _ (below_on H7.out h)
  have hS0 := K.out u1w.drew ((Below.refl _ _).drew)
  clear hbu hb67 hb6a hw6a Q6a G6a R6a hE6a hQ p0 p1 p2 p3 A6b P6 XB6 R6 J16 J26 T6 G6 A5b P5 XB5 R5 J15 J25 T5 B6 H6 hw56
  go_wp2_with fail
  go_region_held3 (fun w' => Hid (Below u1w.heap.size u1w w') ∧ w'.cell? ⟨w.heap.size, 0, none⟩ = some (.int .i64 ma) ∧ w'.cell? ⟨w.heap.size, 1, none⟩ = some (.slice U1 xs.length d1) ∧ w'.cell? ⟨w.heap.size, 2, none⟩ = some (.slice U2 ys.length d2) ∧ w'.cell? ⟨w.heap.size, 3, none⟩ = some (.slice U3 ss.length d3) ∧ w'.cell? ⟨X, 0, none⟩ = some (.int .i64 ma) ∧ w'.cell? ⟨X, 1, none⟩ = some (.slice (some ⟨g1, 0, none⟩) xs.length xs.length) ∧ w'.cell? ⟨X, 2, none⟩ = some (.slice (some ⟨g2, 0, none⟩) ys.length ys.length) ∧ w'.cell? ⟨X, 3, none⟩ = some (.slice (some ⟨g3, 0, none⟩) ss.length ss.length)) (first | with_reducible assumption | with_reducible exact K.out _ (by with_reducible assumption) | skip)
    (first
      | (go_at_call 15; refine (toAutomaton_any _ _ _ _ _ _ _ _ _ _ _ ((HX.out.below (below_on B7.out hS0.1.out)).more (below_on B7.out hS0.1.out).size) ((HY.out.below (below_on B7.out hS0.1.out)).more (below_on B7.out hS0.1.out).size) (HS.out.on (below_on B7.out hS0.1.out)) sx sy sz).mono ?_; rintro e w8 ⟨i1, i2, i3, rfl, Y1, Y2, Y3, hb8⟩; have hS1 := K.out _ (below_on hS0.1.out hb8.out))
      | (go_at_call 17; refine (eqAutomaton_eq _ _ _ _ _ _ _ _ _ _ _ _ _ _ _ _ _ (KX.out _ hS1.1.out).1 (KX.out _ hS1.1.out).2.1 (KX.out _ hS1.1.out).2.2 Y1.out Y2.out (Y3.out.row ls lt.out)).mono ?_; rintro e w9 ⟨rfl, hb9⟩; have hS2 := K.out _ (below_on hS1.1.out hb9.out)))
  clear Y1 Y2 Y3 hS0 hS1
  have B9 := Lib.hid (below_on B7.out hS2.1.out)
  have A9b := Lib.hid (blk_b A7b.out hS2.1.out)
  have P9 := Lib.hid (blk_b P7.out hS2.1.out)
  have Q9 := Lib.hid (blk_b Q7.out hS2.1.out)
  have R9 := Lib.hid (R7.out.below (hS2.1.out.mono (by omega)))
  have J19 := Lib.hid (own_under J17.out hS2.1.out)
  have J29 := Lib.hid (own_under J27.out hS2.1.out)
  have T9 := Lib.hid (T7.out.below hS2.1.out)
  have G9 := Lib.hid (G7.out.under hS2.1.out)
  have hw9 : Q < _ := Blk.lt Q9.out
  clear A7b P7 XB7 Q7 R7 J17 J27 T7 G7 K KX XI H7
  obtain ⟨_, _, _, _, _, x0, x1, x2, x3⟩ := hS2
  go_wp2_with fail
  refine (markAutomaton_in _ g1 g2 g3 _ _ _ (P + 1) X _ _ _ _ _ _ _ ss _ (by omega) (by omega) (by omega) rfl J19.out J29.out T9.out (by omega) hg12 hg23 hgX (by omega)).mono ?_
  rintro e v1w ⟨he, hins⟩
  obtain ⟨kk, hkk⟩ : ∃ kk : Nat, kk = 1 + xs.length + ys.length + 4 * ss.length := ⟨_, rfl⟩
  rw [← hkk] at he
  subst he
  have hk0 : ¬ ((kk : Nat) : Int) < 0 := by omega
  have hk1 : (0 : Int) ≤ ((kk : Nat) : Int) := by omega
  have RX := Lib.hid (R9.out.below (hins.out.under (by omega) (by omega)))
  have GX := Lib.hid (hins.out.aown G9.out (by omega))
  have PX := Lib.hid (hins.out.blk P9.out (Or.inl (by omega)))
  have QX := Lib.hid (hins.out.blk Q9.out (Or.inr (by omega)))
  have AX := Lib.hid (hins.out.blk A9b.out (Or.inl (by omega)))
  have BX := Lib.hid (hins.out.below B9.out (by omega) B9.out.size)
  obtain ⟨y0, y1, y2, y3⟩ := four_cells PX.out
  obtain ⟨z0, z1, z2, z3⟩ := four_cells QX.out
  have hQX := Blk.lt QX.out
  clear hins x0 x1 x2 x3 R9 G9 P9 Q9 A9b J19 J29 T9 hkk hw9
  go_wp2_with fail
  refine (eqA_read _ _ _ _ _ _ _ _ _ _ _ P (by omega) GX.out.read RX.out).mono ?_
  rintro e t1 ⟨rfl, hbt1⟩
  have BT1 := Lib.hid (below_on BX.out hbt1)
  have RT1 := Lib.hid (RX.out.below (hbt1.mono (by omega)))
  have GT1 := Lib.hid (GX.out.under hbt1)
  have PT1 := Lib.hid (PX.out.below hbt1 (Blk.lt PX.out))
  have QT1 := Lib.hid (QX.out.below hbt1 (Blk.lt QX.out))
  have AT1 := Lib.hid (AX.out.below hbt1 (Blk.lt AX.out))
  have hQT1 := Blk.lt QT1.out
  clear hbt1 y0 y1 y2 y3 z0 z1 z2 z3 RX GX PX QX AX BX
  obtain ⟨z0, z1, z2, z3⟩ := four_cells QT1.out
  go_wp2_with fail
  refine (markA_own _ _ _ _ _ _ _ E _ (by omega) GT1.out).mono ?_
  rintro e t2 ⟨rfl, hot2, hgt2, hkeep⟩
  have RT2 := Lib.hid (RT1.out.below (hgt2.mono (by omega)))
  have OB2 := Lib.hid hot2
  have PT2 : Hid (Blk t2 P 29 #[.int .i64 rm, (.slice F1 rx.length e1), (.slice F2 ry.length e2), (.slice F3 rs.length e3)]) := (hgt2.block P (by omega)).trans PT1.out
  have AT2 : Hid (Blk t2 w.heap.size 25 #[.int .i64 ma, .slice U1 xs.length d1, .slice U2 ys.length d2, .slice U3 ss.length d3]) := (hgt2.block _ (by omega)).trans AT1.out
  have BT2 := Lib.hid (BT1.out.trans (hgt2.mono hBE))
  have QT2 := Lib.hid (hkeep Q _ QT1.out)
  have hEt2 : E ≤ t2.heap.size := Nat.le_trans (by omega) hgt2.size
  obtain ⟨mm, hmm⟩ : ∃ mm : Nat, mm = 1 + rx.length + ry.length + 4 * rs.length := ⟨_, rfl⟩
  rw [← hmm]
  have HMM := Lib.hid hmm
  have hm0 : ¬ ((mm : Nat) : Int) < 0 := by omega
  clear hot2 hgt2 hkeep hmm z0 z1 z2 z3 RT1 GT1 PT1 QT1 AT1 BT1
  obtain ⟨z0, z1, z2, z3⟩ := four_cells QT2.out
  go_wp2_with fail
  refine (heldA_own _ _ _ _ _ _ _ E _ hEt2 OB2.out).mono ?_
  rintro e t3 ⟨he, hbt3⟩
  rw [← HMM.out] at he
  subst he
  have BT3 := Lib.hid (below_on BT2.out hbt3)
  have RT3 := Lib.hid (RT2.out.below (hbt3.mono (by omega)))
  have OB3 := Lib.hid (OB2.out.under hbt3)
  have PT3 := Lib.hid (PT2.out.below hbt3 (Blk.lt PT2.out))
  have QT3 := Lib.hid (QT2.out.below hbt3 (Blk.lt QT2.out))
  have AT3 := Lib.hid (AT2.out.below hbt3 (Blk.lt AT2.out))
  have hEt3 : E ≤ t3.heap.size := Nat.le_trans hEt2 hbt3.size
  obtain ⟨Au0, Au1, Au2, Au3⟩ := four_cells AT3.out
  clear hbt3 z0 z1 z2 z3 RT2 OB2 PT2 QT2 AT2 BT2
  obtain ⟨y0, y1, y2, y3⟩ := four_cells PT3.out
  obtain ⟨z0, z1, z2, z3⟩ := four_cells QT3.out
  go_wp2_with fail
  refine (toAutomaton_any _ _ _ _ _ _ _ _ _ _ _ ((HX.out.below BT3.out).more BT3.out.size) ((HY.out.below BT3.out).more BT3.out.size) (HS.out.on BT3.out) sx sy sz).mono ?_
  rintro e t4 ⟨q1, q2, q3, rfl, V1, V2, V3, hbt4'⟩
  have hbt4 := hbt4'.out
  have BT4 := Lib.hid (below_on BT3.out hbt4)
  have RT4 := Lib.hid (RT3.out.below (hbt4.mono (by omega)))
  have OB4 := Lib.hid (OB3.out.under hbt4)
  have PT4 := Lib.hid (PT3.out.below hbt4 (Blk.lt PT3.out))
  have QT4 := Lib.hid (QT3.out.below hbt4 (Blk.lt QT3.out))
  have hEt4 : E ≤ t4.heap.size := Nat.le_trans hEt3 hbt4.size
  clear hbt4 hbt4' Au0 Au1 Au2 Au3 y0 y1 y2 y3 z0 z1 z2 z3 RT3 OB3 PT3 QT3 AT3 BT3
  go_wp2_with fail
  refine (HI.out _ _ _ _ _ _ _ V1.out V2.out (V3.out.row ls lt.out)).mono ?_
  rintro e t5 ⟨h1, h2, h3, rfl, ho5, hb5⟩
  obtain ⟨⟨H1, l1, he1, _⟩, ⟨H2, l2, he2, _⟩, ⟨H3, l3, he3, _⟩⟩ := ho5.read
  subst he1
  subst he2
  subst he3
  have BT5 := Lib.hid (below_on BT4.out hb5)
  have RT5 := Lib.hid (RT4.out.below (hb5.mono (by omega)))
  have OB5 := Lib.hid (OB4.out.under hb5)
  have PT5 := Lib.hid (PT4.out.below hb5 (Blk.lt PT4.out))
  have QT5 := Lib.hid (QT4.out.below hb5 (Blk.lt QT4.out))
  have HO5 := Lib.hid ho5
  have hEt5 : E ≤ t5.heap.size := Nat.le_trans hEt4 hb5.size
  clear hb5 ho5 RT4 OB4 PT4 QT4 BT4
  have y0 : ∀ o, (t5.alloc o).cell? ⟨P, 0, none⟩ = some (.int .i64 rm) := fun o => (PT5.out.alloc o).cell 0
  have y1 : ∀ o, (t5.alloc o).cell? ⟨P, 1, none⟩ = some (.slice F1 rx.length e1) := fun o => (PT5.out.alloc o).cell 1
  have y2 : ∀ o, (t5.alloc o).cell? ⟨P, 2, none⟩ = some (.slice F2 ry.length e2) := fun o => (PT5.out.alloc o).cell 2
  have y3 : ∀ o, (t5.alloc o).cell? ⟨P, 3, none⟩ = some (.slice F3 rs.length e3) := fun o => (PT5.out.alloc o).cell 3
  go_wp2_with fail
  obtain ⟨t5a, ht5a⟩ : ∃ t5a, t5a = t5.alloc (.cells #[.int .i64 rm, (.slice H1 rx.length l1), (.slice H2 ry.length l2), (.slice H3 rs.length l3)] 29) := ⟨_, rfl⟩
  (try rw [← ht5a])
  have hb5a : Below t5.heap.size t5 t5a := by rw [ht5a]; exact (Below.refl _ _).alloc (Nat.le_refl _) _
  have H5a := HO5.out.under hb5a
  have R5a := RT5.out.below (hb5a.mono (by omega))
  have hE5a : E ≤ t5a.heap.size := Nat.le_trans hEt5 hb5a.size
  refine (eqA_read _ _ _ _ _ _ _ _ _ _ _ P (by omega) H5a.read R5a).mono ?_
  rintro e t6 ⟨rfl, hb6⟩
  have hb56 : Below t5.heap.size t5 t6 := hb5a.trans (hb6.mono hb5a.size)
  have BT6 := Lib.hid (below_on BT5.out hb56)
  have OB6 := Lib.hid (OB5.out.under hb56)
  have QT6 := Lib.hid (QT5.out.below hb56 (Blk.lt QT5.out))
  have hEt6 : E ≤ t6.heap.size := Nat.le_trans hEt5 hb56.size
  clear hb6 hb56 H5a R5a hE5a hb5a ht5a y0 y1 y2 y3 RT5 OB5 PT5 QT5 BT5 HO5
  obtain ⟨z0, z1, z2, z3⟩ := four_cells QT6.out
  go_wp2_with fail
  refine (heldA_own _ _ _ _ _ _ _ E _ hEt6 OB6.out).mono ?_
  rintro e t7 ⟨he, hb7⟩
  rw [← HMM.out] at he
  subst he
  go_wp2_with fail
  go_ret
  exact ⟨rfl, below_on BT6.out hb7⟩
end Go.Proofs.Ytdfnlaclggjckaa
