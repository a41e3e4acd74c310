/- The walk of the exact law FnExactFreeWords: it returns true for all arguments; nothing that was there changes. No condition. -/
import Derived.Test.YtlfffoglldobeaaFreeW
import Derived.Test.YtlfffoglldobeaaStrs
import Derived.Test.YtlfffoglldobeaaMarkA
import Derived.Test.YtlfffoglldobeaaToC
import Derived.Deep.RegionHeld3
namespace Go.Proofs.Ytlfffoglldobeaa
open Go.RowKit
set_option maxHeartbeats 4000000
set_option maxRecDepth 100000
set_option linter.unusedVariables false

theorem FnExactFreeWords_walk (ma : Int) (U1 : Option Addr) (d1 : Nat) (xs : List Int) (U2 : Option Addr) (d2 : Nat) (ys : List Int) (U3 : Option Addr) (d3 : Nat) (ss : List StepD) (k : Int) (wk : (Lit.int .i64 k).wf = true) (w : World) (hx : IRow .i64 w w.heap.size U1 xs) (hy : IRow .i64 w w.heap.size U2 ys) (hs : SRow w w.heap.size U3 ss) :
    Calls Try.prog 3 #[.agg #[.int .i64 ma, .slice U1 xs.length d1, .slice U2 ys.length d2, .slice U3 ss.length d3], .int .i64 k] w fun e w' => e = .returned (.bool true) ∧ Below w.heap.size w w' := by
  have lx := hx.len
  have ly := hy.len
  have ls := hs.1
  have lt := Lib.hid hs.2.1
  obtain ⟨hok0, hlen0⟩ := zeroR_ok ma xs ys ss k
  obtain ⟨r, hr⟩ : ∃ r, r = zeroR ma xs ys ss k := ⟨_, rfl⟩
  obtain ⟨vs, hvs⟩ : ∃ vs, vs = r.getD [] := ⟨_, rfl⟩
  obtain ⟨ok, hok⟩ : ∃ ok, ok = r.isSome := ⟨_, rfl⟩
  have hS := fun A1 A2 A3 c1 c2 c3 w0 (h1 : Ints w0 w0.heap.size A1 xs) (h2 : Ints w0 w0.heap.size A2 ys) (h3 : SRow w0 w0.heap.size A3 ss) => sFreeW_any ma A1 A2 A3 c1 c2 c3 xs ys ss k w0 h1 h2 h3
  have hI := fun A1 A2 A3 c1 c2 c3 w0 (h1 : Ints w0 w0.heap.size A1 xs) (h2 : Ints w0 w0.heap.size A2 ys) (h3 : SRow w0 w0.heap.size A3 ss) => iFreeW_any ma A1 A2 A3 c1 c2 c3 xs ys ss k w0 h1 h2 h3
  unfold ZEnd at hS hI
  rw [← hr, ← hvs, ← hok] at hS hI
  rw [← hr, ← hvs] at hok0 hlen0
  have HOK := Lib.hid hok0
  have hlv : vs.length ≤ 1048577 := by omega
  clear hok0 hlen0
  have HSP := Lib.hid hS
  have HI := Lib.hid hI
  clear hS hI hr hvs hok
  have HX := Lib.hid hx
  have HY := Lib.hid hy
  have HS := Lib.hid hs
  have B0 := Lib.hid (below_a1 w (.cells #[.int .i64 ma, .slice U1 xs.length d1, .slice U2 ys.length d2, .slice U3 ss.length d3] 25))
  have K0 := Lib.hid (Blk.new w 25 #[.int .i64 ma, .slice U1 xs.length d1, .slice U2 ys.length d2, .slice U3 ss.length d3])
  clear hx hy hs
  go_enter Try.func3, Try.ntmps3
  go_wp2_with fail
  refine (szAutomaton_any _ _ _ _ _ _ _ _ _ _ _ lx ly (HS.out.on B0.out)).mono ?_
  rintro e w1 ⟨v, rfl, v0, v1, hv, hb1⟩
  have B1 := Lib.hid (below_on B0.out hb1.out)
  have K1 := Lib.hid (blk_b K0.out hb1.out)
  clear B0 K0 hb1
  by_cases hvn : v < 0
  · go_wp2_with fail
    go_ret
    exact ⟨rfl, B1.out⟩
  obtain ⟨sx, sy, sz⟩ := hv (by omega)
  clear hv
  obtain ⟨k0, k1, k2, k3⟩ := four_cells K1.out
  have kl := Blk.lt K1.out
  go_wp2_with fail
  refine (toAutomaton_any _ _ _ _ _ _ _ _ _ _ _ ((HX.out.below B1.out).more B1.out.size) ((HY.out.below B1.out).more B1.out.size) (HS.out.on B1.out) sx sy sz).mono ?_
  rintro e w2 ⟨p1, p2, p3, rfl, I1, I2, S3, hb2⟩
  have B2 := Lib.hid (below_on B1.out hb2.out)
  have K2 := Lib.hid (blk_b K1.out hb2.out)
  clear B1 K1 hb2 k0 k1 k2 k3 kl
  go_wp2_with fail
  refine (HSP.out _ _ _ _ _ _ _ I1.out I2.out (S3.out.row ls lt.out)).mono ?_
  rintro e w3 ⟨x0, rfl, ho3, hb3⟩
  have B3 := Lib.hid (below_on B2.out hb3)
  have K3 := Lib.hid (blk_b K2.out hb3)
  have O3 := Lib.hid (own_base ho3 B2.out.size)
  have D1 : Hid (∀ j, x0.ownBlock = some j → j < w3.heap.size) := fun j hj => (ho3.lt j hj).2
  clear hb3 I1 I2 S3 ho3 B2 K2
  obtain ⟨k0, k1, k2, k3⟩ := four_cells K3.out
  go_wp2_with fail
  refine (toAutomaton_own _ _ _ _ _ _ _ _ _ _ _ ((HX.out.below B3.out).more B3.out.size) ((HY.out.below B3.out).more B3.out.size) (HS.out.on B3.out) sx sy sz).mono ?_
  rintro e w4 ⟨g1, g2, g3, rfl, hg1, hg12, hg23, J1, J2, T3, hb4⟩
  obtain ⟨P, hP⟩ : ∃ P, P = w3.heap.size := ⟨_, rfl⟩
  have B4 := Lib.hid (below_on B3.out hb4.out)
  have K4 := Lib.hid (blk_b K3.out hb4.out)
  have O4 := Lib.hid (own_under O3.out hb4.out)
  have J14 := Lib.hid (own_base J1.out (show w.heap.size ≤ _ from B3.out.size))
  have J24 := Lib.hid (own_base J2.out (show w.heap.size ≤ _ from B3.out.size))
  have hg3w : g3 < w4.heap.size := Blk.lt T3.out
  have hNP : w.heap.size < P := by rw [hP]; exact Blk.lt K3.out
  have hPg : P ≤ g1 := by rw [hP]; omega
  have D1P : Hid (∀ j, x0.ownBlock = some j → j < P) := fun j hj => by rw [hP]; exact D1.out j hj
  clear hb4 J1 J2 O3 B3 K3 D1 hg1 hP k0 k1 k2 k3
  go_wp2_with fail
  obtain ⟨X, hX⟩ : ∃ X, X = w4.heap.size := ⟨_, rfl⟩
  rw [← hX]
  obtain ⟨w5, hw5⟩ : ∃ w5, w5 = w4.alloc (.cells #[.int .i64 ma, .slice (some ⟨g1, 0, none⟩) xs.length xs.length, .slice (some ⟨g2, 0, none⟩) ys.length ys.length, .slice (some ⟨g3, 0, none⟩) ss.length ss.length] 32) := ⟨_, rfl⟩
  rw [← hw5]
  have A5b : Hid (Blk w5 w.heap.size 25 #[.int .i64 ma, .slice U1 xs.length d1, .slice U2 ys.length d2, .slice U3 ss.length d3]) := by rw [hw5]; exact K4.out.alloc _
  have XB5 : Hid (Blk w5 X 32 #[.int .i64 ma, .slice (some ⟨g1, 0, none⟩) xs.length xs.length, .slice (some ⟨g2, 0, none⟩) ys.length ys.length, .slice (some ⟨g3, 0, none⟩) ss.length ss.length]) := by rw [hw5, hX]; exact Blk.new _ _ _
  have O5 : Hid (w5.ownsRow w.heap.size 9 1 x0 vs.length (vs.map Value.string)) := by rw [hw5]; exact O4.out.alloc _
  have J15 : Hid (w5.ownsRow w.heap.size 3 1 (.slice (some ⟨g1, 0, none⟩) xs.length xs.length) xs.length (xs.map (Value.int .i64))) := by rw [hw5]; exact J14.out.alloc _
  have J25 : Hid (w5.ownsRow w.heap.size 3 1 (.slice (some ⟨g2, 0, none⟩) ys.length ys.length) ys.length (ys.map (Value.int .i64))) := by rw [hw5]; exact J24.out.alloc _
  have T5 : Hid (SBlk w5 g3 67 ss) := by rw [hw5]; exact Blk.alloc T3.out _
  have B5 : Hid (Below w.heap.size w w5) := by rw [hw5]; exact below_al B4.out (Nat.le_refl _) _
  have hXw : X < w5.heap.size := Blk.lt XB5.out
  have hgX : g3 < X := by rw [hX]; exact hg3w
  clear hw5 hX O4 K4 J14 J24 T3 B4 hg3w
  have XI : Hid (∀ w', Below w5.heap.size w5 w' → Ints w' w'.heap.size (some ⟨g1, 0, none⟩) xs ∧ Ints w' w'.heap.size (some ⟨g2, 0, none⟩) ys ∧ SRow w' w'.heap.size (some ⟨g3, 0, none⟩) ss) := fun w' h => by
    obtain ⟨_, _, e1, _, i1⟩ := own_ints (own_under J15.out h) (by unfold maxLen; omega)
    obtain ⟨_, _, e2, _, i2⟩ := own_ints (own_under J25.out h) (by unfold maxLen; omega)
    cases e1
    cases e2
    exact ⟨i1, i2, (T5.out.row ls lt.out).on h⟩
  refine (HI.out _ _ _ _ _ _ _ (XI.out _ (Below.refl _ _)).1 (XI.out _ (Below.refl _ _)).2.1 (XI.out _ (Below.refl _ _)).2.2).mono ?_
  rintro e w6 ⟨x1, rfl, ho6, hb6⟩
  have B6 := Lib.hid (below_on B5.out hb6)
  have H6 := Lib.hid hb6
  have A6b := Lib.hid (blk_b A5b.out hb6)
  have XB6 := Lib.hid (blk_b XB5.out hb6)
  have O6 := Lib.hid (own_under O5.out hb6)
  have J16 := Lib.hid (own_under J15.out hb6)
  have J26 := Lib.hid (own_under J25.out hb6)
  have T6 : Hid (SBlk w6 g3 67 ss) := blk_b T5.out hb6
  have G6 := Lib.hid ho6
  have D2 : Hid (∀ j, x1.ownBlock = some j → w5.heap.size ≤ j ∧ j < w6.heap.size) := fun j hj => ho6.lt j hj
  have hw56 : w5.heap.size ≤ w6.heap.size := hb6.size
  clear hb6 ho6
  go_wp2_with fail
  refine (eqStr_own _ _ _ vs.length _ _ vs rfl HOK.out G6.out O6.out).mono ?_
  obtain ⟨Q, hQ⟩ : ∃ Q, Q = w6.heap.size := ⟨_, rfl⟩
  rintro e u1w ⟨rfl, m7, hu7⟩
  have hbu : Below w6.heap.size w6 u1w := by rw [hu7]; exact below_dr (Below.refl _ _) m7
  have B7 := Lib.hid (below_on B6.out hbu)
  have H7 := Lib.hid (below_on H6.out hbu)
  have A7b := Lib.hid (blk_b A6b.out hbu)
  have XB7 := Lib.hid (blk_b XB6.out hbu)
  have O7 := Lib.hid (own_under O6.out hbu)
  have J17 := Lib.hid (own_under J16.out hbu)
  have J27 := Lib.hid (own_under J26.out hbu)
  have T7 : Hid (SBlk u1w g3 67 ss) := blk_b T6.out hbu
  have G7 := Lib.hid (own_under G6.out hbu)
  have hXQ : X < Q := by rw [hQ]; omega
  have hQw : Q ≤ u1w.heap.size := by rw [hQ]; exact hbu.size
  have D2Q : Hid (∀ j, x1.ownBlock = some j → w5.heap.size ≤ j ∧ j < Q) := fun j hj => by rw [hQ]; exact D2.out j hj
  have K : Hid (∀ w', Below u1w.heap.size u1w w' → (Hid (Below u1w.heap.size u1w w') ∧ w'.cell? ⟨w.heap.size, 0, none⟩ = some (.int .i64 ma) ∧ w'.cell? ⟨w.heap.size, 1, none⟩ = some (.slice U1 xs.length d1) ∧ w'.cell? ⟨w.heap.size, 2, none⟩ = some (.slice U2 ys.length d2) ∧ w'.cell? ⟨w.heap.size, 3, none⟩ = some (.slice U3 ss.length d3) ∧ w'.cell? ⟨X, 0, none⟩ = some (.int .i64 ma) ∧ w'.cell? ⟨X, 1, none⟩ = some (.slice (some ⟨g1, 0, none⟩) xs.length xs.length) ∧ w'.cell? ⟨X, 2, none⟩ = some (.slice (some ⟨g2, 0, none⟩) ys.length ys.length) ∧ w'.cell? ⟨X, 3, none⟩ = some (.slice (some ⟨g3, 0, none⟩) ss.length ss.length))) := fun w' h => by
    have a := blk_b A7b.out h
    have x := blk_b XB7.out h
    exact ⟨h, a.cell 0, a.cell 1, a.cell 2, a.cell 3, x.cell 0, x.cell 1, x.cell 2, x.cell 3⟩
  have KX : Hid (∀ w', Below u1w.heap.size u1w w' → Ints w' w'.heap.size (some ⟨g1, 0, none⟩) xs ∧ Ints w' w'.heap.size (some ⟨g2, 0, none⟩) ys ∧ SRow w' w'.heap.size (some ⟨g3, 0, none⟩) ss) := fun w' h => XI.out _ (below_on H7.out h)
  have hS0 := K.out u1w.drew ((Below.refl _ _).drew)
  clear hbu hQ hu7 D2 A6b XB6 O6 J16 J26 T6 G6 A5b XB5 O5 J15 J25 T5 B6 H6
  go_wp2_with fail
  go_region_held3 (fun w' => Hid (Below u1w.heap.size u1w w') ∧ w'.cell? ⟨w.heap.size, 0, none⟩ = some (.int .i64 ma) ∧ w'.cell? ⟨w.heap.size, 1, none⟩ = some (.slice U1 xs.length d1) ∧ w'.cell? ⟨w.heap.size, 2, none⟩ = some (.slice U2 ys.length d2) ∧ w'.cell? ⟨w.heap.size, 3, none⟩ = some (.slice U3 ss.length d3) ∧ w'.cell? ⟨X, 0, none⟩ = some (.int .i64 ma) ∧ w'.cell? ⟨X, 1, none⟩ = some (.slice (some ⟨g1, 0, none⟩) xs.length xs.length) ∧ w'.cell? ⟨X, 2, none⟩ = some (.slice (some ⟨g2, 0, none⟩) ys.length ys.length) ∧ w'.cell? ⟨X, 3, none⟩ = some (.slice (some ⟨g3, 0, none⟩) ss.length ss.length)) (first | with_reducible assumption | skip)
    (first
      | (go_at_call 6; refine (toAutomaton_any _ _ _ _ _ _ _ _ _ _ _ ((HX.out.below (below_on B7.out hS0.1.out)).more (below_on B7.out hS0.1.out).size) ((HY.out.below (below_on B7.out hS0.1.out)).more (below_on B7.out hS0.1.out).size) (HS.out.on (below_on B7.out hS0.1.out)) sx sy sz).mono ?_; rintro e w8 ⟨i1, i2, i3, rfl, Y1, Y2, Y3, hb8⟩; have hS1 := K.out _ (below_on hS0.1.out hb8.out))
      | (go_at_call 9; refine (eqAutomaton_eq _ _ _ _ _ _ _ _ _ _ _ _ _ _ _ _ _ (KX.out _ hS1.1.out).1 (KX.out _ hS1.1.out).2.1 (KX.out _ hS1.1.out).2.2 Y1.out Y2.out (Y3.out.row ls lt.out)).mono ?_; rintro e w9 ⟨rfl, hb9⟩; have hS2 := K.out _ (below_on hS1.1.out hb9.out)))
  clear Y1 Y2 Y3 hS0 hS1
  have B9 := Lib.hid (below_on B7.out hS2.1.out)
  have A9b := Lib.hid (blk_b A7b.out hS2.1.out)
  have O9 := Lib.hid (own_under O7.out hS2.1.out)
  have J19 := Lib.hid (own_under J17.out hS2.1.out)
  have J29 := Lib.hid (own_under J27.out hS2.1.out)
  have T9 := Lib.hid (T7.out.below hS2.1.out)
  have G9 := Lib.hid (own_under G7.out hS2.1.out)
  have hw9 : Q ≤ _ := Nat.le_trans hQw hS2.1.out.size
  clear A7b XB7 O7 J17 J27 T7 G7 K KX XI H7
  obtain ⟨_, _, _, _, _, z0, z1, z2, z3⟩ := hS2
  go_wp2_with fail
  refine (markAutomaton_in _ g1 g2 g3 _ _ _ P X _ _ _ _ _ _ _ ss _ (by omega) (by omega) (by omega) rfl J19.out J29.out T9.out (by omega) hg12 hg23 hgX (by omega)).mono ?_
  rintro e v1 ⟨he, hins⟩
  obtain ⟨kk, hkk⟩ : ∃ kk : Nat, kk = 1 + xs.length + ys.length + 4 * ss.length := ⟨_, rfl⟩
  rw [← hkk] at he
  subst he
  have hk0 : ¬ ((kk : Nat) : Int) < 0 := by omega
  have hk1 : (0 : Int) ≤ ((kk : Nat) : Int) := by omega
  have DIS : Hid (∀ j, x1.ownBlock = some j → w5.heap.size ≤ j ∧ j < Q ∧ w.heap.size ≤ j) := fun j hj => ⟨(D2Q.out j hj).1, (D2Q.out j hj).2, by have := (D2Q.out j hj).1; have := B5.out.size; omega⟩
  have DIS1 : Hid (∀ j, x0.ownBlock = some j → j < w5.heap.size) := fun j hj => by have := D1P.out j hj; omega
  have HPQ : Hid (P < w5.heap.size) := by show _ < _; omega
  have O1x := Lib.hid (hins.out.own O9.out (fun j hj => Or.inl (by have := D1P.out j hj; omega)))
  have O2x := Lib.hid (hins.out.own G9.out (fun j hj => Or.inr (by have := D2Q.out j hj; omega)))
  have AX := Lib.hid (hins.out.blk A9b.out (Or.inl (by omega)))
  have BX := Lib.hid (hins.out.below B9.out (by omega) B9.out.size)
  clear hins z0 z1 z2 z3 O9 G9 A9b J19 J29 T9 hkk hw9
  go_wp2_with fail
  refine (eqStr_own _ _ _ vs.length _ _ vs rfl HOK.out O2x.out O1x.out).mono ?_
  rintro e t1 ⟨rfl, m1, ht1⟩
  have hbt1 : Below v1.heap.size v1 t1 := by rw [ht1]; exact below_dr (Below.refl _ _) m1
  have BT1 := Lib.hid (below_on BX.out hbt1)
  have OA1 := Lib.hid (own_under O1x.out hbt1)
  have OB1 := Lib.hid (own_under O2x.out hbt1)
  have AT1 := Lib.hid (AX.out.below hbt1 (Blk.lt AX.out))
  clear hbt1 ht1
  go_wp2_with fail
  refine (markStr_own _ _ vs.length _ _ hlv OB1.out).mono ?_
  rintro e t2 ⟨rfl, hot2, hgt2⟩
  have hdis : x0.ownBlock = none ∨ x0.ownBlock ≠ x1.ownBlock := by
    rcases h0 : x0.ownBlock with _ | j
    · exact Or.inl rfl
    · right
      intro he
      have h1 := DIS1.out j h0
      have h2 := (DIS.out j he.symm).1
      omega
  have OA2 := Lib.hid (OA1.out.kept hgt2 hdis)
  have OB2 := Lib.hid hot2
  have AT2 : Hid (Blk t2 w.heap.size 25 #[.int .i64 ma, .slice U1 xs.length d1, .slice U2 ys.length d2, .slice U3 ss.length d3]) := (hgt2.block _ (Blk.lt AT1.out) (fun he => by have := (DIS.out _ he.symm).1; have := HPQ.out; omega)).trans AT1.out
  have BT2 := Lib.hid (BT1.out.grown hgt2 BT1.out.size (fun j hj => (DIS.out j hj).2.2))
  clear hdis hot2 hgt2
  go_wp2_with fail
  refine (heldStr_own _ _ vs.length _ hlv OB2.out).mono ?_
  rintro e t3 ⟨rfl, hbt3⟩
  have AT3 := Lib.hid (blk_b AT2.out hbt3.out)
  have BT3 := Lib.hid (below_on BT2.out hbt3.out)
  have OA3 := Lib.hid (own_under OA2.out hbt3.out)
  have OB3 := Lib.hid (own_under OB2.out hbt3.out)
  clear hbt3 AT2 BT2 OA2 OB2
  obtain ⟨Au0, Au1, Au2, Au3⟩ := four_cells AT3.out
  go_wp2_with fail
  refine (toAutomaton_any _ _ _ _ _ _ _ _ _ _ _ ((HX.out.below BT3.out).more BT3.out.size) ((HY.out.below BT3.out).more BT3.out.size) (HS.out.on BT3.out) sx sy sz).mono ?_
  rintro e t4 ⟨q1, q2, q3, rfl, V1, V2, V3, hbt4'⟩
  have hbt4 := hbt4'.out
  have BT4 := Lib.hid (below_on BT3.out hbt4)
  have OA4 := Lib.hid (own_under OA3.out hbt4)
  have OB4 := Lib.hid (own_under OB3.out hbt4)
  clear hbt4 hbt4' Au0 Au1 Au2 Au3
  go_wp2_with fail
  refine (HI.out _ _ _ _ _ _ _ V1.out V2.out (V3.out.row ls lt.out)).mono ?_
  rintro e t5 ⟨x5, rfl, ho5, hb5⟩
  have BT5 := Lib.hid (below_on BT4.out hb5)
  have OA5 := Lib.hid (own_under OA4.out hb5)
  have OB5 := Lib.hid (own_under OB4.out hb5)
  have HO5 := Lib.hid ho5
  clear hb5 ho5
  go_wp2_with fail
  refine (eqStr_own _ _ _ vs.length _ _ vs rfl HOK.out HO5.out OA5.out).mono ?_
  rintro e t6 ⟨rfl, m6, ht6⟩
  have hb6 : Below t5.heap.size t5 t6 := by rw [ht6]; exact below_dr (Below.refl _ _) m6
  have BT6 := Lib.hid (below_on BT5.out hb6)
  have OB6 := Lib.hid (own_under OB5.out hb6)
  clear hb6 ht6
  go_wp2_with fail
  refine (heldStr_own _ _ vs.length _ hlv OB6.out).mono ?_
  rintro e t7 ⟨rfl, hbt7⟩
  have BT7 := Lib.hid (below_on BT6.out hbt7.out)
  clear hbt7
  go_wp2_with fail
  go_ret
  exact ⟨rfl, BT7.out⟩
end Go.Proofs.Ytlfffoglldobeaa
