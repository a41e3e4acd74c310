/- The walk of the exact law FnExactGradesOf: it returns true for all arguments; nothing that was there changes. No condition. -/
import Derived.Test.YteanpmeelphhbaaGSpec2
import Derived.Test.YteanpmeelphhbaaCopyM
import Derived.Deep.RegionHeld3
namespace Go.Proofs.Yteanpmeelphhbaa
open Go.RowKit
set_option maxHeartbeats 2000000
set_option maxRecDepth 100000
set_option linter.unusedVariables false

theorem FnExactGradesOf_walk (m0 : Int) (A : Option Addr) (cap : Nat) (zs : List Int) (w : World) (hz : IRow .i64 w w.heap.size A zs) :
    Calls Try.prog 4 #[.agg #[.int .i64 m0, .slice A zs.length cap]] w fun e w' => e = .returned (.bool true) ∧ Below w.heap.size w w' := by
  have hl := hz.len
  obtain ⟨r, hr⟩ : ∃ r, r = gofR m0 zs := ⟨_, rfl⟩
  obtain ⟨m, hm⟩ : ∃ m, m = (r.getD (0, [])).1 := ⟨_, rfl⟩
  obtain ⟨vs, hvs⟩ : ∃ vs, vs = (r.getD (0, [])).2 := ⟨_, rfl⟩
  obtain ⟨ok, hok⟩ : ∃ ok, ok = r.isSome := ⟨_, rfl⟩
  have hS := fun w0 A0 cap0 (h0 : Ints w0 w0.heap.size A0 zs) => sGradesOf_any m0 A0 cap0 zs w0 h0
  have hI := fun w0 A0 cap0 (h0 : Ints w0 w0.heap.size A0 zs) => iGradesOf_any m0 A0 cap0 zs w0 h0
  unfold MEnd at hS hI
  rw [← hr, ← hm, ← hvs, ← hok] at hS hI
  have HS := Lib.hid hS
  have HI := Lib.hid hI
  clear hS hI hr hm hvs hok
  have hz0 := ints_al hz (.cells #[.int .i64 m0, .slice A zs.length cap] 24)
  have hb0 := below_a1 w (.cells #[.int .i64 m0, .slice A zs.length cap] 24)
  by_cases hs : ¬ (zs.length : Int) ≤ 1048576
  · go_enter Try.func4, Try.ntmps4
    go_wp2_with fail
    refine (szMatrix_no _ _ _ _ _ _ (by omega) (by omega) (by omega) hl).mono ?_
    rintro e w1 ⟨rfl, hb1⟩
    go_wp2_with fail
    go_ret
    exact ⟨rfl, below_on hb0 hb1⟩
  have hsz : zs.length ≤ 1048576 := by omega
  go_enter Try.func4, Try.ntmps4
  go_wp2_with fail
  refine (szMatrix_ok _ _ _ _ _ _ _ (by omega) (by omega) (by omega) rfl).mono ?_
  rintro e w1 ⟨rfl, hb1⟩
  have bA : Blk w1 w.heap.size 24 #[.int .i64 m0, .slice A zs.length cap] := (Blk.new w _ _).below hb1 (by simp)
  have B1 := Lib.hid (below_on hb0 hb1)
  -- the argument's block and its numbers, in every world from here on that keeps what lies below w1's size
  have KA : Hid (∀ w', Below w.heap.size w w' → Blk w' w.heap.size 24 #[.int .i64 m0, .slice A zs.length cap] → True) := fun _ _ _ => trivial
  clear KA
  have KZ : Hid (∀ w', Below w.heap.size w w' → Ints w' w'.heap.size A zs) := fun w' h => (hz.below h).more h.size
  have A1b := Lib.hid bA
  obtain ⟨u0, u1⟩ := two_cells bA
  clear hb1 bA hz0 hb0
  go_wp2_with fail
  refine (toMatrix_any _ _ _ _ _ (KZ.out _ B1.out) hsz).mono ?_
  rintro e w2 ⟨_, rfl, ⟨A2', cap2', rfl, _, hi2⟩, hb2⟩
  have B2 := Lib.hid (below_on B1.out hb2)
  have A2b := Lib.hid (A1b.out.below hb2 (Blk.lt A1b.out))
  clear hb2 u0 u1
  go_wp2_with fail
  refine (HS.out _ _ _ hi2).mono ?_
  rintro e w3 ⟨_, rfl, ⟨x3, rfl, ho3, hl3⟩, hb3⟩
  obtain ⟨A1, cap1, rfl, _, hi3⟩ := own_ints ho3 (by unfold maxLen; omega)
  have hlv := hl3
  have B3 := Lib.hid (below_on B2.out hb3)
  have A3b := Lib.hid (A2b.out.below hb3 (Blk.lt A2b.out))
  have O3 := Lib.hid (own_base ho3 B2.out.size)
  have I3 := Lib.hid hi3
  have D1 : Hid (∀ j, (Value.slice A1 vs.length cap1).ownBlock = some j → j < w3.heap.size) := fun j hj => (ho3.lt j hj).2
  have u0 : ∀ o, (w3.alloc o).cell? ⟨w.heap.size, 0, none⟩ = some (.int .i64 m0) := fun o => (A3b.out.alloc o).cell 0
  have u1 : ∀ o, (w3.alloc o).cell? ⟨w.heap.size, 1, none⟩ = some (.slice A zs.length cap) := fun o => (A3b.out.alloc o).cell 1
  clear hb3 hi2 ho3 hi3 hl3
  go_wp2_with fail
  refine (toMatrix_own _ _ _ _ _ (KZ.out _ (below_al B3.out (Nat.le_refl _) _)) hsz).mono ?_
  rintro e w4 ⟨gx, rfl, hox, hb4⟩
  obtain ⟨P, hP⟩ : ∃ P, P = w3.heap.size := ⟨_, rfl⟩
  have B4 := Lib.hid (below_on (below_al B3.out (Nat.le_refl _) _) hb4)
  have A4b := Lib.hid ((A3b.out.alloc (.cells #[.int .i64 m, .slice A1 vs.length cap1] 27)).below hb4 (Blk.lt (A3b.out.alloc _)))
  have P4 := Lib.hid ((Blk.new w3 27 #[.int .i64 m, .slice A1 vs.length cap1]).below hb4 (Blk.lt (Blk.new _ _ _)))
  have O4 := Lib.hid (own_under (O3.out.alloc (.cells #[.int .i64 m, .slice A1 vs.length cap1] 27)) hb4)
  have I4w := Lib.hid (((ints_al I3.out (.cells #[.int .i64 m, .slice A1 vs.length cap1] 27)).below hb4).more hb4.size)
  have hgx0 := (hox.lt gx rfl).1
  have hgx1 := (hox.lt gx rfl).2
  have hNP : w.heap.size < P := by rw [hP]; exact Blk.lt A3b.out
  have hPg : P < gx := by rw [hP]; simp at hgx0; omega
  have D1P : Hid (∀ j, (Value.slice A1 vs.length cap1).ownBlock = some j → j < P) := fun j hj => by rw [hP]; exact D1.out j hj
  rw [← hP] at P4
  rw [← hP]
  have hPw : P < w4.heap.size := by omega
  have X4 := Lib.hid (own_base hox (by have := B3.out.size; simp; omega : w.heap.size ≤ _))
  clear hb4 hox O3 I3 u0 u1 D1 hgx0 hP
  go_wp2_with fail
  obtain ⟨X, hX⟩ : ∃ X, X = w4.heap.size := ⟨_, rfl⟩
  rw [← hX]
  obtain ⟨w5, hw5⟩ : ∃ w5, w5 = w4.alloc (.cells #[.int .i64 m0, .slice (some ⟨gx, 0, none⟩) zs.length zs.length] 27) := ⟨_, rfl⟩
  rw [← hw5]
  have A5b : Hid (Blk w5 w.heap.size 24 #[.int .i64 m0, .slice A zs.length cap]) := by rw [hw5]; exact A4b.out.alloc _
  have P5 : Hid (Blk w5 P 27 #[.int .i64 m, .slice A1 vs.length cap1]) := by rw [hw5]; exact P4.out.alloc _
  have XB5 : Hid (Blk w5 X 27 #[.int .i64 m0, .slice (some ⟨gx, 0, none⟩) zs.length zs.length]) := by rw [hw5, hX]; exact Blk.new _ _ _
  have O5 : Hid (w5.ownsRow w.heap.size 3 1 (.slice A1 vs.length cap1) vs.length (vs.map (Value.int .i64))) := by rw [hw5]; exact O4.out.alloc _
  have X5 : Hid (w5.ownsRow w.heap.size 3 1 (.slice (some ⟨gx, 0, none⟩) zs.length zs.length) zs.length (zs.map (Value.int .i64))) := by rw [hw5]; exact X4.out.alloc _
  have B5 : Hid (Below w.heap.size w w5) := by rw [hw5]; exact below_al B4.out (Nat.le_refl _) _
  have hXw : X < w5.heap.size := Blk.lt XB5.out
  have hgX : gx < X := by rw [hX]; exact hgx1
  have hxi := (own_ints X5.out (by unfold maxLen; omega))
  obtain ⟨_, _, hxe, _, hxi⟩ := hxi
  cases hxe
  have XI5 := Lib.hid hxi
  clear hw5 hX O4 I4w P4 A4b X4 B4 hxi
  refine (HI.out _ _ _ XI5.out).mono ?_
  rintro e w6 ⟨_, rfl, ⟨x6, rfl, ho6, hl6⟩, hb6⟩
  obtain ⟨A2, cap2, rfl, _, hi6⟩ := own_ints ho6 (by unfold maxLen; omega)
  have B6 := Lib.hid (below_on B5.out hb6)
  have A6b := Lib.hid (A5b.out.below hb6 (Blk.lt A5b.out))
  have P6 := Lib.hid (P5.out.below hb6 (Blk.lt P5.out))
  have XB6 := Lib.hid (XB5.out.below hb6 (Blk.lt XB5.out))
  have O6 := Lib.hid (own_under O5.out hb6)
  have X6 := Lib.hid (own_under X5.out hb6)
  have G6 := Lib.hid ho6
  have D2 : Hid (∀ j, (Value.slice A2 vs.length cap2).ownBlock = some j → w5.heap.size ≤ j ∧ j < w6.heap.size) := fun j hj => ho6.lt j hj
  have hw56 : w5.heap.size ≤ w6.heap.size := hb6.size
  obtain ⟨p0, p1⟩ := cells_below P5.out hb6
  have p0 : ∀ o, (w6.alloc o).cell? ⟨P, 0, none⟩ = some (.int .i64 m) := fun o => (P6.out.alloc o).cell 0
  have p1 : ∀ o, (w6.alloc o).cell? ⟨P, 1, none⟩ = some (.slice A1 vs.length cap1) := fun o => (P6.out.alloc o).cell 1
  obtain ⟨_, _, he1, _, hi1⟩ := own_ints O6.out (by unfold maxLen; omega)
  cases he1
  have I1 := Lib.hid hi1
  have I2 := Lib.hid hi6
  clear hb6 ho6 hi6 hi1 hl6
  go_wp2_with fail
  refine (eqMatrix_eq _ _ _ _ _ _ _ (ints_al I2.out _) (ints_al I1.out _)).mono ?_
  obtain ⟨Q, hQ⟩ : ∃ Q, Q = w6.heap.size := ⟨_, rfl⟩
  rintro e u1w ⟨rfl, hbu⟩
  have GV := (Blk.new w6 27 #[.int .i64 m, .slice A2 vs.length cap2])
  have Q7 := Lib.hid (GV.below hbu (Blk.lt GV))
  have B7 := Lib.hid (below_on (below_al B6.out (Nat.le_refl _) _) hbu)
  have A7b := Lib.hid ((A6b.out.alloc _).below hbu (Blk.lt (A6b.out.alloc _)))
  have P7 := Lib.hid ((P6.out.alloc _).below hbu (Blk.lt (P6.out.alloc _)))
  have XB7 := Lib.hid ((XB6.out.alloc _).below hbu (Blk.lt (XB6.out.alloc _)))
  have O7 := Lib.hid (own_under (O6.out.alloc (.cells #[.int .i64 m, .slice A2 vs.length cap2] 27)) hbu)
  have X7 := Lib.hid (own_under (X6.out.alloc (.cells #[.int .i64 m, .slice A2 vs.length cap2] 27)) hbu)
  have G7 := Lib.hid (own_under (G6.out.alloc (.cells #[.int .i64 m, .slice A2 vs.length cap2] 27)) hbu)
  rw [← hQ] at Q7
  rw [← hQ]
  have hXQ : X < Q := by rw [hQ]; omega
  have hQw : Q < u1w.heap.size := Blk.lt Q7.out
  have D2Q : Hid (∀ j, (Value.slice A2 vs.length cap2).ownBlock = some j → w5.heap.size ≤ j ∧ j < Q) := fun j hj => by rw [hQ]; exact D2.out j hj
  have keep : ∀ w', Below u1w.heap.size u1w w' → (Hid (Below u1w.heap.size u1w w') ∧ w'.cell? ⟨w.heap.size, 0, none⟩ = some (.int .i64 m0) ∧ w'.cell? ⟨w.heap.size, 1, none⟩ = some (.slice A zs.length cap) ∧ w'.cell? ⟨X, 0, none⟩ = some (.int .i64 m0) ∧ w'.cell? ⟨X, 1, none⟩ = some (.slice (some ⟨gx, 0, none⟩) zs.length zs.length)) := fun w' h => ⟨h, (cells_below A7b.out h).1, (cells_below A7b.out h).2, (cells_below XB7.out h).1, (cells_below XB7.out h).2⟩
  have K := Lib.hid keep
  have KX : Hid (∀ w', Below u1w.heap.size u1w w' → Ints w' w'.heap.size (some ⟨gx, 0, none⟩) zs) := fun w' h => by
    obtain ⟨_, _, he, _, hi⟩ := own_ints (own_under X7.out h) (by unfold maxLen; omega)
    cases he
    exact hi
  have hS0 := K.out u1w.drew ((Below.refl _ _).drew)
  clear keep hbu GV hQ p0 p1 D2 I1 I2 A6b P6 XB6 O6 X6 G6 A5b P5 XB5 O5 X5 XI5
  go_wp2_with fail
  go_region_held3 (fun w' => Hid (Below u1w.heap.size u1w w') ∧ w'.cell? ⟨w.heap.size, 0, none⟩ = some (.int .i64 m0) ∧ w'.cell? ⟨w.heap.size, 1, none⟩ = some (.slice A zs.length cap) ∧ w'.cell? ⟨X, 0, none⟩ = some (.int .i64 m0) ∧ w'.cell? ⟨X, 1, none⟩ = some (.slice (some ⟨gx, 0, none⟩) zs.length zs.length)) (first | with_reducible assumption | skip)
    (first
      | (go_at_call 10; refine (toMatrix_any _ _ _ _ _ (KZ.out _ (below_on B7.out hS0.1.out)) hsz).mono ?_; rintro e w8 ⟨_, rfl, ⟨A8, cap8, rfl, hc8, hi8⟩, hb8⟩; have hS1 := K.out _ (below_on hS0.1.out hb8))
      | (go_at_call 12; refine (eqMatrix_eq _ _ _ _ _ _ _ (KX.out _ hS1.1.out) hi8).mono ?_; rintro e w9 ⟨rfl, hb9⟩; have hS2 := K.out _ (below_on hS1.1.out hb9)))
  clear hi8 hS0 hS1
  have H9 := Lib.hid hS2.1.out
  have B9 := Lib.hid (below_on B7.out hS2.1.out)
  have A9b := Lib.hid (A7b.out.below hS2.1.out (Blk.lt A7b.out))
  have P9 := Lib.hid (P7.out.below hS2.1.out (Blk.lt P7.out))
  have XB9 := Lib.hid (XB7.out.below hS2.1.out (Blk.lt XB7.out))
  have Q9 := Lib.hid (Q7.out.below hS2.1.out (Blk.lt Q7.out))
  have O9 := Lib.hid (own_under O7.out hS2.1.out)
  have X9 := Lib.hid (own_under X7.out hS2.1.out)
  have G9 := Lib.hid (own_under G7.out hS2.1.out)
  clear A7b P7 XB7 Q7 O7 X7 G7 K KX
  obtain ⟨_, _, _, x0, x1⟩ := hS2
  go_wp2_with fail
  refine (markMatrix_some _ _ _ _ _ _ _ _ (by omega) (by omega) (by omega) X9.out).mono ?_
  rintro e v1 ⟨rfl, hgv⟩
  have hrow : ∀ j, (Value.slice (some ⟨gx, 0, none⟩) zs.length zs.length).ownBlock = some j → j = gx := fun j hj => by simp [Value.ownBlock] at hj; exact hj.symm
  have DIS : Hid (∀ j, (Value.slice A2 vs.length cap2).ownBlock = some j → w5.heap.size ≤ j ∧ j < Q ∧ w.heap.size ≤ j) := fun j hj => ⟨(D2Q.out j hj).1, (D2Q.out j hj).2, by have := (D2Q.out j hj).1; have := B5.out.size; omega⟩
  have DIS1 : Hid (∀ j, (Value.slice A1 vs.length cap1).ownBlock = some j → j < w5.heap.size) := fun j hj => by have := D1P.out j hj; omega
  have HPQ : Hid (P < w5.heap.size) := by show _ < _; omega
  have O1x := Lib.hid (O9.out.kept hgv (by
    rcases h0 : (Value.slice A1 vs.length cap1).ownBlock with _ | j
    · exact Or.inl rfl
    · right
      intro he
      have h1 := D1P.out j h0
      have h2 := hrow j he.symm
      omega))
  have O2x := Lib.hid (G9.out.kept hgv (by
    rcases h0 : (Value.slice A2 vs.length cap2).ownBlock with _ | j
    · exact Or.inl rfl
    · right
      intro he
      have h1 := (D2Q.out j h0).1
      have h2 := hrow j he.symm
      omega))
  have PX : Hid (Blk v1 P 27 #[.int .i64 m, .slice A1 vs.length cap1]) := (hgv.block P (Blk.lt P9.out) (fun he => by have := hrow P he.symm; omega)).trans P9.out
  have QX : Hid (Blk v1 Q 27 #[.int .i64 m, .slice A2 vs.length cap2]) := (hgv.block Q (Blk.lt Q9.out) (fun he => by have := hrow Q he.symm; omega)).trans Q9.out
  have AX : Hid (Blk v1 w.heap.size 24 #[.int .i64 m0, .slice A zs.length cap]) := (hgv.block w.heap.size (Blk.lt A9b.out) (fun he => by have := hrow w.heap.size he.symm; omega)).trans A9b.out
  have BX := Lib.hid (B9.out.grown hgv B9.out.size (fun j hj => by have := hrow j hj; omega))
  obtain ⟨_, _, he1, _, hi1⟩ := own_ints O1x.out (by unfold maxLen; omega)
  cases he1
  obtain ⟨_, _, he2, _, hi2⟩ := own_ints O2x.out (by unfold maxLen; omega)
  cases he2
  have I1x := Lib.hid hi1
  have I2x := Lib.hid hi2
  obtain ⟨y0, y1⟩ := two_cells PX.out
  obtain ⟨z0, z1⟩ := two_cells QX.out
  clear hgv hrow hi1 hi2 x0 x1 O9 X9 G9 P9 Q9 XB9 A9b
  go_wp2_with fail
  refine (eqMatrix_eq _ _ _ _ _ _ _ I2x.out I1x.out).mono ?_
  rintro e t1 ⟨rfl, hbt1⟩
  have BT1 := Lib.hid (below_on BX.out hbt1)
  have OA1 := Lib.hid (own_under O1x.out hbt1)
  have OB1 := Lib.hid (own_under O2x.out hbt1)
  have PT1 := Lib.hid (PX.out.below hbt1 (Blk.lt PX.out))
  have QT1 := Lib.hid (QX.out.below hbt1 (Blk.lt QX.out))
  have AT1 := Lib.hid (AX.out.below hbt1 (Blk.lt AX.out))
  clear hbt1
  obtain ⟨y0, y1⟩ := two_cells PT1.out
  obtain ⟨z0, z1⟩ := two_cells QT1.out
  go_wp2_with fail
  refine (markMatrix_own _ _ _ _ _ _ _ hlv OB1.out).mono ?_
  rintro e t2 ⟨rfl, hot2, hgt2⟩
  have hdis : (Value.slice A1 vs.length cap1).ownBlock = none ∨ (Value.slice A1 vs.length cap1).ownBlock ≠ (Value.slice A2 vs.length cap2).ownBlock := by
    rcases h0 : (Value.slice A1 vs.length cap1).ownBlock with _ | j
    · exact Or.inl rfl
    · right
      intro he
      have h1 := DIS1.out j h0
      have h2 := (DIS.out j he.symm).1
      omega
  have OA2 := Lib.hid (OA1.out.kept hgt2 hdis)
  have OB2 := Lib.hid hot2
  have PT2 : Hid (Blk t2 P 27 #[.int .i64 m, .slice A1 vs.length cap1]) := (hgt2.block P (Blk.lt PT1.out) (fun he => by have := (DIS.out P he.symm).1; have := HPQ.out; omega)).trans PT1.out
  have QT2 : Hid (Blk t2 Q 27 #[.int .i64 m, .slice A2 vs.length cap2]) := (hgt2.block Q (Blk.lt QT1.out) (fun he => by have := (DIS.out Q he.symm).2.1; omega)).trans QT1.out
  have AT2 : Hid (Blk t2 w.heap.size 24 #[.int .i64 m0, .slice A zs.length cap]) := (hgt2.block _ (Blk.lt AT1.out) (fun he => by have := (DIS.out _ he.symm).1; have := HPQ.out; omega)).trans AT1.out
  have BT2 := Lib.hid (BT1.out.grown hgt2 BT1.out.size (fun j hj => (DIS.out j hj).2.2))
  clear hdis hot2 hgt2
  clear y0 y1 z0 z1
  obtain ⟨y0, y1⟩ := two_cells PT2.out
  obtain ⟨z0, z1⟩ := two_cells QT2.out
  go_wp2_with fail
  refine (heldMatrix_own _ _ _ _ _ _ hlv OB2.out).mono ?_
  rintro e t3 ⟨rfl, hbt3⟩
  have BT3 := Lib.hid (below_on BT2.out hbt3)
  have OA3 := Lib.hid (own_under OA2.out hbt3)
  have OB3 := Lib.hid (own_under OB2.out hbt3)
  have PT3 := Lib.hid (PT2.out.below hbt3 (Blk.lt PT2.out))
  have QT3 := Lib.hid (QT2.out.below hbt3 (Blk.lt QT2.out))
  have AT3 := Lib.hid (AT2.out.below hbt3 (Blk.lt AT2.out))
  have AC3 := two_cells AT3.out
  obtain ⟨Au0, Au1⟩ := AC3
  clear hbt3
  clear y0 y1 z0 z1
  obtain ⟨y0, y1⟩ := two_cells PT3.out
  obtain ⟨z0, z1⟩ := two_cells QT3.out
  go_wp2_with fail
  refine (toMatrix_any _ _ _ _ _ (KZ.out _ BT3.out) hsz).mono ?_
  rintro e t4 ⟨_, rfl, ⟨A4', cap4', rfl, _, hi4⟩, hbt4⟩
  have BT4 := Lib.hid (below_on BT3.out hbt4)
  have OA4 := Lib.hid (own_under OA3.out hbt4)
  have OB4 := Lib.hid (own_under OB3.out hbt4)
  have PT4 := Lib.hid (PT3.out.below hbt4 (Blk.lt PT3.out))
  have QT4 := Lib.hid (QT3.out.below hbt4 (Blk.lt QT3.out))
  have I4 := Lib.hid hi4
  clear hbt4 hi4 Au0 Au1
  go_wp2_with fail
  refine (HI.out _ _ _ I4.out).mono ?_
  rintro e t5 ⟨_, rfl, ⟨x5, rfl, ho5, hl5⟩, hb5⟩
  obtain ⟨A5, cap5, rfl, _, hi5⟩ := own_ints ho5 (by unfold maxLen; omega)
  have BT5 := Lib.hid (below_on BT4.out hb5)
  have OA5 := own_under OA4.out hb5
  have OB5 := Lib.hid (own_under OB4.out hb5)
  have PT5 := Lib.hid (PT4.out.below hb5 (Blk.lt PT4.out))
  have QT5 := Lib.hid (QT4.out.below hb5 (Blk.lt QT4.out))
  obtain ⟨B1', cap1', hB1', _, hi51⟩ := own_ints OA5 (by unfold maxLen; omega)
  cases hB1'
  have I5 := Lib.hid hi5
  have I51 := Lib.hid hi51
  clear hb5 ho5 hi5 hi51 OA5
  clear y0 y1 z0 z1
  have y0 : ∀ o, (t5.alloc o).cell? ⟨P, 0, none⟩ = some (.int .i64 m) := fun o => (PT5.out.alloc o).cell 0
  have y1 : ∀ o, (t5.alloc o).cell? ⟨P, 1, none⟩ = some (.slice A1 vs.length cap1) := fun o => (PT5.out.alloc o).cell 1
  have z0 : ∀ o, (t5.alloc o).cell? ⟨Q, 0, none⟩ = some (.int .i64 m) := fun o => (QT5.out.alloc o).cell 0
  have z1 : ∀ o, (t5.alloc o).cell? ⟨Q, 1, none⟩ = some (.slice A2 vs.length cap2) := fun o => (QT5.out.alloc o).cell 1
  go_wp2_with fail
  refine (eqMatrix_eq _ _ _ _ _ _ _ (ints_al I5.out _) (ints_al I51.out _)).mono ?_
  rintro e t6 ⟨rfl, hb6⟩
  have BT6 := Lib.hid (below_on (below_al BT5.out (Nat.le_refl _) _) hb6)
  have OB6 := Lib.hid (own_under (OB5.out.alloc (.cells #[.int .i64 m, .slice A5 vs.length cap5] 27)) hb6)
  have QT6 := Lib.hid ((QT5.out.alloc (.cells #[.int .i64 m, .slice A5 vs.length cap5] 27)).below hb6 (Blk.lt (QT5.out.alloc _)))
  clear hb6
  clear y0 y1 z0 z1
  obtain ⟨z6, z7⟩ := two_cells QT6.out
  go_wp2_with fail
  refine (heldMatrix_own _ _ _ _ _ _ hlv OB6.out).mono ?_
  rintro e t7 ⟨rfl, hb7⟩
  go_wp2_with fail
  go_ret
  exact ⟨rfl, below_on BT6.out hb7⟩
end Go.Proofs.Yteanpmeelphhbaa
