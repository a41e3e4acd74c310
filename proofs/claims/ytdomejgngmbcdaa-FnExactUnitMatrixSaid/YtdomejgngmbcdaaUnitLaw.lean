/- UnitMatrix: what the model returns, and the walk of the exact law: it returns true for all arguments; nothing that was there changes. No condition. -/
import Derived.Test.YtdomejgngmbcdaaSpec
import Derived.Test.YtdomejgngmbcdaaMark
import Derived.Deep.RegionHeld3
namespace Go.Proofs.Ytdomejgngmbcdaa
open Go.RowKit
set_option maxHeartbeats 1000000
set_option maxRecDepth 100000
set_option linter.unusedVariables false

theorem sUnit_any (n : Int) (w : World) :
    Calls Try.prog 35 #[.int .i64 n] w fun e w' => MEnd (unitR n) w e w' := by
  by_cases hn : 1 ≤ n ∧ n ≤ 4
  · obtain ⟨N, rfl⟩ := Int.eq_ofNat_of_zero_le (a := n) (by omega)
    obtain ⟨h1, h2⟩ := hn
    have hd : decide (1 ≤ (N : Int) ∧ (N : Int) ≤ 4) = true := decide_eq_true ⟨h1, h2⟩
    have HR : Hid (unitR (N : Int) = some ((N : Int), unitL N)) := by show _ = _; unfold unitR; rw [if_pos ⟨h1, h2⟩]; rfl
    go_enter Try.func35, Try.ntmps35
    go_wp2_with fail
    refine (l1In_any _ _ _ _).mono ?_
    rintro e w' ⟨rfl, rfl⟩
    rw [hd]
    clear hd
    go_wp2_with fail
    refine (l2Unit_any N _ (by omega) (by omega)).mono ?_
    rintro e w2 ⟨_, rfl, ⟨x, rfl, ho, hl⟩, hb⟩
    obtain ⟨A2, cap2, rfl, _, _⟩ := own_ints ho (by unfold maxLen; omega)
    have HB := Lib.hid (below_on (below_a1 w _) hb)
    have R2 := Lib.hid ((Blk.new w 25 #[.int .i64 0, .slice none 0 0]).below hb (Blk.lt (Blk.new _ _ _)))
    have HO := Lib.hid ho
    obtain ⟨c0, c1⟩ := two_cells R2.out
    obtain ⟨f0, f1⟩ := two_frozen R2.out
    clear hb ho
    go_wp2_with fail
    have HF := mat_fin (w := w) (m := (N : Int)) R2.out HO.out (by simp) (Nat.le_refl _) HB.out hl
    refine bodyPost_ret (results_2 rfl (gives_mat (g := w.heap.size) rfl HF.1) (.tmp rfl)) rfl ?_
    exact MEnd.some_ HR.out HF.2.1 HF.2.2
  · have HR : Hid (unitR n = none) := by show _ = _; unfold unitR; rw [if_neg hn]
    have hd : decide (1 ≤ n ∧ n ≤ 4) = false := decide_eq_false hn
    clear hn
    go_enter Try.func35, Try.ntmps35
    go_wp2_with fail
    refine (l1In_any _ _ _ _).mono ?_
    rintro e w' ⟨rfl, rfl⟩
    rw [hd]
    clear hd
    go_wp2_with fail
    refine bodyPost_ret (results_2 rfl (gives_mat (g := w.heap.size) rfl (Blk.new _ _ _)) (.tmp rfl)) rfl ?_
    exact MEnd.none_ HR.out (below_a1 _ _)

theorem FnExactUnitMatrix_walk (n : Int) (hwf : (Lit.int .i64 n).wf = true) (w : World) :
    Calls Try.prog 8 #[.int .i64 n] w fun e w' => e = .returned (.bool true) ∧ Below w.heap.size w w' := by
  obtain ⟨r, hr⟩ : ∃ r, r = unitR n := ⟨_, rfl⟩
  obtain ⟨m, hm⟩ : ∃ m, m = (r.getD (0, [])).1 := ⟨_, rfl⟩
  obtain ⟨vs, hvs⟩ : ∃ vs, vs = (r.getD (0, [])).2 := ⟨_, rfl⟩
  obtain ⟨ok, hok⟩ : ∃ ok, ok = r.isSome := ⟨_, rfl⟩
  have hS := fun w0 => sUnit_any n w0
  have hI := fun w0 => iUnit_any n w0
  unfold MEnd at hS hI
  rw [← hr, ← hm, ← hvs, ← hok] at hS hI
  have HS := Lib.hid hS
  have HI := Lib.hid hI
  clear hS hI hr hm hvs hok
  go_enter Try.func8, Try.ntmps8
  go_wp2_with fail
  refine (HS.out w).mono ?_
  rintro e w1 ⟨_, rfl, ⟨x1, rfl, ho1, hl1⟩, hb1⟩
  obtain ⟨A1, cap1, rfl, _, hi1⟩ := own_ints ho1 (by unfold maxLen; omega)
  have I1 := Lib.hid hi1
  have O1 := Lib.hid ho1
  have B1 := Lib.hid hb1
  clear hi1 ho1 hb1
  go_wp2_with fail
  refine (HI.out _).mono ?_
  rintro e w2 ⟨_, rfl, ⟨x2, rfl, ho2, hl2⟩, hb2⟩
  obtain ⟨A2, cap2, rfl, _, hi2⟩ := own_ints ho2 (by unfold maxLen; omega)
  obtain ⟨P, hP⟩ : ∃ P, P = w1.heap.size := ⟨_, rfl⟩
  have p2 := (Blk.new w1 25 #[.int .i64 m, .slice A1 vs.length cap1]).below hb2 (Blk.lt (Blk.new _ _ _))
  rw [← hP] at p2
  rw [← hP]
  have I12 := Lib.hid (((ints_al I1.out (.cells #[.int .i64 m, .slice A1 vs.length cap1] 25)).below hb2).more hb2.size)
  have O12 := Lib.hid (own_under (O1.out.alloc (.cells #[.int .i64 m, .slice A1 vs.length cap1] 25)) hb2)
  have I2 := Lib.hid hi2
  have O2 := Lib.hid ho2
  have B2 := Lib.hid (below_on (below_al B1.out (Nat.le_refl _) _) hb2)
  have P2 := Lib.hid p2
  have hPw : P < w2.heap.size := Blk.lt p2
  have HPb : Hid (P < (w1.alloc (.cells #[.int .i64 m, .slice A1 vs.length cap1] 25)).heap.size) := by show _ < _; rw [hP]; simp
  have q0 : ∀ o, (w2.alloc o).cell? ⟨P, 0, none⟩ = some (.int .i64 m) := fun o => (p2.alloc o).cell 0
  have q1 : ∀ o, (w2.alloc o).cell? ⟨P, 1, none⟩ = some (.slice A1 vs.length cap1) := fun o => (p2.alloc o).cell 1
  clear hb2 hi2 ho2 p2 hP
  obtain ⟨Q, hQ⟩ : ∃ Q, Q = w2.heap.size := ⟨_, rfl⟩
  have DIS : Hid (∀ j, (Value.slice A2 vs.length cap2).ownBlock = some j → (w1.alloc (.cells #[.int .i64 m, .slice A1 vs.length cap1] 25)).heap.size ≤ j ∧ j < Q ∧ w.heap.size ≤ j) := fun j hj => by
    have h := O2.out.lt j hj
    have h2 := B1.out.size
    have h3 := h.1
    simp at h3
    refine ⟨h.1, by rw [hQ]; exact h.2, by omega⟩
  have DIS1 : Hid (∀ j, (Value.slice A1 vs.length cap1).ownBlock = some j → j < (w1.alloc (.cells #[.int .i64 m, .slice A1 vs.length cap1] 25)).heap.size) := fun j hj => by
    have h := (O1.out.lt j hj).2
    simp; omega
  have HPQ := HPb
  obtain ⟨bB, hbB⟩ : ∃ n, n = (w1.alloc (.cells #[.int .i64 m, .slice A1 vs.length cap1] 25)).heap.size := ⟨_, rfl⟩
  rw [← hbB] at DIS DIS1 HPQ O2
  have O1x := Lib.hid (O12.out.alloc (.cells #[.int .i64 m, .slice A2 vs.length cap2] 25))
  have O2x := Lib.hid (O2.out.alloc (.cells #[.int .i64 m, .slice A2 vs.length cap2] 25))
  have I1x := Lib.hid (ints_al I12.out (.cells #[.int .i64 m, .slice A2 vs.length cap2] 25))
  have I2x := Lib.hid (ints_al I2.out (.cells #[.int .i64 m, .slice A2 vs.length cap2] 25))
  have PX := Lib.hid (P2.out.alloc (.cells #[.int .i64 m, .slice A2 vs.length cap2] 25))
  have QX := Lib.hid (Blk.new w2 25 #[.int .i64 m, .slice A2 vs.length cap2])
  have BX := Lib.hid (below_al B2.out (Nat.le_refl _) (.cells #[.int .i64 m, .slice A2 vs.length cap2] 25))
  rw [← hQ] at QX
  have hlv := hl1
  clear hbB O12 O2 I12 I2 P2 B2 O1 I1 B1 HPb hl1 hl2
  have HQ := Lib.hid hQ
  clear hQ
  go_wp2_with fail
  rw [← HQ.out]
  clear q0 q1
  refine (eqMatrix_eq _ _ _ _ _ _ _ I2x.out I1x.out).mono ?_
  rintro e t1 ⟨rfl, hbt1⟩
  have BT1 := Lib.hid (below_on BX.out hbt1)
  have OA1 := Lib.hid (own_under O1x.out hbt1)
  have OB1 := Lib.hid (own_under O2x.out hbt1)
  have PT1 := Lib.hid (PX.out.below hbt1 (Blk.lt PX.out))
  have QT1 := Lib.hid (QX.out.below hbt1 (Blk.lt QX.out))
  clear hbt1
  obtain ⟨y0, y1⟩ := two_cells PT1.out
  obtain ⟨z0, z1⟩ := two_cells QT1.out
  go_wp2_with fail
  refine (markMatrix_own _ _ _ _ _ _ _ hlv OB1.out).mono ?_
  rintro e t2 ⟨rfl, hot2, hgt2⟩
  have hdis : (Value.slice A1 vs.length cap1).ownBlock = none ∨ (Value.slice A1 vs.length cap1).ownBlock ≠ (Value.slice A2 vs.length cap2).ownBlock := by
    rcases h0 : (Value.slice A1 vs.length cap1).ownBlock with _ | j
    · exact Or.inl rfl
    · right
      intro he
      have h1 := DIS1.out j h0
      have h2 := (DIS.out j he.symm).1
      omega
  have OA2 := Lib.hid (OA1.out.kept hgt2 hdis)
  have OB2 := Lib.hid hot2
  have PT2 : Hid (Blk t2 P 25 #[.int .i64 m, .slice A1 vs.length cap1]) := (hgt2.block P (Blk.lt PT1.out) (fun he => by have := (DIS.out P he.symm).1; have := HPQ.out; omega)).trans PT1.out
  have QT2 : Hid (Blk t2 Q 25 #[.int .i64 m, .slice A2 vs.length cap2]) := (hgt2.block Q (Blk.lt QT1.out) (fun he => by have := (DIS.out Q he.symm).2.1; omega)).trans QT1.out
  have BT2 := Lib.hid (BT1.out.grown hgt2 BT1.out.size (fun j hj => (DIS.out j hj).2.2))
  clear hdis hot2 hgt2
  clear y0 y1 z0 z1
  obtain ⟨y0, y1⟩ := two_cells PT2.out
  obtain ⟨z0, z1⟩ := two_cells QT2.out
  go_wp2_with fail
  refine (heldMatrix_own _ _ _ _ _ _ hlv OB2.out).mono ?_
  rintro e t3 ⟨rfl, hbt3⟩
  have BT3 := Lib.hid (below_on BT2.out hbt3)
  have OA3 := Lib.hid (own_under OA2.out hbt3)
  have OB3 := Lib.hid (own_under OB2.out hbt3)
  have PT3 := Lib.hid (PT2.out.below hbt3 (Blk.lt PT2.out))
  have QT3 := Lib.hid (QT2.out.below hbt3 (Blk.lt QT2.out))
  clear hbt3
  clear y0 y1 z0 z1
  obtain ⟨y0, y1⟩ := two_cells PT3.out
  obtain ⟨z0, z1⟩ := two_cells QT3.out
  go_wp2_with fail
  have BT4 := BT3
  have OA4 := OA3
  have OB4 := OB3
  have PT4 := PT3
  have QT4 := QT3
  refine (HI.out _).mono ?_
  rintro e t5 ⟨_, rfl, ⟨x5, rfl, ho5, hl5⟩, hb5⟩
  obtain ⟨A5, cap5, rfl, _, hi5⟩ := own_ints ho5 (by unfold maxLen; omega)
  have BT5 := Lib.hid (below_on BT4.out hb5)
  have OA5 := own_under OA4.out hb5
  have OB5 := Lib.hid (own_under OB4.out hb5)
  have PT5 := Lib.hid (PT4.out.below hb5 (Blk.lt PT4.out))
  have QT5 := Lib.hid (QT4.out.below hb5 (Blk.lt QT4.out))
  obtain ⟨B1', cap1', hB1', _, hi51⟩ := own_ints OA5 (by unfold maxLen; omega)
  cases hB1'
  have I5 := Lib.hid hi5
  have I51 := Lib.hid hi51
  clear hb5 ho5 hi5 hi51 OA5
  clear y0 y1 z0 z1
  have y0 : ∀ o, (t5.alloc o).cell? ⟨P, 0, none⟩ = some (.int .i64 m) := fun o => (PT5.out.alloc o).cell 0
  have y1 : ∀ o, (t5.alloc o).cell? ⟨P, 1, none⟩ = some (.slice A1 vs.length cap1) := fun o => (PT5.out.alloc o).cell 1
  have z0 : ∀ o, (t5.alloc o).cell? ⟨Q, 0, none⟩ = some (.int .i64 m) := fun o => (QT5.out.alloc o).cell 0
  have z1 : ∀ o, (t5.alloc o).cell? ⟨Q, 1, none⟩ = some (.slice A2 vs.length cap2) := fun o => (QT5.out.alloc o).cell 1
  go_wp2_with fail
  refine (eqMatrix_eq _ _ _ _ _ _ _ (ints_al I5.out _) (ints_al I51.out _)).mono ?_
  rintro e t6 ⟨rfl, hb6⟩
  have BT6 := Lib.hid (below_on (below_al BT5.out (Nat.le_refl _) _) hb6)
  have OB6 := Lib.hid (own_under (OB5.out.alloc (.cells #[.int .i64 m, .slice A5 vs.length cap5] 25)) hb6)
  have QT6 := Lib.hid ((QT5.out.alloc (.cells #[.int .i64 m, .slice A5 vs.length cap5] 25)).below hb6 (Blk.lt (QT5.out.alloc _)))
  clear hb6
  clear y0 y1 z0 z1
  obtain ⟨z6, z7⟩ := two_cells QT6.out
  go_wp2_with fail
  refine (heldMatrix_own _ _ _ _ _ _ hlv OB6.out).mono ?_
  rintro e t7 ⟨rfl, hb7⟩
  go_wp2_with fail
  go_ret
  exact ⟨rfl, below_on BT6.out hb7⟩end Go.Proofs.Ytdomejgngmbcdaa
