/- The states that lie on a run, the model's; in new memory; nothing that was there changes. No condition. -/
import Derived.Test.YtjnbdpejgbbfdaaUsefulI
namespace Go.Proofs.Ytjnbdpejgbbfdaa
open Go.RowKit
set_option maxHeartbeats 4000000
set_option maxRecDepth 100000
set_option linter.unusedVariables false

theorem selB_stop {f : Nat → Bool} : ∀ {n : Nat}, n ≤ 4 → (∀ q, n ≤ q → f q = false) → selB f 4 = selB f n := by
  intro n hn hf
  have h : ∀ d, n ≤ 4 - d → selB f (4 - d) = selB f 4 := by
    intro d
    induction d with
    | zero => intro _; rfl
    | succ d ih =>
      intro hd
      rcases Nat.lt_or_ge d 4 with h4 | h4
      · have e : 4 - d = 4 - (d + 1) + 1 := by omega
        rw [← ih (by omega), e, selB_f (hf _ hd)]
      · have e : 4 - (d + 1) = 4 - d := by omega
        rw [e]; exact ih (by omega)
  have := h (4 - n) (by omega)
  rw [show 4 - (4 - n) = n by omega] at this
  exact this.symm

theorem sUseful_any (m : Int) (A1 A2 A3 : Option Addr) (c1 c2 c3 : Nat) (xs ys : List Int) (ss : List StepD) (w : World) (hx : Ints w w.heap.size A1 xs) (hy : Ints w w.heap.size A2 ys) (hs : SRow w w.heap.size A3 ss) :
    Calls Try.prog 5 #[.agg #[.int .i64 m, .slice A1 xs.length c1, .slice A2 ys.length c2, .slice A3 ss.length c3]] w fun e w' => UEnd (useR m xs ys ss) w e w' := by
  have HX0 := Lib.hid (ints_al (ints_al hx (.cells #[.int .i64 m, .slice A1 xs.length c1, .slice A2 ys.length c2, .slice A3 ss.length c3] 30)) (.cells #[] 3))
  have HY0 := Lib.hid (ints_al (ints_al hy (.cells #[.int .i64 m, .slice A1 xs.length c1, .slice A2 ys.length c2, .slice A3 ss.length c3] 30)) (.cells #[] 3))
  have HS0 := Lib.hid ((hs.al (.cells #[.int .i64 m, .slice A1 xs.length c1, .slice A2 ys.length c2, .slice A3 ss.length c3] 30)).al (.cells #[] 3))
  have K0 := Lib.hid ((Blk.new w 30 #[.int .i64 m, .slice A1 xs.length c1, .slice A2 ys.length c2, .slice A3 ss.length c3]).alloc (.cells #[] 3))
  have E0 : Hid (((w.alloc (.cells #[.int .i64 m, .slice A1 xs.length c1, .slice A2 ys.length c2, .slice A3 ss.length c3] 30)).alloc (.cells #[] 3)).ownsRow w.heap.size 3 1 (.slice (some ⟨w.heap.size + 1, 0, none⟩) 0 0) 0 []) := ⟨rfl, .inr ⟨w.heap.size + 1, 0, #[], rfl, Nat.le_succ _, (by have h := heap_alloc_new (w.alloc (.cells #[.int .i64 m, .slice A1 xs.length c1, .slice A2 ys.length c2, .slice A3 ss.length c3] 30)) (.cells #[] 3); rwa [World.size_alloc] at h), Nat.le_refl _, by unfold maxLen; omega, rfl, rfl⟩⟩
  have B0 := Lib.hid (below_a2 w (.cells #[.int .i64 m, .slice A1 xs.length c1, .slice A2 ys.length c2, .slice A3 ss.length c3] 30) (.cells #[] 3))
  clear hx hy hs
  obtain ⟨b, hb⟩ : ∃ b, autoOk m xs ys ss = b := ⟨_, rfl⟩
  have HOK := Lib.hid hb
  go_enter Try.func5, Try.ntmps5
  go_wp2_with fail
  generalize (w.alloc (.cells #[.int .i64 m, .slice A1 xs.length c1, .slice A2 ys.length c2, .slice A3 ss.length c3] 30)).alloc (.cells #[] 3) = w0 at HX0 HY0 HS0 K0 E0 B0 ⊢
  refine (sAutomatonValid_is _ _ _ _ _ _ _ _ _ _ b _ HX0.out HY0.out HS0.out HOK.out).mono ?_
  rintro e w1 ⟨rfl, hb1⟩
  have B1 := Lib.hid (below_on B0.out hb1.out)
  have K1 := Lib.hid (blk_b K0.out hb1.out)
  have E1 := Lib.hid (own_under E0.out hb1.out)
  have HX1 := Lib.hid ((HX0.out.below hb1.out).more hb1.out.size)
  have HY1 := Lib.hid ((HY0.out.below hb1.out).more hb1.out.size)
  have HS1 := Lib.hid (HS0.out.on hb1.out)
  clear HX0 HY0 HS0 K0 E0 B0 hb1
  cases b
  · have HR := Lib.hid (useR_none hb)
    clear hb
    go_wp2_with fail
    go_ret
    exact UEnd.mk HR.out E1.out B1.out
  obtain ⟨n, rfl, n1, n4, hxi, hyi, hsl, hsi⟩ := auto_in hb
  have HR := Lib.hid (useR_some hb)
  have HSI := Lib.hid hsi
  have HXI := Lib.hid hxi
  have HYI := Lib.hid hyi
  clear hb hsi hxi hyi HOK
  -- REGION
  go_upto_region 4 with fail
  obtain ⟨u, hu⟩ : ∃ u, rrounds ss (setL xs) n = u := ⟨_, rfl⟩
  obtain ⟨v, hv⟩ : ∃ v, rrounds (ss.map swS) (setL ys) n = v := ⟨_, rfl⟩
  have HU1 : Hid (vecB (rrounds ss (setL xs) n) = #[.bool (u 0), .bool (u 1), .bool (u 2), .bool (u 3)]) := by show _ = _; rw [hu]; rfl
  have HU2 : Hid (vecB (rrounds (ss.map swS) (setL ys) n) = #[.bool (v 0), .bool (v 1), .bool (v 2), .bool (v 3)]) := by show _ = _; rw [hv]; rfl
  have HUB : Hid (∀ q, useB n xs ys ss q = (u q && v q)) := fun q => by unfold useB; rw [hu, hv]
  have HFIN : Hid (∀ U, useB n xs ys ss = U → selB U n = selB U 4) := fun U e => by
    refine (selB_stop n4 (fun q hq => ?_)).symm
    rw [← e]
    rcases h : useB n xs ys ss q with _ | _
    · rfl
    · unfold useB at h
      rw [Bool.and_eq_true] at h
      have := rch_in HSI.out (fun q h => setL_in HXI.out h) (rrounds_sound n HSI.out (setL xs) n q h.1)
      omega
  clear hu hv
  have KF : Hid (∀ w', Below w1.heap.size w1 w' → (Hid (Below w1.heap.size w1 w') ∧ w'.cell? ⟨w.heap.size, 0, none⟩ = some (.int .i64 n) ∧ w'.cell? ⟨w.heap.size, 1, none⟩ = some (.slice A1 xs.length c1) ∧ w'.cell? ⟨w.heap.size, 2, none⟩ = some (.slice A2 ys.length c2) ∧ w'.cell? ⟨w.heap.size, 3, none⟩ = some (.slice A3 ss.length c3))) := fun w' h => by
    have k := blk_b K1.out h
    exact ⟨h, k.cell 0, k.cell 1, k.cell 2, k.cell 3⟩
  go_cut [4, 5] (fun s4 s5 wx => ∃ g4 g5 : Nat, s4 = .pointer (some ⟨g4, 0, none⟩) ∧ s5 = .pointer (some ⟨g5, 0, none⟩) ∧ Hid (Blk wx g4 39 (vecB u)) ∧ Hid (Blk wx g5 39 (vecB v)) ∧ Hid (Below w1.heap.size w1 wx))
  case first =>
    have hS0 := KF.out w1.drew ((Below.refl _ _).drew)
    refine wp_region_Z (S := fun w' => Hid (Below w1.heap.size w1 w') ∧ w'.cell? ⟨w.heap.size, 0, none⟩ = some (.int .i64 n) ∧ w'.cell? ⟨w.heap.size, 1, none⟩ = some (.slice A1 xs.length c1) ∧ w'.cell? ⟨w.heap.size, 2, none⟩ = some (.slice A2 ys.length c2) ∧ w'.cell? ⟨w.heap.size, 3, none⟩ = some (.slice A3 ss.length c3)) (by kernel_rfl) hS0 (fun hS => ?_)
    clear hS0
    refine wpAnyZ_take (i := 0) (v := ?vs0) rfl (by kernel_rfl) (by kernel_rfl) (by kernel_rfl) (by kernel_rfl) (fun _ _ _ h => h) (Or.inl ⟨by rfl, ?ys0⟩) (by with_reducible assumption) ?rs0
    case ys0 => (intro w hSw; (try dsimp only at hSw); go_simp; (try with_reducible rfl))
    simp only [Act.put, List.setIfInBounds_toArray]
    refine wpAnyZ_take (i := 1) (v := ?vs1) rfl (by kernel_rfl) (by kernel_rfl) (by kernel_rfl) (by kernel_rfl) (fun _ _ _ h => h) (Or.inl ⟨by rfl, ?ys1⟩) (by with_reducible assumption) ?rs1
    case ys1 => (intro w hSw; (try dsimp only at hSw); go_simp; (try with_reducible rfl))
    simp only [Act.put]
    refine wpAnyZ_take (i := 2) (v := ?vs2) rfl (by kernel_rfl) (by kernel_rfl) (by kernel_rfl) (by kernel_rfl) (fun _ _ _ h => h) (Or.inl ⟨by rfl, ?ys2⟩) (by with_reducible assumption) ?rs2
    case ys2 => (intro w hSw; (try dsimp only at hSw); go_simp; (try with_reducible rfl))
    simp only [Act.put]
    refine wpAnyZ_take (i := 4) (v := ?vs4) rfl (by kernel_rfl) (by kernel_rfl) (by kernel_rfl) (by kernel_rfl) (fun _ _ _ h => h) (Or.inl ⟨by rfl, ?ys4⟩) (by with_reducible assumption) ?rs4
    case ys4 => (intro w hSw; (try dsimp only at hSw); go_simp; (try with_reducible rfl))
    simp only [Act.put]
    refine wpAnyZ_take (i := 5) (v := ?vs5) rfl (by kernel_rfl) (by kernel_rfl) (by kernel_rfl) (by kernel_rfl) (fun _ _ _ h => h) (Or.inl ⟨by rfl, ?ys5⟩) (by with_reducible assumption) ?rs5
    case ys5 => (intro w hSw; (try dsimp only at hSw); go_simp; (try with_reducible rfl))
    simp only [Act.put]
    refine wpAnyZ_take (i := 6) (v := ?vs6) rfl (by kernel_rfl) (by kernel_rfl) (by kernel_rfl) (by kernel_rfl) (fun _ _ _ h => h) (Or.inl ⟨by rfl, ?ys6⟩) (by with_reducible assumption) ?rs6
    case ys6 => (intro w hSw; (try dsimp only at hSw); go_simp; (try with_reducible rfl))
    simp only [Act.put]
    have D : Hid (Below w1.heap.size w1 w1.drew) := (Below.refl _ _).drew
    have hSx := hS
    clear hS
    generalize w1.drew = x at D hSx ⊢
    refine wpAnyZ_fork (rs := [3, 8, 9]) (by kernel_rfl) (by decide) ?_
    intro i hi
    simp only [List.mem_cons, List.not_mem_nil, or_false] at hi
    rcases hi with rfl | rfl | rfl
    · refine ⟨_, rfl, fun K1 hK1 => ?_⟩
      go_simp
      refine (l3Reach_there n _ _ _ _ _ _ _ _ _ _ _ ss _ n4 ((HX1.out.below D.out).more D.out.size) (HS1.out.on D.out) HXI.out HSI.out).mono ?_
      rintro e x3 ⟨rfl, hb⟩
      have D' := Lib.hid (below_on D.out hb.out)
      rw [HU1.out]
      clear D hSx hb
      have D := D'
      clear D'
      refine hK1.out _ _ (KF.out _ D.out) (fun hSx => ?_)
      clear hK1
      (try simp only [Act.put])
      refine wpAnyZ_fork (rs := [7, 8, 9]) (by kernel_rfl) (by decide) ?_
      intro i hi
      simp only [List.mem_cons, List.not_mem_nil, or_false] at hi
      rcases hi with rfl | rfl | rfl
      · refine ⟨_, rfl, fun K1 hK1 => ?_⟩
        go_simp
        refine (l3Reach_back n _ _ _ _ _ _ _ _ _ _ _ ss _ n4 ((HY1.out.below D.out).more D.out.size) (HS1.out.on D.out) HYI.out HSI.out).mono ?_
        rintro e x37 ⟨rfl, hb⟩
        have D' := Lib.hid (below_on D.out hb.out)
        rw [HU2.out]
        clear D hSx hb
        have D := D'
        clear D'
        refine hK1.out _ _ (KF.out _ D.out) (fun hSx => ?_)
        clear hK1
        (try simp only [Act.put])
        refine wpAnyZ_fork (rs := [8, 9]) (by kernel_rfl) (by decide) ?_
        intro i hi
        simp only [List.mem_cons, List.not_mem_nil, or_false] at hi
        rcases hi with rfl | rfl
        · refine ⟨_, rfl, fun K1 hK1 => ?_⟩
          go_simp
          have D' := Lib.hid (below_al D.out (Nat.le_refl _) (.cells #[.bool false, .bool false, .bool false, .bool false] 39))
          have PN := Lib.hid (Blk.new x37 39 #[.bool false, .bool false, .bool false, .bool false])
          have hg4 : w1.heap.size ≤ x37.heap.size := D.out.size
          refine hK1.out _ _ (KF.out _ D'.out) (fun hSx' => ?_)
          clear hK1
          (try simp only [Act.put])
          generalize x37.alloc (.cells #[.bool false, .bool false, .bool false, .bool false] 39) = x378 at D' PN hSx' ⊢
          clear D hSx
          generalize x37.heap.size = g4 at PN hg4 ⊢
          have D := D'
          clear D'
          have hSx := hSx'
          clear hSx'
          have P4 := PN
          clear PN
          refine wpAnyZ_fork (rs := [9]) (by kernel_rfl) (by decide) ?_
          intro i hi
          simp only [List.mem_cons, List.not_mem_nil, or_false] at hi
          subst hi
          · refine ⟨_, rfl, fun K1 hK1 => ?_⟩
            go_simp
            have D' := Lib.hid (below_al D.out (Nat.le_refl _) (.cells #[.bool false, .bool false, .bool false, .bool false] 39))
            have PN := Lib.hid (Blk.new x378 39 #[.bool false, .bool false, .bool false, .bool false])
            have P4' := Lib.hid (P4.out.alloc (.cells #[.bool false, .bool false, .bool false, .bool false] 39))
            have hne : g4 ≠ x378.heap.size := fun e => by have := Blk.lt P4.out; omega
            have hg5 : w1.heap.size ≤ x378.heap.size := D.out.size
            refine hK1.out _ _ (KF.out _ D'.out) (fun hSx' => ?_)
            clear hK1
            (try simp only [Act.put])
            generalize x378.alloc (.cells #[.bool false, .bool false, .bool false, .bool false] 39) = x3789 at D' PN hSx' P4' ⊢
            clear D hSx P4
            generalize x378.heap.size = g5 at PN hg5 hne ⊢
            have D := D'
            clear D'
            have hSx := hSx'
            clear hSx'
            have P5 := PN
            clear PN
            have P4 := P4'
            clear P4'
            obtain ⟨d0, d1, d2, d3⟩ := four_cells P4.out
            obtain ⟨f0, f1, f2, f3⟩ := four_frozen P4.out
            refine wpAnyZ_step (i := 10) (by kernel_rfl) rfl ?_
            intro KS hKS
            go_simp
            have hg4s : x3789.grownBy ((((x3789.setCell ⟨g4, 0, none⟩ (.bool (u 0))).setCell ⟨g4, 1, none⟩ (.bool (u 1))).setCell ⟨g4, 2, none⟩ (.bool (u 2))).setCell ⟨g4, 3, none⟩ (.bool (u 3))) (some g4) := four_grow_ _ _ _ _ _ _
            have Q4 := Lib.hid ((((P4.out.set_ 0 (.bool (u 0))).set_ 1 (.bool (u 1))).set_ 2 (.bool (u 2))).set_ 3 (.bool (u 3)))
            have Q5 := Lib.hid (Blk.stay P5.out hg4s (fun e => hne (Option.some.inj e).symm))
            have DQ := Lib.hid (D.out.grown hg4s D.out.size (fun j hj => by have := Option.some.inj hj; omega))
            refine hKS.out _ _ (KF.out _ DQ.out) (fun hSq => ?_)
            clear hKS hSx d0 d1 d2 d3 f0 f1 f2 f3 P4 P5 D
            (try simp only [Act.put])
            generalize (((x3789.setCell ⟨g4, 0, none⟩ (.bool (u 0))).setCell ⟨g4, 1, none⟩ (.bool (u 1))).setCell ⟨g4, 2, none⟩ (.bool (u 2))).setCell ⟨g4, 3, none⟩ (.bool (u 3)) = wy at Q4 Q5 DQ hSq hg4s ⊢
            obtain ⟨d0, d1, d2, d3⟩ := four_cells Q5.out
            obtain ⟨f0, f1, f2, f3⟩ := four_frozen Q5.out
            refine wpAnyZ_last (i := 11) (by kernel_rfl) rfl (by kernel_rfl) ?_
            intro KL hKL
            go_simp
            refine hKL.out _ _ ?_
            have hg5s : wy.grownBy ((((wy.setCell ⟨g5, 0, none⟩ (.bool (v 0))).setCell ⟨g5, 1, none⟩ (.bool (v 1))).setCell ⟨g5, 2, none⟩ (.bool (v 2))).setCell ⟨g5, 3, none⟩ (.bool (v 3))) (some g5) := four_grow_ _ _ _ _ _ _
            have R5 : Hid (Blk ((((wy.setCell ⟨g5, 0, none⟩ (.bool (v 0))).setCell ⟨g5, 1, none⟩ (.bool (v 1))).setCell ⟨g5, 2, none⟩ (.bool (v 2))).setCell ⟨g5, 3, none⟩ (.bool (v 3))) g5 39 (vecB v)) := (((Q5.out.set_ 0 (.bool (v 0))).set_ 1 (.bool (v 1))).set_ 2 (.bool (v 2))).set_ 3 (.bool (v 3))
            have R4 : Hid (Blk ((((wy.setCell ⟨g5, 0, none⟩ (.bool (v 0))).setCell ⟨g5, 1, none⟩ (.bool (v 1))).setCell ⟨g5, 2, none⟩ (.bool (v 2))).setCell ⟨g5, 3, none⟩ (.bool (v 3))) g4 39 (vecB u)) := Blk.stay Q4.out hg5s (fun e => hne (Option.some.inj e))
            have DR := Lib.hid (DQ.out.grown hg5s DQ.out.size (fun j hj => by have := Option.some.inj hj; omega))
            clear hKL
            go_wp2_with fail
            go_meet
            exact ⟨g4, g5, rfl, rfl, R4, R5, DR⟩
        · refine ⟨_, rfl, fun K1 hK1 => ?_⟩
          go_simp
          have D' := Lib.hid (below_al D.out (Nat.le_refl _) (.cells #[.bool false, .bool false, .bool false, .bool false] 39))
          have PN := Lib.hid (Blk.new x37 39 #[.bool false, .bool false, .bool false, .bool false])
          have hg5 : w1.heap.size ≤ x37.heap.size := D.out.size
          refine hK1.out _ _ (KF.out _ D'.out) (fun hSx' => ?_)
          clear hK1
          (try simp only [Act.put])
          generalize x37.alloc (.cells #[.bool false, .bool false, .bool false, .bool false] 39) = x379 at D' PN hSx' ⊢
          clear D hSx
          generalize x37.heap.size = g5 at PN hg5 ⊢
          have D := D'
          clear D'
          have hSx := hSx'
          clear hSx'
          have P5 := PN
          clear PN
          refine wpAnyZ_fork (rs := [8]) (by kernel_rfl) (by decide) ?_
          intro i hi
          simp only [List.mem_cons, List.not_mem_nil, or_false] at hi
          subst hi
          · refine ⟨_, rfl, fun K1 hK1 => ?_⟩
            go_simp
            have D' := Lib.hid (below_al D.out (Nat.le_refl _) (.cells #[.bool false, .bool false, .bool false, .bool false] 39))
            have PN := Lib.hid (Blk.new x379 39 #[.bool false, .bool false, .bool false, .bool false])
            have P5' := Lib.hid (P5.out.alloc (.cells #[.bool false, .bool false, .bool false, .bool false] 39))
            have hne : x379.heap.size ≠ g5 := fun e => by have := Blk.lt P5.out; omega
            have hg4 : w1.heap.size ≤ x379.heap.size := D.out.size
            refine hK1.out _ _ (KF.out _ D'.out) (fun hSx' => ?_)
            clear hK1
            (try simp only [Act.put])
            generalize x379.alloc (.cells #[.bool false, .bool false, .bool false, .bool false] 39) = x3798 at D' PN hSx' P5' ⊢
            clear D hSx P5
            generalize x379.heap.size = g4 at PN hg4 hne ⊢
            have D := D'
            clear D'
            have hSx := hSx'
            clear hSx'
            have P4 := PN
            clear PN
            have P5 := P5'
            clear P5'
            obtain ⟨d0, d1, d2, d3⟩ := four_cells P4.out
            obtain ⟨f0, f1, f2, f3⟩ := four_frozen P4.out
            refine wpAnyZ_step (i := 10) (by kernel_rfl) rfl ?_
            intro KS hKS
            go_simp
            have hg4s : x3798.grownBy ((((x3798.setCell ⟨g4, 0, none⟩ (.bool (u 0))).setCell ⟨g4, 1, none⟩ (.bool (u 1))).setCell ⟨g4, 2, none⟩ (.bool (u 2))).setCell ⟨g4, 3, none⟩ (.bool (u 3))) (some g4) := four_grow_ _ _ _ _ _ _
            have Q4 := Lib.hid ((((P4.out.set_ 0 (.bool (u 0))).set_ 1 (.bool (u 1))).set_ 2 (.bool (u 2))).set_ 3 (.bool (u 3)))
            have Q5 := Lib.hid (Blk.stay P5.out hg4s (fun e => hne (Option.some.inj e).symm))
            have DQ := Lib.hid (D.out.grown hg4s D.out.size (fun j hj => by have := Option.some.inj hj; omega))
            refine hKS.out _ _ (KF.out _ DQ.out) (fun hSq => ?_)
            clear hKS hSx d0 d1 d2 d3 f0 f1 f2 f3 P4 P5 D
            (try simp only [Act.put])
            generalize (((x3798.setCell ⟨g4, 0, none⟩ (.bool (u 0))).setCell ⟨g4, 1, none⟩ (.bool (u 1))).setCell ⟨g4, 2, none⟩ (.bool (u 2))).setCell ⟨g4, 3, none⟩ (.bool (u 3)) = wy at Q4 Q5 DQ hSq hg4s ⊢
            obtain ⟨d0, d1, d2, d3⟩ := four_cells Q5.out
            obtain ⟨f0, f1, f2, f3⟩ := four_frozen Q5.out
            refine wpAnyZ_last (i := 11) (by kernel_rfl) rfl (by kernel_rfl) ?_
            intro KL hKL
            go_simp
            refine hKL.out _ _ ?_
            have hg5s : wy.grownBy ((((wy.setCell ⟨g5, 0, none⟩ (.bool (v 0))).setCell ⟨g5, 1, none⟩ (.bool (v 1))).setCell ⟨g5, 2, none⟩ (.bool (v 2))).setCell ⟨g5, 3, none⟩ (.bool (v 3))) (some g5) := four_grow_ _ _ _ _ _ _
            have R5 : Hid (Blk ((((wy.setCell ⟨g5, 0, none⟩ (.bool (v 0))).setCell ⟨g5, 1, none⟩ (.bool (v 1))).setCell ⟨g5, 2, none⟩ (.bool (v 2))).setCell ⟨g5, 3, none⟩ (.bool (v 3))) g5 39 (vecB v)) := (((Q5.out.set_ 0 (.bool (v 0))).set_ 1 (.bool (v 1))).set_ 2 (.bool (v 2))).set_ 3 (.bool (v 3))
            have R4 : Hid (Blk ((((wy.setCell ⟨g5, 0, none⟩ (.bool (v 0))).setCell ⟨g5, 1, none⟩ (.bool (v 1))).setCell ⟨g5, 2, none⟩ (.bool (v 2))).setCell ⟨g5, 3, none⟩ (.bool (v 3))) g4 39 (vecB u)) := Blk.stay Q4.out hg5s (fun e => hne (Option.some.inj e))
            have DR := Lib.hid (DQ.out.grown hg5s DQ.out.size (fun j hj => by have := Option.some.inj hj; omega))
            clear hKL
            go_wp2_with fail
            go_meet
            exact ⟨g4, g5, rfl, rfl, R4, R5, DR⟩
      · refine ⟨_, rfl, fun K1 hK1 => ?_⟩
        go_simp
        have D' := Lib.hid (below_al D.out (Nat.le_refl _) (.cells #[.bool false, .bool false, .bool false, .bool false] 39))
        have PN := Lib.hid (Blk.new x3 39 #[.bool false, .bool false, .bool false, .bool false])
        have hg4 : w1.heap.size ≤ x3.heap.size := D.out.size
        refine hK1.out _ _ (KF.out _ D'.out) (fun hSx' => ?_)
        clear hK1
        (try simp only [Act.put])
        generalize x3.alloc (.cells #[.bool false, .bool false, .bool false, .bool false] 39) = x38 at D' PN hSx' ⊢
        clear D hSx
        generalize x3.heap.size = g4 at PN hg4 ⊢
        have D := D'
        clear D'
        have hSx := hSx'
        clear hSx'
        have P4 := PN
        clear PN
        refine wpAnyZ_fork (rs := [7, 9]) (by kernel_rfl) (by decide) ?_
        intro i hi
        simp only [List.mem_cons, List.not_mem_nil, or_false] at hi
        rcases hi with rfl | rfl
        · refine ⟨_, rfl, fun K1 hK1 => ?_⟩
          go_simp
          refine (l3Reach_back n _ _ _ _ _ _ _ _ _ _ _ ss _ n4 ((HY1.out.below D.out).more D.out.size) (HS1.out.on D.out) HYI.out HSI.out).mono ?_
          rintro e x387 ⟨rfl, hb⟩
          have D' := Lib.hid (below_on D.out hb.out)
          have P4' := Lib.hid (blk_b P4.out hb.out)
          rw [HU2.out]
          clear D hSx hb P4
          have D := D'
          clear D'
          have P4 := P4'
          clear P4'
          refine hK1.out _ _ (KF.out _ D.out) (fun hSx => ?_)
          clear hK1
          (try simp only [Act.put])
          refine wpAnyZ_fork (rs := [9]) (by kernel_rfl) (by decide) ?_
          intro i hi
          simp only [List.mem_cons, List.not_mem_nil, or_false] at hi
          subst hi
          · refine ⟨_, rfl, fun K1 hK1 => ?_⟩
            go_simp
            have D' := Lib.hid (below_al D.out (Nat.le_refl _) (.cells #[.bool false, .bool false, .bool false, .bool false] 39))
            have PN := Lib.hid (Blk.new x387 39 #[.bool false, .bool false, .bool false, .bool false])
            have P4' := Lib.hid (P4.out.alloc (.cells #[.bool false, .bool false, .bool false, .bool false] 39))
            have hne : g4 ≠ x387.heap.size := fun e => by have := Blk.lt P4.out; omega
            have hg5 : w1.heap.size ≤ x387.heap.size := D.out.size
            refine hK1.out _ _ (KF.out _ D'.out) (fun hSx' => ?_)
            clear hK1
            (try simp only [Act.put])
            generalize x387.alloc (.cells #[.bool false, .bool false, .bool false, .bool false] 39) = x3879 at D' PN hSx' P4' ⊢
            clear D hSx P4
            generalize x387.heap.size = g5 at PN hg5 hne ⊢
            have D := D'
            clear D'
            have hSx := hSx'
            clear hSx'
            have P5 := PN
            clear PN
            have P4 := P4'
            clear P4'
            obtain ⟨d0, d1, d2, d3⟩ := four_cells P4.out
            obtain ⟨f0, f1, f2, f3⟩ := four_frozen P4.out
            refine wpAnyZ_step (i := 10) (by kernel_rfl) rfl ?_
            intro KS hKS
            go_simp
            have hg4s : x3879.grownBy ((((x3879.setCell ⟨g4, 0, none⟩ (.bool (u 0))).setCell ⟨g4, 1, none⟩ (.bool (u 1))).setCell ⟨g4, 2, none⟩ (.bool (u 2))).setCell ⟨g4, 3, none⟩ (.bool (u 3))) (some g4) := four_grow_ _ _ _ _ _ _
            have Q4 := Lib.hid ((((P4.out.set_ 0 (.bool (u 0))).set_ 1 (.bool (u 1))).set_ 2 (.bool (u 2))).set_ 3 (.bool (u 3)))
            have Q5 := Lib.hid (Blk.stay P5.out hg4s (fun e => hne (Option.some.inj e).symm))
            have DQ := Lib.hid (D.out.grown hg4s D.out.size (fun j hj => by have := Option.some.inj hj; omega))
            refine hKS.out _ _ (KF.out _ DQ.out) (fun hSq => ?_)
            clear hKS hSx d0 d1 d2 d3 f0 f1 f2 f3 P4 P5 D
            (try simp only [Act.put])
            generalize (((x3879.setCell ⟨g4, 0, none⟩ (.bool (u 0))).setCell ⟨g4, 1, none⟩ (.bool (u 1))).setCell ⟨g4, 2, none⟩ (.bool (u 2))).setCell ⟨g4, 3, none⟩ (.bool (u 3)) = wy at Q4 Q5 DQ hSq hg4s ⊢
            obtain ⟨d0, d1, d2, d3⟩ := four_cells Q5.out
            obtain ⟨f0, f1, f2, f3⟩ := four_frozen Q5.out
            refine wpAnyZ_last (i := 11) (by kernel_rfl) rfl (by kernel_rfl) ?_
            intro KL hKL
            go_simp
            refine hKL.out _ _ ?_
            have hg5s : wy.grownBy ((((wy.setCell ⟨g5, 0, none⟩ (.bool (v 0))).setCell ⟨g5, 1, none⟩ (.bool (v 1))).setCell ⟨g5, 2, none⟩ (.bool (v 2))).setCell ⟨g5, 3, none⟩ (.bool (v 3))) (some g5) := four_grow_ _ _ _ _ _ _
            have R5 : Hid (Blk ((((wy.setCell ⟨g5, 0, none⟩ (.bool (v 0))).setCell ⟨g5, 1, none⟩ (.bool (v 1))).setCell ⟨g5, 2, none⟩ (.bool (v 2))).setCell ⟨g5, 3, none⟩ (.bool (v 3))) g5 39 (vecB v)) := (((Q5.out.set_ 0 (.bool (v 0))).set_ 1 (.bool (v 1))).set_ 2 (.bool (v 2))).set_ 3 (.bool (v 3))
            have R4 : Hid (Blk ((((wy.setCell ⟨g5, 0, none⟩ (.bool (v 0))).setCell ⟨g5, 1, none⟩ (.bool (v 1))).setCell ⟨g5, 2, none⟩ (.bool (v 2))).setCell ⟨g5, 3, none⟩ (.bool (v 3))) g4 39 (vecB u)) := Blk.stay Q4.out hg5s (fun e => hne (Option.some.inj e))
            have DR := Lib.hid (DQ.out.grown hg5s DQ.out.size (fun j hj => by have := Option.some.inj hj; omega))
            clear hKL
            go_wp2_with fail
            go_meet
            exact ⟨g4, g5, rfl, rfl, R4, R5, DR⟩
        · refine ⟨_, rfl, fun K1 hK1 => ?_⟩
          go_simp
          have D' := Lib.hid (below_al D.out (Nat.le_refl _) (.cells #[.bool false, .bool false, .bool false, .bool false] 39))
          have PN := Lib.hid (Blk.new x38 39 #[.bool false, .bool false, .bool false, .bool false])
          have P4' := Lib.hid (P4.out.alloc (.cells #[.bool false, .bool false, .bool false, .bool false] 39))
          have hne : g4 ≠ x38.heap.size := fun e => by have := Blk.lt P4.out; omega
          have hg5 : w1.heap.size ≤ x38.heap.size := D.out.size
          refine hK1.out _ _ (KF.out _ D'.out) (fun hSx' => ?_)
          clear hK1
          (try simp only [Act.put])
          generalize x38.alloc (.cells #[.bool false, .bool false, .bool false, .bool false] 39) = x389 at D' PN hSx' P4' ⊢
          clear D hSx P4
          generalize x38.heap.size = g5 at PN hg5 hne ⊢
          have D := D'
          clear D'
          have hSx := hSx'
          clear hSx'
          have P5 := PN
          clear PN
          have P4 := P4'
          clear P4'
          refine wpAnyZ_fork (rs := [7]) (by kernel_rfl) (by decide) ?_
          intro i hi
          simp only [List.mem_cons, List.not_mem_nil, or_false] at hi
          subst hi
          · refine ⟨_, rfl, fun K1 hK1 => ?_⟩
            go_simp
            refine (l3Reach_back n _ _ _ _ _ _ _ _ _ _ _ ss _ n4 ((HY1.out.below D.out).more D.out.size) (HS1.out.on D.out) HYI.out HSI.out).mono ?_
            rintro e x3897 ⟨rfl, hb⟩
            have D' := Lib.hid (below_on D.out hb.out)
            have P4' := Lib.hid (blk_b P4.out hb.out)
            have P5' := Lib.hid (blk_b P5.out hb.out)
            rw [HU2.out]
            clear D hSx hb P4 P5
            have D := D'
            clear D'
            have P4 := P4'
            clear P4'
            have P5 := P5'
            clear P5'
            refine hK1.out _ _ (KF.out _ D.out) (fun hSx => ?_)
            clear hK1
            (try simp only [Act.put])
            obtain ⟨d0, d1, d2, d3⟩ := four_cells P4.out
            obtain ⟨f0, f1, f2, f3⟩ := four_frozen P4.out
            refine wpAnyZ_step (i := 10) (by kernel_rfl) rfl ?_
            intro KS hKS
            go_simp
            have hg4s : x3897.grownBy ((((x3897.setCell ⟨g4, 0, none⟩ (.bool (u 0))).setCell ⟨g4, 1, none⟩ (.bool (u 1))).setCell ⟨g4, 2, none⟩ (.bool (u 2))).setCell ⟨g4, 3, none⟩ (.bool (u 3))) (some g4) := four_grow_ _ _ _ _ _ _
            have Q4 := Lib.hid ((((P4.out.set_ 0 (.bool (u 0))).set_ 1 (.bool (u 1))).set_ 2 (.bool (u 2))).set_ 3 (.bool (u 3)))
            have Q5 := Lib.hid (Blk.stay P5.out hg4s (fun e => hne (Option.some.inj e).symm))
            have DQ := Lib.hid (D.out.grown hg4s D.out.size (fun j hj => by have := Option.some.inj hj; omega))
            refine hKS.out _ _ (KF.out _ DQ.out) (fun hSq => ?_)
            clear hKS hSx d0 d1 d2 d3 f0 f1 f2 f3 P4 P5 D
            (try simp only [Act.put])
            generalize (((x3897.setCell ⟨g4, 0, none⟩ (.bool (u 0))).setCell ⟨g4, 1, none⟩ (.bool (u 1))).setCell ⟨g4, 2, none⟩ (.bool (u 2))).setCell ⟨g4, 3, none⟩ (.bool (u 3)) = wy at Q4 Q5 DQ hSq hg4s ⊢
            obtain ⟨d0, d1, d2, d3⟩ := four_cells Q5.out
            obtain ⟨f0, f1, f2, f3⟩ := four_frozen Q5.out
            refine wpAnyZ_last (i := 11) (by kernel_rfl) rfl (by kernel_rfl) ?_
            intro KL hKL
            go_simp
            refine hKL.out _ _ ?_
            have hg5s : wy.grownBy ((((wy.setCell ⟨g5, 0, none⟩ (.bool (v 0))).setCell ⟨g5, 1, none⟩ (.bool (v 1))).setCell ⟨g5, 2, none⟩ (.bool (v 2))).setCell ⟨g5, 3, none⟩ (.bool (v 3))) (some g5) := four_grow_ _ _ _ _ _ _
            have R5 : Hid (Blk ((((wy.setCell ⟨g5, 0, none⟩ (.bool (v 0))).setCell ⟨g5, 1, none⟩ (.bool (v 1))).setCell ⟨g5, 2, none⟩ (.bool (v 2))).setCell ⟨g5, 3, none⟩ (.bool (v 3))) g5 39 (vecB v)) := (((Q5.out.set_ 0 (.bool (v 0))).set_ 1 (.bool (v 1))).set_ 2 (.bool (v 2))).set_ 3 (.bool (v 3))
            have R4 : Hid (Blk ((((wy.setCell ⟨g5, 0, none⟩ (.bool (v 0))).setCell ⟨g5, 1, none⟩ (.bool (v 1))).setCell ⟨g5, 2, none⟩ (.bool (v 2))).setCell ⟨g5, 3, none⟩ (.bool (v 3))) g4 39 (vecB u)) := Blk.stay Q4.out hg5s (fun e => hne (Option.some.inj e))
            have DR := Lib.hid (DQ.out.grown hg5s DQ.out.size (fun j hj => by have := Option.some.inj hj; omega))
            clear hKL
            go_wp2_with fail
            go_meet
            exact ⟨g4, g5, rfl, rfl, R4, R5, DR⟩
      · refine ⟨_, rfl, fun K1 hK1 => ?_⟩
        go_simp
        have D' := Lib.hid (below_al D.out (Nat.le_refl _) (.cells #[.bool false, .bool false, .bool false, .bool false] 39))
        have PN := Lib.hid (Blk.new x3 39 #[.bool false, .bool false, .bool false, .bool false])
        have hg5 : w1.heap.size ≤ x3.heap.size := D.out.size
        refine hK1.out _ _ (KF.out _ D'.out) (fun hSx' => ?_)
        clear hK1
        (try simp only [Act.put])
        generalize x3.alloc (.cells #[.bool false, .bool false, .bool false, .bool false] 39) = x39 at D' PN hSx' ⊢
        clear D hSx
        generalize x3.heap.size = g5 at PN hg5 ⊢
        have D := D'
        clear D'
        have hSx := hSx'
        clear hSx'
        have P5 := PN
        clear PN
        refine wpAnyZ_fork (rs := [7, 8]) (by kernel_rfl) (by decide) ?_
        intro i hi
        simp only [List.mem_cons, List.not_mem_nil, or_false] at hi
        rcases hi with rfl | rfl
        · refine ⟨_, rfl, fun K1 hK1 => ?_⟩
          go_simp
          refine (l3Reach_back n _ _ _ _ _ _ _ _ _ _ _ ss _ n4 ((HY1.out.below D.out).more D.out.size) (HS1.out.on D.out) HYI.out HSI.out).mono ?_
          rintro e x397 ⟨rfl, hb⟩
          have D' := Lib.hid (below_on D.out hb.out)
          have P5' := Lib.hid (blk_b P5.out hb.out)
          rw [HU2.out]
          clear D hSx hb P5
          have D := D'
          clear D'
          have P5 := P5'
          clear P5'
          refine hK1.out _ _ (KF.out _ D.out) (fun hSx => ?_)
          clear hK1
          (try simp only [Act.put])
          refine wpAnyZ_fork (rs := [8]) (by kernel_rfl) (by decide) ?_
          intro i hi
          simp only [List.mem_cons, List.not_mem_nil, or_false] at hi
          subst hi
          · refine ⟨_, rfl, fun K1 hK1 => ?_⟩
            go_simp
            have D' := Lib.hid (below_al D.out (Nat.le_refl _) (.cells #[.bool false, .bool false, .bool false, .bool false] 39))
            have PN := Lib.hid (Blk.new x397 39 #[.bool false, .bool false, .bool false, .bool false])
            have P5' := Lib.hid (P5.out.alloc (.cells #[.bool false, .bool false, .bool false, .bool false] 39))
            have hne : x397.heap.size ≠ g5 := fun e => by have := Blk.lt P5.out; omega
            have hg4 : w1.heap.size ≤ x397.heap.size := D.out.size
            refine hK1.out _ _ (KF.out _ D'.out) (fun hSx' => ?_)
            clear hK1
            (try simp only [Act.put])
            generalize x397.alloc (.cells #[.bool false, .bool false, .bool false, .bool false] 39) = x3978 at D' PN hSx' P5' ⊢
            clear D hSx P5
            generalize x397.heap.size = g4 at PN hg4 hne ⊢
            have D := D'
            clear D'
            have hSx := hSx'
            clear hSx'
            have P4 := PN
            clear PN
            have P5 := P5'
            clear P5'
            obtain ⟨d0, d1, d2, d3⟩ := four_cells P4.out
            obtain ⟨f0, f1, f2, f3⟩ := four_frozen P4.out
            refine wpAnyZ_step (i := 10) (by kernel_rfl) rfl ?_
            intro KS hKS
            go_simp
            have hg4s : x3978.grownBy ((((x3978.setCell ⟨g4, 0, none⟩ (.bool (u 0))).setCell ⟨g4, 1, none⟩ (.bool (u 1))).setCell ⟨g4, 2, none⟩ (.bool (u 2))).setCell ⟨g4, 3, none⟩ (.bool (u 3))) (some g4) := four_grow_ _ _ _ _ _ _
            have Q4 := Lib.hid ((((P4.out.set_ 0 (.bool (u 0))).set_ 1 (.bool (u 1))).set_ 2 (.bool (u 2))).set_ 3 (.bool (u 3)))
            have Q5 := Lib.hid (Blk.stay P5.out hg4s (fun e => hne (Option.some.inj e).symm))
            have DQ := Lib.hid (D.out.grown hg4s D.out.size (fun j hj => by have := Option.some.inj hj; omega))
            refine hKS.out _ _ (KF.out _ DQ.out) (fun hSq => ?_)
            clear hKS hSx d0 d1 d2 d3 f0 f1 f2 f3 P4 P5 D
            (try simp only [Act.put])
            generalize (((x3978.setCell ⟨g4, 0, none⟩ (.bool (u 0))).setCell ⟨g4, 1, none⟩ (.bool (u 1))).setCell ⟨g4, 2, none⟩ (.bool (u 2))).setCell ⟨g4, 3, none⟩ (.bool (u 3)) = wy at Q4 Q5 DQ hSq hg4s ⊢
            obtain ⟨d0, d1, d2, d3⟩ := four_cells Q5.out
            obtain ⟨f0, f1, f2, f3⟩ := four_frozen Q5.out
            refine wpAnyZ_last (i := 11) (by kernel_rfl) rfl (by kernel_rfl) ?_
            intro KL hKL
            go_simp
            refine hKL.out _ _ ?_
            have hg5s : wy.grownBy ((((wy.setCell ⟨g5, 0, none⟩ (.bool (v 0))).setCell ⟨g5, 1, none⟩ (.bool (v 1))).setCell ⟨g5, 2, none⟩ (.bool (v 2))).setCell ⟨g5, 3, none⟩ (.bool (v 3))) (some g5) := four_grow_ _ _ _ _ _ _
            have R5 : Hid (Blk ((((wy.setCell ⟨g5, 0, none⟩ (.bool (v 0))).setCell ⟨g5, 1, none⟩ (.bool (v 1))).setCell ⟨g5, 2, none⟩ (.bool (v 2))).setCell ⟨g5, 3, none⟩ (.bool (v 3))) g5 39 (vecB v)) := (((Q5.out.set_ 0 (.bool (v 0))).set_ 1 (.bool (v 1))).set_ 2 (.bool (v 2))).set_ 3 (.bool (v 3))
            have R4 : Hid (Blk ((((wy.setCell ⟨g5, 0, none⟩ (.bool (v 0))).setCell ⟨g5, 1, none⟩ (.bool (v 1))).setCell ⟨g5, 2, none⟩ (.bool (v 2))).setCell ⟨g5, 3, none⟩ (.bool (v 3))) g4 39 (vecB u)) := Blk.stay Q4.out hg5s (fun e => hne (Option.some.inj e))
            have DR := Lib.hid (DQ.out.grown hg5s DQ.out.size (fun j hj => by have := Option.some.inj hj; omega))
            clear hKL
            go_wp2_with fail
            go_meet
            exact ⟨g4, g5, rfl, rfl, R4, R5, DR⟩
        · refine ⟨_, rfl, fun K1 hK1 => ?_⟩
          go_simp
          have D' := Lib.hid (below_al D.out (Nat.le_refl _) (.cells #[.bool false, .bool false, .bool false, .bool false] 39))
          have PN := Lib.hid (Blk.new x39 39 #[.bool false, .bool false, .bool false, .bool false])
          have P5' := Lib.hid (P5.out.alloc (.cells #[.bool false, .bool false, .bool false, .bool false] 39))
          have hne : x39.heap.size ≠ g5 := fun e => by have := Blk.lt P5.out; omega
          have hg4 : w1.heap.size ≤ x39.heap.size := D.out.size
          refine hK1.out _ _ (KF.out _ D'.out) (fun hSx' => ?_)
          clear hK1
          (try simp only [Act.put])
          generalize x39.alloc (.cells #[.bool false, .bool false, .bool false, .bool false] 39) = x398 at D' PN hSx' P5' ⊢
          clear D hSx P5
          generalize x39.heap.size = g4 at PN hg4 hne ⊢
          have D := D'
          clear D'
          have hSx := hSx'
          clear hSx'
          have P4 := PN
          clear PN
          have P5 := P5'
          clear P5'
          refine wpAnyZ_fork (rs := [7]) (by kernel_rfl) (by decide) ?_
          intro i hi
          simp only [List.mem_cons, List.not_mem_nil, or_false] at hi
          subst hi
          · refine ⟨_, rfl, fun K1 hK1 => ?_⟩
            go_simp
            refine (l3Reach_back n _ _ _ _ _ _ _ _ _ _ _ ss _ n4 ((HY1.out.below D.out).more D.out.size) (HS1.out.on D.out) HYI.out HSI.out).mono ?_
            rintro e x3987 ⟨rfl, hb⟩
            have D' := Lib.hid (below_on D.out hb.out)
            have P4' := Lib.hid (blk_b P4.out hb.out)
            have P5' := Lib.hid (blk_b P5.out hb.out)
            rw [HU2.out]
            clear D hSx hb P4 P5
            have D := D'
            clear D'
            have P4 := P4'
            clear P4'
            have P5 := P5'
            clear P5'
            refine hK1.out _ _ (KF.out _ D.out) (fun hSx => ?_)
            clear hK1
            (try simp only [Act.put])
            obtain ⟨d0, d1, d2, d3⟩ := four_cells P4.out
            obtain ⟨f0, f1, f2, f3⟩ := four_frozen P4.out
            refine wpAnyZ_step (i := 10) (by kernel_rfl) rfl ?_
            intro KS hKS
            go_simp
            have hg4s : x3987.grownBy ((((x3987.setCell ⟨g4, 0, none⟩ (.bool (u 0))).setCell ⟨g4, 1, none⟩ (.bool (u 1))).setCell ⟨g4, 2, none⟩ (.bool (u 2))).setCell ⟨g4, 3, none⟩ (.bool (u 3))) (some g4) := four_grow_ _ _ _ _ _ _
            have Q4 := Lib.hid ((((P4.out.set_ 0 (.bool (u 0))).set_ 1 (.bool (u 1))).set_ 2 (.bool (u 2))).set_ 3 (.bool (u 3)))
            have Q5 := Lib.hid (Blk.stay P5.out hg4s (fun e => hne (Option.some.inj e).symm))
            have DQ := Lib.hid (D.out.grown hg4s D.out.size (fun j hj => by have := Option.some.inj hj; omega))
            refine hKS.out _ _ (KF.out _ DQ.out) (fun hSq => ?_)
            clear hKS hSx d0 d1 d2 d3 f0 f1 f2 f3 P4 P5 D
            (try simp only [Act.put])
            generalize (((x3987.setCell ⟨g4, 0, none⟩ (.bool (u 0))).setCell ⟨g4, 1, none⟩ (.bool (u 1))).setCell ⟨g4, 2, none⟩ (.bool (u 2))).setCell ⟨g4, 3, none⟩ (.bool (u 3)) = wy at Q4 Q5 DQ hSq hg4s ⊢
            obtain ⟨d0, d1, d2, d3⟩ := four_cells Q5.out
            obtain ⟨f0, f1, f2, f3⟩ := four_frozen Q5.out
            refine wpAnyZ_last (i := 11) (by kernel_rfl) rfl (by kernel_rfl) ?_
            intro KL hKL
            go_simp
            refine hKL.out _ _ ?_
            have hg5s : wy.grownBy ((((wy.setCell ⟨g5, 0, none⟩ (.bool (v 0))).setCell ⟨g5, 1, none⟩ (.bool (v 1))).setCell ⟨g5, 2, none⟩ (.bool (v 2))).setCell ⟨g5, 3, none⟩ (.bool (v 3))) (some g5) := four_grow_ _ _ _ _ _ _
            have R5 : Hid (Blk ((((wy.setCell ⟨g5, 0, none⟩ (.bool (v 0))).setCell ⟨g5, 1, none⟩ (.bool (v 1))).setCell ⟨g5, 2, none⟩ (.bool (v 2))).setCell ⟨g5, 3, none⟩ (.bool (v 3))) g5 39 (vecB v)) := (((Q5.out.set_ 0 (.bool (v 0))).set_ 1 (.bool (v 1))).set_ 2 (.bool (v 2))).set_ 3 (.bool (v 3))
            have R4 : Hid (Blk ((((wy.setCell ⟨g5, 0, none⟩ (.bool (v 0))).setCell ⟨g5, 1, none⟩ (.bool (v 1))).setCell ⟨g5, 2, none⟩ (.bool (v 2))).setCell ⟨g5, 3, none⟩ (.bool (v 3))) g4 39 (vecB u)) := Blk.stay Q4.out hg5s (fun e => hne (Option.some.inj e))
            have DR := Lib.hid (DQ.out.grown hg5s DQ.out.size (fun j hj => by have := Option.some.inj hj; omega))
            clear hKL
            go_wp2_with fail
            go_meet
            exact ⟨g4, g5, rfl, rfl, R4, R5, DR⟩
    · refine ⟨_, rfl, fun K1 hK1 => ?_⟩
      go_simp
      have D' := Lib.hid (below_al D.out (Nat.le_refl _) (.cells #[.bool false, .bool false, .bool false, .bool false] 39))
      have PN := Lib.hid (Blk.new x 39 #[.bool false, .bool false, .bool false, .bool false])
      have hg4 : w1.heap.size ≤ x.heap.size := D.out.size
      refine hK1.out _ _ (KF.out _ D'.out) (fun hSx' => ?_)
      clear hK1
      (try simp only [Act.put])
      generalize x.alloc (.cells #[.bool false, .bool false, .bool false, .bool false] 39) = x8 at D' PN hSx' ⊢
      clear D hSx
      generalize x.heap.size = g4 at PN hg4 ⊢
      have D := D'
      clear D'
      have hSx := hSx'
      clear hSx'
      have P4 := PN
      clear PN
      refine wpAnyZ_fork (rs := [3, 9]) (by kernel_rfl) (by decide) ?_
      intro i hi
      simp only [List.mem_cons, List.not_mem_nil, or_false] at hi
      rcases hi with rfl | rfl
      · refine ⟨_, rfl, fun K1 hK1 => ?_⟩
        go_simp
        refine (l3Reach_there n _ _ _ _ _ _ _ _ _ _ _ ss _ n4 ((HX1.out.below D.out).more D.out.size) (HS1.out.on D.out) HXI.out HSI.out).mono ?_
        rintro e x83 ⟨rfl, hb⟩
        have D' := Lib.hid (below_on D.out hb.out)
        have P4' := Lib.hid (blk_b P4.out hb.out)
        rw [HU1.out]
        clear D hSx hb P4
        have D := D'
        clear D'
        have P4 := P4'
        clear P4'
        refine hK1.out _ _ (KF.out _ D.out) (fun hSx => ?_)
        clear hK1
        (try simp only [Act.put])
        refine wpAnyZ_fork (rs := [7, 9]) (by kernel_rfl) (by decide) ?_
        intro i hi
        simp only [List.mem_cons, List.not_mem_nil, or_false] at hi
        rcases hi with rfl | rfl
        · refine ⟨_, rfl, fun K1 hK1 => ?_⟩
          go_simp
          refine (l3Reach_back n _ _ _ _ _ _ _ _ _ _ _ ss _ n4 ((HY1.out.below D.out).more D.out.size) (HS1.out.on D.out) HYI.out HSI.out).mono ?_
          rintro e x837 ⟨rfl, hb⟩
          have D' := Lib.hid (below_on D.out hb.out)
          have P4' := Lib.hid (blk_b P4.out hb.out)
          rw [HU2.out]
          clear D hSx hb P4
          have D := D'
          clear D'
          have P4 := P4'
          clear P4'
          refine hK1.out _ _ (KF.out _ D.out) (fun hSx => ?_)
          clear hK1
          (try simp only [Act.put])
          refine wpAnyZ_fork (rs := [9]) (by kernel_rfl) (by decide) ?_
          intro i hi
          simp only [List.mem_cons, List.not_mem_nil, or_false] at hi
          subst hi
          · refine ⟨_, rfl, fun K1 hK1 => ?_⟩
            go_simp
            have D' := Lib.hid (below_al D.out (Nat.le_refl _) (.cells #[.bool false, .bool false, .bool false, .bool false] 39))
            have PN := Lib.hid (Blk.new x837 39 #[.bool false, .bool false, .bool false, .bool false])
            have P4' := Lib.hid (P4.out.alloc (.cells #[.bool false, .bool false, .bool false, .bool false] 39))
            have hne : g4 ≠ x837.heap.size := fun e => by have := Blk.lt P4.out; omega
            have hg5 : w1.heap.size ≤ x837.heap.size := D.out.size
            refine hK1.out _ _ (KF.out _ D'.out) (fun hSx' => ?_)
            clear hK1
            (try simp only [Act.put])
            generalize x837.alloc (.cells #[.bool false, .bool false, .bool false, .bool false] 39) = x8379 at D' PN hSx' P4' ⊢
            clear D hSx P4
            generalize x837.heap.size = g5 at PN hg5 hne ⊢
            have D := D'
            clear D'
            have hSx := hSx'
            clear hSx'
            have P5 := PN
            clear PN
            have P4 := P4'
            clear P4'
            obtain ⟨d0, d1, d2, d3⟩ := four_cells P4.out
            obtain ⟨f0, f1, f2, f3⟩ := four_frozen P4.out
            refine wpAnyZ_step (i := 10) (by kernel_rfl) rfl ?_
            intro KS hKS
            go_simp
            have hg4s : x8379.grownBy ((((x8379.setCell ⟨g4, 0, none⟩ (.bool (u 0))).setCell ⟨g4, 1, none⟩ (.bool (u 1))).setCell ⟨g4, 2, none⟩ (.bool (u 2))).setCell ⟨g4, 3, none⟩ (.bool (u 3))) (some g4) := four_grow_ _ _ _ _ _ _
            have Q4 := Lib.hid ((((P4.out.set_ 0 (.bool (u 0))).set_ 1 (.bool (u 1))).set_ 2 (.bool (u 2))).set_ 3 (.bool (u 3)))
            have Q5 := Lib.hid (Blk.stay P5.out hg4s (fun e => hne (Option.some.inj e).symm))
            have DQ := Lib.hid (D.out.grown hg4s D.out.size (fun j hj => by have := Option.some.inj hj; omega))
            refine hKS.out _ _ (KF.out _ DQ.out) (fun hSq => ?_)
            clear hKS hSx d0 d1 d2 d3 f0 f1 f2 f3 P4 P5 D
            (try simp only [Act.put])
            generalize (((x8379.setCell ⟨g4, 0, none⟩ (.bool (u 0))).setCell ⟨g4, 1, none⟩ (.bool (u 1))).setCell ⟨g4, 2, none⟩ (.bool (u 2))).setCell ⟨g4, 3, none⟩ (.bool (u 3)) = wy at Q4 Q5 DQ hSq hg4s ⊢
            obtain ⟨d0, d1, d2, d3⟩ := four_cells Q5.out
            obtain ⟨f0, f1, f2, f3⟩ := four_frozen Q5.out
            refine wpAnyZ_last (i := 11) (by kernel_rfl) rfl (by kernel_rfl) ?_
            intro KL hKL
            go_simp
            refine hKL.out _ _ ?_
            have hg5s : wy.grownBy ((((wy.setCell ⟨g5, 0, none⟩ (.bool (v 0))).setCell ⟨g5, 1, none⟩ (.bool (v 1))).setCell ⟨g5, 2, none⟩ (.bool (v 2))).setCell ⟨g5, 3, none⟩ (.bool (v 3))) (some g5) := four_grow_ _ _ _ _ _ _
            have R5 : Hid (Blk ((((wy.setCell ⟨g5, 0, none⟩ (.bool (v 0))).setCell ⟨g5, 1, none⟩ (.bool (v 1))).setCell ⟨g5, 2, none⟩ (.bool (v 2))).setCell ⟨g5, 3, none⟩ (.bool (v 3))) g5 39 (vecB v)) := (((Q5.out.set_ 0 (.bool (v 0))).set_ 1 (.bool (v 1))).set_ 2 (.bool (v 2))).set_ 3 (.bool (v 3))
            have R4 : Hid (Blk ((((wy.setCell ⟨g5, 0, none⟩ (.bool (v 0))).setCell ⟨g5, 1, none⟩ (.bool (v 1))).setCell ⟨g5, 2, none⟩ (.bool (v 2))).setCell ⟨g5, 3, none⟩ (.bool (v 3))) g4 39 (vecB u)) := Blk.stay Q4.out hg5s (fun e => hne (Option.some.inj e))
            have DR := Lib.hid (DQ.out.grown hg5s DQ.out.size (fun j hj => by have := Option.some.inj hj; omega))
            clear hKL
            go_wp2_with fail
            go_meet
            exact ⟨g4, g5, rfl, rfl, R4, R5, DR⟩
        · refine ⟨_, rfl, fun K1 hK1 => ?_⟩
          go_simp
          have D' := Lib.hid (below_al D.out (Nat.le_refl _) (.cells #[.bool false, .bool false, .bool false, .bool false] 39))
          have PN := Lib.hid (Blk.new x83 39 #[.bool false, .bool false, .bool false, .bool false])
          have P4' := Lib.hid (P4.out.alloc (.cells #[.bool false, .bool false, .bool false, .bool false] 39))
          have hne : g4 ≠ x83.heap.size := fun e => by have := Blk.lt P4.out; omega
          have hg5 : w1.heap.size ≤ x83.heap.size := D.out.size
          refine hK1.out _ _ (KF.out _ D'.out) (fun hSx' => ?_)
          clear hK1
          (try simp only [Act.put])
          generalize x83.alloc (.cells #[.bool false, .bool false, .bool false, .bool false] 39) = x839 at D' PN hSx' P4' ⊢
          clear D hSx P4
          generalize x83.heap.size = g5 at PN hg5 hne ⊢
          have D := D'
          clear D'
          have hSx := hSx'
          clear hSx'
          have P5 := PN
          clear PN
          have P4 := P4'
          clear P4'
          refine wpAnyZ_fork (rs := [7]) (by kernel_rfl) (by decide) ?_
          intro i hi
          simp only [List.mem_cons, List.not_mem_nil, or_false] at hi
          subst hi
          · refine ⟨_, rfl, fun K1 hK1 => ?_⟩
            go_simp
            refine (l3Reach_back n _ _ _ _ _ _ _ _ _ _ _ ss _ n4 ((HY1.out.below D.out).more D.out.size) (HS1.out.on D.out) HYI.out HSI.out).mono ?_
            rintro e x8397 ⟨rfl, hb⟩
            have D' := Lib.hid (below_on D.out hb.out)
            have P4' := Lib.hid (blk_b P4.out hb.out)
            have P5' := Lib.hid (blk_b P5.out hb.out)
            rw [HU2.out]
            clear D hSx hb P4 P5
            have D := D'
            clear D'
            have P4 := P4'
            clear P4'
            have P5 := P5'
            clear P5'
            refine hK1.out _ _ (KF.out _ D.out) (fun hSx => ?_)
            clear hK1
            (try simp only [Act.put])
            obtain ⟨d0, d1, d2, d3⟩ := four_cells P4.out
            obtain ⟨f0, f1, f2, f3⟩ := four_frozen P4.out
            refine wpAnyZ_step (i := 10) (by kernel_rfl) rfl ?_
            intro KS hKS
            go_simp
            have hg4s : x8397.grownBy ((((x8397.setCell ⟨g4, 0, none⟩ (.bool (u 0))).setCell ⟨g4, 1, none⟩ (.bool (u 1))).setCell ⟨g4, 2, none⟩ (.bool (u 2))).setCell ⟨g4, 3, none⟩ (.bool (u 3))) (some g4) := four_grow_ _ _ _ _ _ _
            have Q4 := Lib.hid ((((P4.out.set_ 0 (.bool (u 0))).set_ 1 (.bool (u 1))).set_ 2 (.bool (u 2))).set_ 3 (.bool (u 3)))
            have Q5 := Lib.hid (Blk.stay P5.out hg4s (fun e => hne (Option.some.inj e).symm))
            have DQ := Lib.hid (D.out.grown hg4s D.out.size (fun j hj => by have := Option.some.inj hj; omega))
            refine hKS.out _ _ (KF.out _ DQ.out) (fun hSq => ?_)
            clear hKS hSx d0 d1 d2 d3 f0 f1 f2 f3 P4 P5 D
            (try simp only [Act.put])
            generalize (((x8397.setCell ⟨g4, 0, none⟩ (.bool (u 0))).setCell ⟨g4, 1, none⟩ (.bool (u 1))).setCell ⟨g4, 2, none⟩ (.bool (u 2))).setCell ⟨g4, 3, none⟩ (.bool (u 3)) = wy at Q4 Q5 DQ hSq hg4s ⊢
            obtain ⟨d0, d1, d2, d3⟩ := four_cells Q5.out
            obtain ⟨f0, f1, f2, f3⟩ := four_frozen Q5.out
            refine wpAnyZ_last (i := 11) (by kernel_rfl) rfl (by kernel_rfl) ?_
            intro KL hKL
            go_simp
            refine hKL.out _ _ ?_
            have hg5s : wy.grownBy ((((wy.setCell ⟨g5, 0, none⟩ (.bool (v 0))).setCell ⟨g5, 1, none⟩ (.bool (v 1))).setCell ⟨g5, 2, none⟩ (.bool (v 2))).setCell ⟨g5, 3, none⟩ (.bool (v 3))) (some g5) := four_grow_ _ _ _ _ _ _
            have R5 : Hid (Blk ((((wy.setCell ⟨g5, 0, none⟩ (.bool (v 0))).setCell ⟨g5, 1, none⟩ (.bool (v 1))).setCell ⟨g5, 2, none⟩ (.bool (v 2))).setCell ⟨g5, 3, none⟩ (.bool (v 3))) g5 39 (vecB v)) := (((Q5.out.set_ 0 (.bool (v 0))).set_ 1 (.bool (v 1))).set_ 2 (.bool (v 2))).set_ 3 (.bool (v 3))
            have R4 : Hid (Blk ((((wy.setCell ⟨g5, 0, none⟩ (.bool (v 0))).setCell ⟨g5, 1, none⟩ (.bool (v 1))).setCell ⟨g5, 2, none⟩ (.bool (v 2))).setCell ⟨g5, 3, none⟩ (.bool (v 3))) g4 39 (vecB u)) := Blk.stay Q4.out hg5s (fun e => hne (Option.some.inj e))
            have DR := Lib.hid (DQ.out.grown hg5s DQ.out.size (fun j hj => by have := Option.some.inj hj; omega))
            clear hKL
            go_wp2_with fail
            go_meet
            exact ⟨g4, g5, rfl, rfl, R4, R5, DR⟩
      · refine ⟨_, rfl, fun K1 hK1 => ?_⟩
        go_simp
        have D' := Lib.hid (below_al D.out (Nat.le_refl _) (.cells #[.bool false, .bool false, .bool false, .bool false] 39))
        have PN := Lib.hid (Blk.new x8 39 #[.bool false, .bool false, .bool false, .bool false])
        have P4' := Lib.hid (P4.out.alloc (.cells #[.bool false, .bool false, .bool false, .bool false] 39))
        have hne : g4 ≠ x8.heap.size := fun e => by have := Blk.lt P4.out; omega
        have hg5 : w1.heap.size ≤ x8.heap.size := D.out.size
        refine hK1.out _ _ (KF.out _ D'.out) (fun hSx' => ?_)
        clear hK1
        (try simp only [Act.put])
        generalize x8.alloc (.cells #[.bool false, .bool false, .bool false, .bool false] 39) = x89 at D' PN hSx' P4' ⊢
        clear D hSx P4
        generalize x8.heap.size = g5 at PN hg5 hne ⊢
        have D := D'
        clear D'
        have hSx := hSx'
        clear hSx'
        have P5 := PN
        clear PN
        have P4 := P4'
        clear P4'
        refine wpAnyZ_fork (rs := [3]) (by kernel_rfl) (by decide) ?_
        intro i hi
        simp only [List.mem_cons, List.not_mem_nil, or_false] at hi
        subst hi
        · refine ⟨_, rfl, fun K1 hK1 => ?_⟩
          go_simp
          refine (l3Reach_there n _ _ _ _ _ _ _ _ _ _ _ ss _ n4 ((HX1.out.below D.out).more D.out.size) (HS1.out.on D.out) HXI.out HSI.out).mono ?_
          rintro e x893 ⟨rfl, hb⟩
          have D' := Lib.hid (below_on D.out hb.out)
          have P4' := Lib.hid (blk_b P4.out hb.out)
          have P5' := Lib.hid (blk_b P5.out hb.out)
          rw [HU1.out]
          clear D hSx hb P4 P5
          have D := D'
          clear D'
          have P4 := P4'
          clear P4'
          have P5 := P5'
          clear P5'
          refine hK1.out _ _ (KF.out _ D.out) (fun hSx => ?_)
          clear hK1
          (try simp only [Act.put])
          refine wpAnyZ_fork (rs := [7]) (by kernel_rfl) (by decide) ?_
          intro i hi
          simp only [List.mem_cons, List.not_mem_nil, or_false] at hi
          subst hi
          · refine ⟨_, rfl, fun K1 hK1 => ?_⟩
            go_simp
            refine (l3Reach_back n _ _ _ _ _ _ _ _ _ _ _ ss _ n4 ((HY1.out.below D.out).more D.out.size) (HS1.out.on D.out) HYI.out HSI.out).mono ?_
            rintro e x8937 ⟨rfl, hb⟩
            have D' := Lib.hid (below_on D.out hb.out)
            have P4' := Lib.hid (blk_b P4.out hb.out)
            have P5' := Lib.hid (blk_b P5.out hb.out)
            rw [HU2.out]
            clear D hSx hb P4 P5
            have D := D'
            clear D'
            have P4 := P4'
            clear P4'
            have P5 := P5'
            clear P5'
            refine hK1.out _ _ (KF.out _ D.out) (fun hSx => ?_)
            clear hK1
            (try simp only [Act.put])
            obtain ⟨d0, d1, d2, d3⟩ := four_cells P4.out
            obtain ⟨f0, f1, f2, f3⟩ := four_frozen P4.out
            refine wpAnyZ_step (i := 10) (by kernel_rfl) rfl ?_
            intro KS hKS
            go_simp
            have hg4s : x8937.grownBy ((((x8937.setCell ⟨g4, 0, none⟩ (.bool (u 0))).setCell ⟨g4, 1, none⟩ (.bool (u 1))).setCell ⟨g4, 2, none⟩ (.bool (u 2))).setCell ⟨g4, 3, none⟩ (.bool (u 3))) (some g4) := four_grow_ _ _ _ _ _ _
            have Q4 := Lib.hid ((((P4.out.set_ 0 (.bool (u 0))).set_ 1 (.bool (u 1))).set_ 2 (.bool (u 2))).set_ 3 (.bool (u 3)))
            have Q5 := Lib.hid (Blk.stay P5.out hg4s (fun e => hne (Option.some.inj e).symm))
            have DQ := Lib.hid (D.out.grown hg4s D.out.size (fun j hj => by have := Option.some.inj hj; omega))
            refine hKS.out _ _ (KF.out _ DQ.out) (fun hSq => ?_)
            clear hKS hSx d0 d1 d2 d3 f0 f1 f2 f3 P4 P5 D
            (try simp only [Act.put])
            generalize (((x8937.setCell ⟨g4, 0, none⟩ (.bool (u 0))).setCell ⟨g4, 1, none⟩ (.bool (u 1))).setCell ⟨g4, 2, none⟩ (.bool (u 2))).setCell ⟨g4, 3, none⟩ (.bool (u 3)) = wy at Q4 Q5 DQ hSq hg4s ⊢
            obtain ⟨d0, d1, d2, d3⟩ := four_cells Q5.out
            obtain ⟨f0, f1, f2, f3⟩ := four_frozen Q5.out
            refine wpAnyZ_last (i := 11) (by kernel_rfl) rfl (by kernel_rfl) ?_
            intro KL hKL
            go_simp
            refine hKL.out _ _ ?_
            have hg5s : wy.grownBy ((((wy.setCell ⟨g5, 0, none⟩ (.bool (v 0))).setCell ⟨g5, 1, none⟩ (.bool (v 1))).setCell ⟨g5, 2, none⟩ (.bool (v 2))).setCell ⟨g5, 3, none⟩ (.bool (v 3))) (some g5) := four_grow_ _ _ _ _ _ _
            have R5 : Hid (Blk ((((wy.setCell ⟨g5, 0, none⟩ (.bool (v 0))).setCell ⟨g5, 1, none⟩ (.bool (v 1))).setCell ⟨g5, 2, none⟩ (.bool (v 2))).setCell ⟨g5, 3, none⟩ (.bool (v 3))) g5 39 (vecB v)) := (((Q5.out.set_ 0 (.bool (v 0))).set_ 1 (.bool (v 1))).set_ 2 (.bool (v 2))).set_ 3 (.bool (v 3))
            have R4 : Hid (Blk ((((wy.setCell ⟨g5, 0, none⟩ (.bool (v 0))).setCell ⟨g5, 1, none⟩ (.bool (v 1))).setCell ⟨g5, 2, none⟩ (.bool (v 2))).setCell ⟨g5, 3, none⟩ (.bool (v 3))) g4 39 (vecB u)) := Blk.stay Q4.out hg5s (fun e => hne (Option.some.inj e))
            have DR := Lib.hid (DQ.out.grown hg5s DQ.out.size (fun j hj => by have := Option.some.inj hj; omega))
            clear hKL
            go_wp2_with fail
            go_meet
            exact ⟨g4, g5, rfl, rfl, R4, R5, DR⟩
    · refine ⟨_, rfl, fun K1 hK1 => ?_⟩
      go_simp
      have D' := Lib.hid (below_al D.out (Nat.le_refl _) (.cells #[.bool false, .bool false, .bool false, .bool false] 39))
      have PN := Lib.hid (Blk.new x 39 #[.bool false, .bool false, .bool false, .bool false])
      have hg5 : w1.heap.size ≤ x.heap.size := D.out.size
      refine hK1.out _ _ (KF.out _ D'.out) (fun hSx' => ?_)
      clear hK1
      (try simp only [Act.put])
      generalize x.alloc (.cells #[.bool false, .bool false, .bool false, .bool false] 39) = x9 at D' PN hSx' ⊢
      clear D hSx
      generalize x.heap.size = g5 at PN hg5 ⊢
      have D := D'
      clear D'
      have hSx := hSx'
      clear hSx'
      have P5 := PN
      clear PN
      refine wpAnyZ_fork (rs := [3, 8]) (by kernel_rfl) (by decide) ?_
      intro i hi
      simp only [List.mem_cons, List.not_mem_nil, or_false] at hi
      rcases hi with rfl | rfl
      · refine ⟨_, rfl, fun K1 hK1 => ?_⟩
        go_simp
        refine (l3Reach_there n _ _ _ _ _ _ _ _ _ _ _ ss _ n4 ((HX1.out.below D.out).more D.out.size) (HS1.out.on D.out) HXI.out HSI.out).mono ?_
        rintro e x93 ⟨rfl, hb⟩
        have D' := Lib.hid (below_on D.out hb.out)
        have P5' := Lib.hid (blk_b P5.out hb.out)
        rw [HU1.out]
        clear D hSx hb P5
        have D := D'
        clear D'
        have P5 := P5'
        clear P5'
        refine hK1.out _ _ (KF.out _ D.out) (fun hSx => ?_)
        clear hK1
        (try simp only [Act.put])
        refine wpAnyZ_fork (rs := [7, 8]) (by kernel_rfl) (by decide) ?_
        intro i hi
        simp only [List.mem_cons, List.not_mem_nil, or_false] at hi
        rcases hi with rfl | rfl
        · refine ⟨_, rfl, fun K1 hK1 => ?_⟩
          go_simp
          refine (l3Reach_back n _ _ _ _ _ _ _ _ _ _ _ ss _ n4 ((HY1.out.below D.out).more D.out.size) (HS1.out.on D.out) HYI.out HSI.out).mono ?_
          rintro e x937 ⟨rfl, hb⟩
          have D' := Lib.hid (below_on D.out hb.out)
          have P5' := Lib.hid (blk_b P5.out hb.out)
          rw [HU2.out]
          clear D hSx hb P5
          have D := D'
          clear D'
          have P5 := P5'
          clear P5'
          refine hK1.out _ _ (KF.out _ D.out) (fun hSx => ?_)
          clear hK1
          (try simp only [Act.put])
          refine wpAnyZ_fork (rs := [8]) (by kernel_rfl) (by decide) ?_
          intro i hi
          simp only [List.mem_cons, List.not_mem_nil, or_false] at hi
          subst hi
          · refine ⟨_, rfl, fun K1 hK1 => ?_⟩
            go_simp
            have D' := Lib.hid (below_al D.out (Nat.le_refl _) (.cells #[.bool false, .bool false, .bool false, .bool false] 39))
            have PN := Lib.hid (Blk.new x937 39 #[.bool false, .bool false, .bool false, .bool false])
            have P5' := Lib.hid (P5.out.alloc (.cells #[.bool false, .bool false, .bool false, .bool false] 39))
            have hne : x937.heap.size ≠ g5 := fun e => by have := Blk.lt P5.out; omega
            have hg4 : w1.heap.size ≤ x937.heap.size := D.out.size
            refine hK1.out _ _ (KF.out _ D'.out) (fun hSx' => ?_)
            clear hK1
            (try simp only [Act.put])
            generalize x937.alloc (.cells #[.bool false, .bool false, .bool false, .bool false] 39) = x9378 at D' PN hSx' P5' ⊢
            clear D hSx P5
            generalize x937.heap.size = g4 at PN hg4 hne ⊢
            have D := D'
            clear D'
            have hSx := hSx'
            clear hSx'
            have P4 := PN
            clear PN
            have P5 := P5'
            clear P5'
            obtain ⟨d0, d1, d2, d3⟩ := four_cells P4.out
            obtain ⟨f0, f1, f2, f3⟩ := four_frozen P4.out
            refine wpAnyZ_step (i := 10) (by kernel_rfl) rfl ?_
            intro KS hKS
            go_simp
            have hg4s : x9378.grownBy ((((x9378.setCell ⟨g4, 0, none⟩ (.bool (u 0))).setCell ⟨g4, 1, none⟩ (.bool (u 1))).setCell ⟨g4, 2, none⟩ (.bool (u 2))).setCell ⟨g4, 3, none⟩ (.bool (u 3))) (some g4) := four_grow_ _ _ _ _ _ _
            have Q4 := Lib.hid ((((P4.out.set_ 0 (.bool (u 0))).set_ 1 (.bool (u 1))).set_ 2 (.bool (u 2))).set_ 3 (.bool (u 3)))
            have Q5 := Lib.hid (Blk.stay P5.out hg4s (fun e => hne (Option.some.inj e).symm))
            have DQ := Lib.hid (D.out.grown hg4s D.out.size (fun j hj => by have := Option.some.inj hj; omega))
            refine hKS.out _ _ (KF.out _ DQ.out) (fun hSq => ?_)
            clear hKS hSx d0 d1 d2 d3 f0 f1 f2 f3 P4 P5 D
            (try simp only [Act.put])
            generalize (((x9378.setCell ⟨g4, 0, none⟩ (.bool (u 0))).setCell ⟨g4, 1, none⟩ (.bool (u 1))).setCell ⟨g4, 2, none⟩ (.bool (u 2))).setCell ⟨g4, 3, none⟩ (.bool (u 3)) = wy at Q4 Q5 DQ hSq hg4s ⊢
            obtain ⟨d0, d1, d2, d3⟩ := four_cells Q5.out
            obtain ⟨f0, f1, f2, f3⟩ := four_frozen Q5.out
            refine wpAnyZ_last (i := 11) (by kernel_rfl) rfl (by kernel_rfl) ?_
            intro KL hKL
            go_simp
            refine hKL.out _ _ ?_
            have hg5s : wy.grownBy ((((wy.setCell ⟨g5, 0, none⟩ (.bool (v 0))).setCell ⟨g5, 1, none⟩ (.bool (v 1))).setCell ⟨g5, 2, none⟩ (.bool (v 2))).setCell ⟨g5, 3, none⟩ (.bool (v 3))) (some g5) := four_grow_ _ _ _ _ _ _
            have R5 : Hid (Blk ((((wy.setCell ⟨g5, 0, none⟩ (.bool (v 0))).setCell ⟨g5, 1, none⟩ (.bool (v 1))).setCell ⟨g5, 2, none⟩ (.bool (v 2))).setCell ⟨g5, 3, none⟩ (.bool (v 3))) g5 39 (vecB v)) := (((Q5.out.set_ 0 (.bool (v 0))).set_ 1 (.bool (v 1))).set_ 2 (.bool (v 2))).set_ 3 (.bool (v 3))
            have R4 : Hid (Blk ((((wy.setCell ⟨g5, 0, none⟩ (.bool (v 0))).setCell ⟨g5, 1, none⟩ (.bool (v 1))).setCell ⟨g5, 2, none⟩ (.bool (v 2))).setCell ⟨g5, 3, none⟩ (.bool (v 3))) g4 39 (vecB u)) := Blk.stay Q4.out hg5s (fun e => hne (Option.some.inj e))
            have DR := Lib.hid (DQ.out.grown hg5s DQ.out.size (fun j hj => by have := Option.some.inj hj; omega))
            clear hKL
            go_wp2_with fail
            go_meet
            exact ⟨g4, g5, rfl, rfl, R4, R5, DR⟩
        · refine ⟨_, rfl, fun K1 hK1 => ?_⟩
          go_simp
          have D' := Lib.hid (below_al D.out (Nat.le_refl _) (.cells #[.bool false, .bool false, .bool false, .bool false] 39))
          have PN := Lib.hid (Blk.new x93 39 #[.bool false, .bool false, .bool false, .bool false])
          have P5' := Lib.hid (P5.out.alloc (.cells #[.bool false, .bool false, .bool false, .bool false] 39))
          have hne : x93.heap.size ≠ g5 := fun e => by have := Blk.lt P5.out; omega
          have hg4 : w1.heap.size ≤ x93.heap.size := D.out.size
          refine hK1.out _ _ (KF.out _ D'.out) (fun hSx' => ?_)
          clear hK1
          (try simp only [Act.put])
          generalize x93.alloc (.cells #[.bool false, .bool false, .bool false, .bool false] 39) = x938 at D' PN hSx' P5' ⊢
          clear D hSx P5
          generalize x93.heap.size = g4 at PN hg4 hne ⊢
          have D := D'
          clear D'
          have hSx := hSx'
          clear hSx'
          have P4 := PN
          clear PN
          have P5 := P5'
          clear P5'
          refine wpAnyZ_fork (rs := [7]) (by kernel_rfl) (by decide) ?_
          intro i hi
          simp only [List.mem_cons, List.not_mem_nil, or_false] at hi
          subst hi
          · refine ⟨_, rfl, fun K1 hK1 => ?_⟩
            go_simp
            refine (l3Reach_back n _ _ _ _ _ _ _ _ _ _ _ ss _ n4 ((HY1.out.below D.out).more D.out.size) (HS1.out.on D.out) HYI.out HSI.out).mono ?_
            rintro e x9387 ⟨rfl, hb⟩
            have D' := Lib.hid (below_on D.out hb.out)
            have P4' := Lib.hid (blk_b P4.out hb.out)
            have P5' := Lib.hid (blk_b P5.out hb.out)
            rw [HU2.out]
            clear D hSx hb P4 P5
            have D := D'
            clear D'
            have P4 := P4'
            clear P4'
            have P5 := P5'
            clear P5'
            refine hK1.out _ _ (KF.out _ D.out) (fun hSx => ?_)
            clear hK1
            (try simp only [Act.put])
            obtain ⟨d0, d1, d2, d3⟩ := four_cells P4.out
            obtain ⟨f0, f1, f2, f3⟩ := four_frozen P4.out
            refine wpAnyZ_step (i := 10) (by kernel_rfl) rfl ?_
            intro KS hKS
            go_simp
            have hg4s : x9387.grownBy ((((x9387.setCell ⟨g4, 0, none⟩ (.bool (u 0))).setCell ⟨g4, 1, none⟩ (.bool (u 1))).setCell ⟨g4, 2, none⟩ (.bool (u 2))).setCell ⟨g4, 3, none⟩ (.bool (u 3))) (some g4) := four_grow_ _ _ _ _ _ _
            have Q4 := Lib.hid ((((P4.out.set_ 0 (.bool (u 0))).set_ 1 (.bool (u 1))).set_ 2 (.bool (u 2))).set_ 3 (.bool (u 3)))
            have Q5 := Lib.hid (Blk.stay P5.out hg4s (fun e => hne (Option.some.inj e).symm))
            have DQ := Lib.hid (D.out.grown hg4s D.out.size (fun j hj => by have := Option.some.inj hj; omega))
            refine hKS.out _ _ (KF.out _ DQ.out) (fun hSq => ?_)
            clear hKS hSx d0 d1 d2 d3 f0 f1 f2 f3 P4 P5 D
            (try simp only [Act.put])
            generalize (((x9387.setCell ⟨g4, 0, none⟩ (.bool (u 0))).setCell ⟨g4, 1, none⟩ (.bool (u 1))).setCell ⟨g4, 2, none⟩ (.bool (u 2))).setCell ⟨g4, 3, none⟩ (.bool (u 3)) = wy at Q4 Q5 DQ hSq hg4s ⊢
            obtain ⟨d0, d1, d2, d3⟩ := four_cells Q5.out
            obtain ⟨f0, f1, f2, f3⟩ := four_frozen Q5.out
            refine wpAnyZ_last (i := 11) (by kernel_rfl) rfl (by kernel_rfl) ?_
            intro KL hKL
            go_simp
            refine hKL.out _ _ ?_
            have hg5s : wy.grownBy ((((wy.setCell ⟨g5, 0, none⟩ (.bool (v 0))).setCell ⟨g5, 1, none⟩ (.bool (v 1))).setCell ⟨g5, 2, none⟩ (.bool (v 2))).setCell ⟨g5, 3, none⟩ (.bool (v 3))) (some g5) := four_grow_ _ _ _ _ _ _
            have R5 : Hid (Blk ((((wy.setCell ⟨g5, 0, none⟩ (.bool (v 0))).setCell ⟨g5, 1, none⟩ (.bool (v 1))).setCell ⟨g5, 2, none⟩ (.bool (v 2))).setCell ⟨g5, 3, none⟩ (.bool (v 3))) g5 39 (vecB v)) := (((Q5.out.set_ 0 (.bool (v 0))).set_ 1 (.bool (v 1))).set_ 2 (.bool (v 2))).set_ 3 (.bool (v 3))
            have R4 : Hid (Blk ((((wy.setCell ⟨g5, 0, none⟩ (.bool (v 0))).setCell ⟨g5, 1, none⟩ (.bool (v 1))).setCell ⟨g5, 2, none⟩ (.bool (v 2))).setCell ⟨g5, 3, none⟩ (.bool (v 3))) g4 39 (vecB u)) := Blk.stay Q4.out hg5s (fun e => hne (Option.some.inj e))
            have DR := Lib.hid (DQ.out.grown hg5s DQ.out.size (fun j hj => by have := Option.some.inj hj; omega))
            clear hKL
            go_wp2_with fail
            go_meet
            exact ⟨g4, g5, rfl, rfl, R4, R5, DR⟩
      · refine ⟨_, rfl, fun K1 hK1 => ?_⟩
        go_simp
        have D' := Lib.hid (below_al D.out (Nat.le_refl _) (.cells #[.bool false, .bool false, .bool false, .bool false] 39))
        have PN := Lib.hid (Blk.new x9 39 #[.bool false, .bool false, .bool false, .bool false])
        have P5' := Lib.hid (P5.out.alloc (.cells #[.bool false, .bool false, .bool false, .bool false] 39))
        have hne : x9.heap.size ≠ g5 := fun e => by have := Blk.lt P5.out; omega
        have hg4 : w1.heap.size ≤ x9.heap.size := D.out.size
        refine hK1.out _ _ (KF.out _ D'.out) (fun hSx' => ?_)
        clear hK1
        (try simp only [Act.put])
        generalize x9.alloc (.cells #[.bool false, .bool false, .bool false, .bool false] 39) = x98 at D' PN hSx' P5' ⊢
        clear D hSx P5
        generalize x9.heap.size = g4 at PN hg4 hne ⊢
        have D := D'
        clear D'
        have hSx := hSx'
        clear hSx'
        have P4 := PN
        clear PN
        have P5 := P5'
        clear P5'
        refine wpAnyZ_fork (rs := [3]) (by kernel_rfl) (by decide) ?_
        intro i hi
        simp only [List.mem_cons, List.not_mem_nil, or_false] at hi
        subst hi
        · refine ⟨_, rfl, fun K1 hK1 => ?_⟩
          go_simp
          refine (l3Reach_there n _ _ _ _ _ _ _ _ _ _ _ ss _ n4 ((HX1.out.below D.out).more D.out.size) (HS1.out.on D.out) HXI.out HSI.out).mono ?_
          rintro e x983 ⟨rfl, hb⟩
          have D' := Lib.hid (below_on D.out hb.out)
          have P4' := Lib.hid (blk_b P4.out hb.out)
          have P5' := Lib.hid (blk_b P5.out hb.out)
          rw [HU1.out]
          clear D hSx hb P4 P5
          have D := D'
          clear D'
          have P4 := P4'
          clear P4'
          have P5 := P5'
          clear P5'
          refine hK1.out _ _ (KF.out _ D.out) (fun hSx => ?_)
          clear hK1
          (try simp only [Act.put])
          refine wpAnyZ_fork (rs := [7]) (by kernel_rfl) (by decide) ?_
          intro i hi
          simp only [List.mem_cons, List.not_mem_nil, or_false] at hi
          subst hi
          · refine ⟨_, rfl, fun K1 hK1 => ?_⟩
            go_simp
            refine (l3Reach_back n _ _ _ _ _ _ _ _ _ _ _ ss _ n4 ((HY1.out.below D.out).more D.out.size) (HS1.out.on D.out) HYI.out HSI.out).mono ?_
            rintro e x9837 ⟨rfl, hb⟩
            have D' := Lib.hid (below_on D.out hb.out)
            have P4' := Lib.hid (blk_b P4.out hb.out)
            have P5' := Lib.hid (blk_b P5.out hb.out)
            rw [HU2.out]
            clear D hSx hb P4 P5
            have D := D'
            clear D'
            have P4 := P4'
            clear P4'
            have P5 := P5'
            clear P5'
            refine hK1.out _ _ (KF.out _ D.out) (fun hSx => ?_)
            clear hK1
            (try simp only [Act.put])
            obtain ⟨d0, d1, d2, d3⟩ := four_cells P4.out
            obtain ⟨f0, f1, f2, f3⟩ := four_frozen P4.out
            refine wpAnyZ_step (i := 10) (by kernel_rfl) rfl ?_
            intro KS hKS
            go_simp
            have hg4s : x9837.grownBy ((((x9837.setCell ⟨g4, 0, none⟩ (.bool (u 0))).setCell ⟨g4, 1, none⟩ (.bool (u 1))).setCell ⟨g4, 2, none⟩ (.bool (u 2))).setCell ⟨g4, 3, none⟩ (.bool (u 3))) (some g4) := four_grow_ _ _ _ _ _ _
            have Q4 := Lib.hid ((((P4.out.set_ 0 (.bool (u 0))).set_ 1 (.bool (u 1))).set_ 2 (.bool (u 2))).set_ 3 (.bool (u 3)))
            have Q5 := Lib.hid (Blk.stay P5.out hg4s (fun e => hne (Option.some.inj e).symm))
            have DQ := Lib.hid (D.out.grown hg4s D.out.size (fun j hj => by have := Option.some.inj hj; omega))
            refine hKS.out _ _ (KF.out _ DQ.out) (fun hSq => ?_)
            clear hKS hSx d0 d1 d2 d3 f0 f1 f2 f3 P4 P5 D
            (try simp only [Act.put])
            generalize (((x9837.setCell ⟨g4, 0, none⟩ (.bool (u 0))).setCell ⟨g4, 1, none⟩ (.bool (u 1))).setCell ⟨g4, 2, none⟩ (.bool (u 2))).setCell ⟨g4, 3, none⟩ (.bool (u 3)) = wy at Q4 Q5 DQ hSq hg4s ⊢
            obtain ⟨d0, d1, d2, d3⟩ := four_cells Q5.out
            obtain ⟨f0, f1, f2, f3⟩ := four_frozen Q5.out
            refine wpAnyZ_last (i := 11) (by kernel_rfl) rfl (by kernel_rfl) ?_
            intro KL hKL
            go_simp
            refine hKL.out _ _ ?_
            have hg5s : wy.grownBy ((((wy.setCell ⟨g5, 0, none⟩ (.bool (v 0))).setCell ⟨g5, 1, none⟩ (.bool (v 1))).setCell ⟨g5, 2, none⟩ (.bool (v 2))).setCell ⟨g5, 3, none⟩ (.bool (v 3))) (some g5) := four_grow_ _ _ _ _ _ _
            have R5 : Hid (Blk ((((wy.setCell ⟨g5, 0, none⟩ (.bool (v 0))).setCell ⟨g5, 1, none⟩ (.bool (v 1))).setCell ⟨g5, 2, none⟩ (.bool (v 2))).setCell ⟨g5, 3, none⟩ (.bool (v 3))) g5 39 (vecB v)) := (((Q5.out.set_ 0 (.bool (v 0))).set_ 1 (.bool (v 1))).set_ 2 (.bool (v 2))).set_ 3 (.bool (v 3))
            have R4 : Hid (Blk ((((wy.setCell ⟨g5, 0, none⟩ (.bool (v 0))).setCell ⟨g5, 1, none⟩ (.bool (v 1))).setCell ⟨g5, 2, none⟩ (.bool (v 2))).setCell ⟨g5, 3, none⟩ (.bool (v 3))) g4 39 (vecB u)) := Blk.stay Q4.out hg5s (fun e => hne (Option.some.inj e))
            have DR := Lib.hid (DQ.out.grown hg5s DQ.out.size (fun j hj => by have := Option.some.inj hj; omega))
            clear hKL
            go_wp2_with fail
            go_meet
            exact ⟨g4, g5, rfl, rfl, R4, R5, DR⟩
  case rest =>
    obtain ⟨g4, g5, rfl, rfl, H4, H5, HD⟩ := hcut
    generalize wc = wx at H4 H5 HD ⊢
    have B2 := Lib.hid (below_on B1.out HD.out)
    have K2 := Lib.hid (blk_b K1.out HD.out)
    have E2 := Lib.hid (own_under E1.out HD.out)
    obtain ⟨i0, hi, hz0, hz1, hz2⟩ := info_parts info_int
    have ZI := Lib.hid hi
    have Z0 := Lib.hid hz0
    have Z1 := Lib.hid hz1
    have Z2 := Lib.hid hz2
    obtain ⟨k0, k1, k2, k3⟩ := four_cells K2.out
    have kl := Blk.lt K2.out
    clear hi hz0 hz1 hz2 HD B1 K1 E1 KF HX1 HY1 HS1
    go_wp2_with fail
    clear k0 k1 k2 k3 kl
    obtain ⟨U, hU⟩ : ∃ U, useB n xs ys ss = U := ⟨_, rfl⟩
    have HUU := Lib.hid hU
    rw [hU] at HR HUB
    clear hU
    go_loopw [3, 22] (fun x i wr => ∃ k : Nat, k ≤ n ∧ i = .int .i64 k ∧ Hid (wr.ownsRow w.heap.size 3 1 x (selB U k).length ((selB U k).map (Value.int .i64))) ∧ Hid (Blk wr g4 39 (vecB u)) ∧ Hid (Blk wr g5 39 (vecB v)) ∧ Hid (Below w.heap.size w wr)) (fun _ i _ => n - (intOf i).toNat)
    case atStart => exact ⟨0, Nat.zero_le _, rfl, E2, H4, H5, B2⟩
    case round =>
      clear H4 H5 E2 B2 K2
      obtain ⟨k, hk, rfl, hown, h4, h5, hb⟩ := hrel
      by_cases hlt : k < n
      · have hk1 : (k : Int) < (n : Int) := by omega
        have hk0 : (0 : Int) ≤ (k : Int) := by omega
        have hk4 : (k : Int) < 4 := by omega
        have hk4' : k < 4 := by omega
        have cu := vecB_cell h4.out hk4'
        have cv := vecB_cell h5.out hk4'
        have hUk := HUB.out k
        obtain ⟨c, hc⟩ : ∃ c, c = (selB U k).length := ⟨_, rfl⟩
        have hc4 : c ≤ 4 := by rw [hc]; have := selB_len U k; omega
        rcases huk : u k with _ | _
        · rw [huk] at cu hUk
          rw [Bool.false_and] at hUk
          have HS := Lib.hid (selB_f hUk)
          clear hUk hc hc4
          go_wp2_with fail
          go_roundw
          case rel => exact ⟨k + 1, by omega, by go_num, by rw [HS.out]; exact hown, h4, h5, hb⟩
          case measure => simp [intOf]; omega
        · rcases hvk : v k with _ | _
          · rw [huk] at cu hUk
            rw [hvk] at cv hUk
            have HS := Lib.hid (selB_f hUk)
            clear hUk hc hc4
            go_wp2_with fail
            go_roundw
            case rel => exact ⟨k + 1, by omega, by go_num, by rw [HS.out]; exact hown, h4, h5, hb⟩
            case measure => simp [intOf]; omega
          · rw [huk] at cu hUk
            rw [hvk] at cv hUk
            have HS := Lib.hid (selB_t hUk)
            rw [← hc] at hown
            have HC := Lib.hid hc
            clear hUk hc
            go_wp2_with (first | (at_builtin; refine wpList_append_lies _ rfl _ _ 22 rfl w.heap.size 3 i0 (.int .i64 0) 1 8 Try.underlying22 ZI.out Z0.out Z1.out Z2.out rfl (by decide) _ _ _ rfl (World.ownsRow.alloc hown.out _) ⟨wr.heap.size, 0, none⟩ 1 1 [.int .i64 k] rfl rfl ?a0 ?b0 (by decide) ?c0 ?d0 ?e0 _ rfl ?_) | fail)
            case a0 => exact cell_one_new _ _ _
            case b0 => intro x hx; simp at hx; subst hx; rfl
            case c0 => unfold maxLen; omega
            case d0 => omega
            case e0 => have := hb.out.size; simp; omega
            intro g cap w6 hown' hgrow hat hlt'
            have n4 := own_ne_blk (World.ownsRow.alloc hown.out (.cells #[.int .i64 k] 3)) (Blk.alloc h4.out (.cells #[.int .i64 k] 3)) (by decide)
            have n5 := own_ne_blk (World.ownsRow.alloc hown.out (.cells #[.int .i64 k] 3)) (Blk.alloc h5.out (.cells #[.int .i64 k] 3)) (by decide)
            have G4 := Lib.hid (Blk.stay (Blk.alloc h4.out _) hgrow n4)
            have G5 := Lib.hid (Blk.stay (Blk.alloc h5.out _) hgrow n5)
            have B6 := Lib.hid ((below_al hb.out (Nat.le_refl _) (.cells #[.int .i64 k] 3)).grown hgrow (by have := hb.out.size; simp; omega) (fun j hj => (hown.out.lt j hj).1))
            have HO := Lib.hid hown'
            clear hown' hgrow hat hlt' n4 n5 hown h4 h5 hb
            go_wp2_with fail
            go_roundw
            case rel =>
              refine ⟨k + 1, by omega, by go_num, ?_, G4, G5, B6⟩
              show World.ownsRow _ _ _ _ _ _ _
              rw [HS.out, List.length_append, List.map_append, ← HC.out]
              exact HO.out
            case measure => simp [intOf]; omega
      · have hkn : k = n := by omega
        subst hkn
        have hfin : selB U k = selB U 4 := HFIN.out U HUU.out
        rw [hfin] at hown
        clear hfin
        go_wp2_with fail
        go_ret
        exact UEnd.mk HR.out hown.out hb.out
end Go.Proofs.Ytjnbdpejgbbfdaa
