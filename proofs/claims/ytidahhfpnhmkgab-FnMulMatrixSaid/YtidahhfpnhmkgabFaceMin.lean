/- MinMatrix, as the program has it: the plain function of its numbers, in new memory; nothing that was there changes. -/
import Derived.Test.YtidahhfpnhmkgabFace
namespace Go.Proofs.Ytidahhfpnhmkgab
open Go.RowKit
set_option maxHeartbeats 1000000
set_option maxRecDepth 100000
set_option linter.unusedVariables false

theorem twoOk_t {m m' : Int} {zs ys : List Int} (h : twoOk m zs m' ys = true) : ∃ n : Nat, m = (n : Int) ∧ m' = (n : Int) ∧ MV n zs ∧ MV n ys := by
  simp only [twoOk, Bool.and_eq_true, decide_eq_true_eq] at h
  obtain ⟨h1, h2, h3⟩ := h
  obtain ⟨n, rfl, mv⟩ := matOk_t h1
  subst h3
  obtain ⟨n', e, mv'⟩ := matOk_t h2
  have : n = n' := by omega
  subst this
  exact ⟨n, rfl, rfl, mv, mv'⟩

theorem iMin_any (m m' : Int) (A A' : Option Addr) (cap cap' : Nat) (zs ys : List Int) (w : World) (hz : Ints w w.heap.size A zs) (hy : Ints w w.heap.size A' ys) :
    Calls Try.prog 17 #[.agg #[.int .i64 m, .slice A zs.length cap], .agg #[.int .i64 m', .slice A' ys.length cap']] w fun e w' => MEnd (minR m zs m' ys) w e w' := by
  rcases Bool.eq_false_or_eq_true (twoOk m zs m' ys) with hok | hok
  · have HR : Hid (minR m zs m' ys = some (m, minL m.toNat zs ys)) := by show _ = _; unfold minR; rw [if_pos hok]
    obtain ⟨N, rfl, rfl, mv, mv'⟩ := twoOk_t hok
    have n1 := mv.lo
    have n2 := mv.hi
    obtain ⟨p, hp⟩ : ∃ p, p = N * N := ⟨_, rfl⟩
    have p1 : p ≤ 16 := by rw [hp]; exact mv.sq
    have HP := Lib.hid hp
    have hlp : zs.length = p := by rw [mv.len, hp]
    have hlq : ys.length = p := by rw [mv'.len, hp]
    have HLP := Lib.hid hlp
    have HLQ := Lib.hid hlq
    have HOK := Lib.hid (matOk_mk mv)
    have HOQ := Lib.hid (matOk_mk mv')
    clear hp mv mv' hok
    rw [hlp, hlq]
    clear hlp hlq
    go_enter Try.func17, Try.ntmps17
    go_wp2_with fail
    refine (pairOf_ok N p A A' cap cap' zs ys _ n1 n2 p1 HP HLP HLQ HOK HOQ (ints_al (ints_al (ints_al hz _) _) _) (ints_al (ints_al (ints_al hy _) _) _)).mono ?_
    rintro e w1 ⟨g, h, rfl, hb1, hq1, hr1⟩
    have hb0 := below_on (below_a3 w _ _ _) hb1
    have rA : Blk w1 (w.heap.size + 1 + 1) 25 #[.int .i64 0, .slice none 0 0] := (blk_new (by simp)).below hb1 (by simp)
    obtain ⟨R, hRe⟩ : ∃ R, R = w.heap.size + 1 + 1 := ⟨_, rfl⟩
    rw [← hRe] at rA
    rw [← hRe]
    have hRg : w.heap.size ≤ R := by omega
    have RA := Lib.hid rA
    have HB := Lib.hid hb0
    have QA := Lib.hid hq1
    have PA := Lib.hid hr1
    unfold sqV
    clear hb1 hb0 rA hq1 hr1 hz hy hRe
    go_wp2_with fail
    refine (lesser_any N p g h zs ys _ n1 n2 HP HLP HLQ p1 ((QA.out.below (below_a1 w1 _)).below (below_a1 _ _)) ((PA.out.below (below_a1 w1 _)).below (below_a1 _ _))).mono ?_
    rintro e w2 ⟨g2, rfl, hb2, hg2, hq2⟩
    have HB2 := Lib.hid (below_on (below_al (below_al HB.out (Nat.le_refl _) _) (Nat.le_refl _) _) hb2)
    have R2 := Lib.hid (((RA.out.alloc _).alloc _).below hb2 (Blk.lt ((RA.out.alloc _).alloc _)))
    have Q2 := Lib.hid hq2
    clear hb2 hq2
    go_wp2_with fail
    refine (matrix_any N p g2 _ _ (show p = (minL N zs ys).length by unfold minL; rw [ofF_len]; exact HP.out) p1 Q2.out).mono ?_
    rintro e w3 ⟨_, rfl, ⟨x, rfl, ho, hl⟩, hb3⟩
    obtain ⟨A3, cap3, rfl, _, _⟩ := own_ints ho (by unfold maxLen; omega)
    have HB3 := Lib.hid (below_on HB2.out hb3)
    have R3 := Lib.hid (R2.out.below hb3 (Blk.lt R2.out))
    have HO := Lib.hid ho
    have hRw := Blk.lt R2.out
    obtain ⟨c0, c1⟩ := two_cells R3.out
    obtain ⟨f0, f1⟩ := two_frozen R3.out
    clear hb3 ho
    go_wp2_with fail
    have HF := mat_fin (w := w) (m := (N : Int)) R3.out HO.out hRw hRg HB3.out hl
    refine bodyPost_ret (results_2 rfl (gives_mat (g := R) rfl HF.1) (.tmp rfl)) rfl ?_
    exact MEnd.some_ HR.out HF.2.1 HF.2.2
  · have HR : Hid (minR m zs m' ys = none) := by show _ = _; unfold minR; rw [if_neg (by rw [hok]; decide)]
    have HOK := Lib.hid hok
    clear hok
    go_enter Try.func17, Try.ntmps17
    go_wp2_with fail
    refine (pairOf_no m m' A A' cap cap' zs ys _ (ints_al (ints_al (ints_al hz _) _) _) (ints_al (ints_al (ints_al hy _) _) _) HOK.out).mono ?_
    rintro e w1 ⟨rfl, hb1⟩
    have HB := Lib.hid (below_on (below_a3 w _ _ _) hb1)
    have rA : Blk w1 (w.heap.size + 1 + 1) 25 #[.int .i64 0, .slice none 0 0] := (blk_new (by simp)).below hb1 (by simp)
    obtain ⟨R, hRe⟩ : ∃ R, R = w.heap.size + 1 + 1 := ⟨_, rfl⟩
    rw [← hRe] at rA
    rw [← hRe]
    have hRg : w.heap.size ≤ R := by omega
    have RA := Lib.hid rA
    have c0 : ∀ o o', ((w1.alloc o).alloc o').cell? ⟨R, 0, none⟩ = some (.int .i64 0) := fun o o' => ((rA.alloc o).alloc o').cell 0
    have c1 : ∀ o o', ((w1.alloc o).alloc o').cell? ⟨R, 1, none⟩ = some (.slice none 0 0) := fun o o' => ((rA.alloc o).alloc o').cell 1
    have f0 : ∀ o o', ((w1.alloc o).alloc o').frozen? ⟨R, 0, none⟩ = false := fun o o' => ((rA.alloc o).alloc o').frozen 0
    have f1 : ∀ o o', ((w1.alloc o).alloc o').frozen? ⟨R, 1, none⟩ = false := fun o o' => ((rA.alloc o).alloc o').frozen 1
    have hne : R < w1.heap.size := Blk.lt rA
    have hne1 : ¬ R = w1.heap.size := by omega
    have hne2 : ¬ R = w1.heap.size + 1 := by omega
    obtain ⟨c0', c1'⟩ := two_cells rA
    obtain ⟨f0', f1'⟩ := two_frozen rA
    clear hb1 rA hRe
    go_wp2_with fail
    have B2 := (((RA.out.set_ 0 (.int .i64 0)).set_ 1 (.slice none 0 0)).alloc (.cells #[.nilFunc, .int .i64 0, .nilFunc, .int .i64 0, .int .i64 0, .slice none 0 0] 55)).alloc (.cells #[.nilFunc, .int .i64 0, .nilFunc, .int .i64 0, .int .i64 0, .slice none 0 0] 55)
    refine bodyPost_ret (results_2 rfl (gives_mat (g := R) rfl B2) (.tmp rfl)) rfl ?_
    exact MEnd.none_ HR.out (below_al (below_al ((HB.out.setCell (p := ⟨R, 0, none⟩) hRg (.int .i64 0)).setCell (p := ⟨R, 1, none⟩) hRg (.slice none 0 0)) (Nat.le_refl _) _) (Nat.le_refl _) _)
end Go.Proofs.Ytidahhfpnhmkgab
