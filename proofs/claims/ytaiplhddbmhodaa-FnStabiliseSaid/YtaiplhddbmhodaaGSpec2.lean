/- GradesOf and MulGrades as the model has them: each the plain function of its numbers, in new memory; nothing that was there changes. -/
import Derived.Test.YtaiplhddbmhodaaGSpec
namespace Go.Proofs.Ytaiplhddbmhodaa
open Go.RowKit
set_option maxHeartbeats 2000000
set_option maxRecDepth 100000
set_option linter.unusedVariables false

theorem sMulGrades_any (m m' : Int) (A A' : Option Addr) (cap cap' : Nat) (zs ys : List Int) (w : World) (hz : Ints w w.heap.size A zs) (hy : Ints w w.heap.size A' ys) :
    Calls Try.prog 7 #[.agg #[.int .i64 m, .slice A zs.length cap], .agg #[.int .i64 m', .slice A' ys.length cap']] w fun e w' => MEnd (gmulR m zs m' ys) w e w' := by
  rcases Bool.eq_false_or_eq_true (gradeOk m zs) with h1 | h1
  · rcases Bool.eq_false_or_eq_true (gradeOk m' ys) with h2 | h2
    · by_cases hm : m = m'
      · subst hm
        obtain ⟨N, rfl, gv⟩ := gradeOk_t h1
        obtain ⟨N', hN, gv'⟩ := gradeOk_t h2
        obtain rfl : N = N' := by omega
        have HR := Lib.hid (gtwo_4 h1 h2)
        have n1 := gv.lo
        have n2 := gv.hi
        obtain ⟨p, hp⟩ : ∃ p, p = N * N := ⟨_, rfl⟩
        have p1 : p ≤ 16 := by rw [hp]; exact gv.mv.sq
        have HP := Lib.hid hp
        have hlp : zs.length = p := by rw [gv.len, hp]
        have hlq : ys.length = p := by rw [gv'.len, hp]
        have HLP := Lib.hid hlp
        have HLQ := Lib.hid hlq
        have HZR := Lib.hid gv.in_
        have HYR := Lib.hid gv'.in_
        have H1 := Lib.hid h1
        have H2 := Lib.hid h2
        clear gv gv' h1 h2 hN hp
        rw [hlp, hlq]
        clear hlp hlq
        go_enter Try.func7, Try.ntmps7
        go_wp2_with fail
        refine (sGradesValid_p _ _ _ _ _ _ _ HLP.out (ints_al (ints_al (ints_al hz _) _) _) H1.out).mono ?_
        rintro e w1 ⟨rfl, hb1⟩
        have hb0 := below_on (below_a3 w _ _ _) hb1
        have pA : Blk w1 w.heap.size 25 #[.int .i64 N, .slice A p cap] := (((Blk.new w _ _).alloc _).alloc _).below hb1 (by simp; omega)
        have qA : Blk w1 (w.heap.size + 1) 25 #[.int .i64 N, .slice A' p cap'] := ((blk_new (by simp)).alloc _).below hb1 (by simp)
        have rA : Blk w1 (w.heap.size + 1 + 1) 25 #[.int .i64 0, .slice none 0 0] := (blk_new (by simp)).below hb1 (by simp)
        obtain ⟨a2, a3⟩ := two_cells qA
        clear hb1
        go_wp2_with fail
        refine (sGradesValid_p _ _ _ _ _ _ _ HLQ.out ((hy.below hb0).more hb0.size) H2.out).mono ?_
        rintro e w2 ⟨rfl, hb2⟩
        have hb4 := below_on hb0 hb2
        have pB := pA.below hb2 (Blk.lt pA)
        have qB := qA.below hb2 (Blk.lt qA)
        have rB := rA.below hb2 (Blk.lt rA)
        clear hb2 pA qA rA a2 a3
        obtain ⟨a0, a1⟩ := two_cells pB
        obtain ⟨a2, a3⟩ := two_cells qB
        have RA := Lib.hid rB
        have HB := Lib.hid hb4
        have I1 := Lib.hid ((hz.below hb4).more hb4.size)
        have J1 := Lib.hid ((hy.below hb4).more hb4.size)
        clear hb0 hb4 pB qB rB hz hy
        go_wp2_with fail
        refine (l6Mul_any N p _ _ _ _ zs ys _ n1 n2 p1 HP HLP HLQ HZR HYR I1.out J1.out).mono ?_
        rintro e w3 ⟨_, rfl, ⟨x, rfl, ho, hl⟩, hb3⟩
        obtain ⟨A3, cap3, rfl, _, _⟩ := own_ints ho (by unfold maxLen; omega)
        have HB3 := Lib.hid (below_on HB.out hb3)
        have R3 := Lib.hid (RA.out.below hb3 (Blk.lt RA.out))
        have HO := Lib.hid ho
        have hRw := Blk.lt RA.out
        obtain ⟨c0, c1⟩ := two_cells R3.out
        obtain ⟨f0, f1⟩ := two_frozen R3.out
        clear hb3 ho a0 a1 a2 a3
        go_wp2_with fail
        have HF := mat_fin (w := w) (m := (N : Int)) R3.out HO.out hRw (by omega) HB3.out hl
        refine bodyPost_ret (results_2 rfl (gives_mat (g := w.heap.size + 1 + 1) rfl HF.1) (.tmp rfl)) rfl ?_
        exact MEnd.some_ HR.out HF.2.1 HF.2.2
      · obtain ⟨N, rfl, gv⟩ := gradeOk_t h1
        obtain ⟨N', rfl, gv'⟩ := gradeOk_t h2
        have HR := Lib.hid (gtwo_3 (zs := zs) (ys := ys) hm)
        have hne : ¬ N = N' := by omega
        have hnb : ((N : Int) != (N' : Int)) = true := by rw [bne_iff_ne]; omega
        have H1 := Lib.hid h1
        have H2 := Lib.hid h2
        clear gv gv' h1 h2 hm
        go_enter Try.func7, Try.ntmps7
        go_wp2_with fail
        refine (sGradesValid_is _ _ _ _ _ _ (ints_al (ints_al (ints_al hz _) _) _) H1.out).mono ?_
        rintro e w1 ⟨rfl, hb1⟩
        have hb0 := below_on (below_a3 w _ _ _) hb1
        have pA : Blk w1 w.heap.size 25 #[.int .i64 N, .slice A zs.length cap] := (((Blk.new w _ _).alloc _).alloc _).below hb1 (by simp; omega)
        have qA : Blk w1 (w.heap.size + 1) 25 #[.int .i64 N', .slice A' ys.length cap'] := ((blk_new (by simp)).alloc _).below hb1 (by simp)
        have rA : Blk w1 (w.heap.size + 1 + 1) 25 #[.int .i64 0, .slice none 0 0] := (blk_new (by simp)).below hb1 (by simp)
        obtain ⟨a2, a3⟩ := two_cells qA
        clear hb1
        go_wp2_with fail
        refine (sGradesValid_is _ _ _ _ _ _ ((hy.below hb0).more hb0.size) H2.out).mono ?_
        rintro e w2 ⟨rfl, hb2⟩
        have hb4 := below_on hb0 hb2
        have pB := pA.below hb2 (Blk.lt pA)
        have qB := qA.below hb2 (Blk.lt qA)
        have rB := rA.below hb2 (Blk.lt rA)
        clear hb2 pA qA rA a2 a3
        obtain ⟨a0, a1⟩ := two_cells pB
        obtain ⟨a2, a3⟩ := two_cells qB
        obtain ⟨c0, c1⟩ := two_cells rB
        obtain ⟨f0, f1⟩ := two_frozen rB
        have RA := Lib.hid rB
        have HB := Lib.hid hb4
        clear hb0 hz hy hb4 pB qB rB
        go_wp2_with fail
        refine bodyPost_ret (results_2 rfl (gives_mat (g := w.heap.size + 1 + 1) rfl ((RA.out.set_ 0 _).set_ 1 _)) (.tmp rfl)) rfl ?_
        exact MEnd.none_ HR.out ((HB.out.setCell (p := ⟨_, 0, none⟩) (by simp; omega) _).setCell (p := ⟨_, 1, none⟩) (by simp; omega) _)
    · obtain ⟨N, rfl, gv⟩ := gradeOk_t h1
      have HR := Lib.hid (gtwo_2 (m := (N : Int)) (zs := zs) h2)
      have H1 := Lib.hid h1
      have H2 := Lib.hid h2
      clear gv h1 h2
      go_enter Try.func7, Try.ntmps7
      go_wp2_with fail
      refine (sGradesValid_is _ _ _ _ _ _ (ints_al (ints_al (ints_al hz _) _) _) H1.out).mono ?_
      rintro e w1 ⟨rfl, hb1⟩
      have hb0 := below_on (below_a3 w _ _ _) hb1
      have pA : Blk w1 w.heap.size 25 #[.int .i64 N, .slice A zs.length cap] := (((Blk.new w _ _).alloc _).alloc _).below hb1 (by simp; omega)
      have qA : Blk w1 (w.heap.size + 1) 25 #[.int .i64 m', .slice A' ys.length cap'] := ((blk_new (by simp)).alloc _).below hb1 (by simp)
      have rA : Blk w1 (w.heap.size + 1 + 1) 25 #[.int .i64 0, .slice none 0 0] := (blk_new (by simp)).below hb1 (by simp)
      obtain ⟨a2, a3⟩ := two_cells qA
      clear hb1
      go_wp2_with fail
      refine (sGradesValid_is _ _ _ _ _ _ ((hy.below hb0).more hb0.size) H2.out).mono ?_
      rintro e w2 ⟨rfl, hb2⟩
      have hb4 := below_on hb0 hb2
      have pB := pA.below hb2 (Blk.lt pA)
      have qB := qA.below hb2 (Blk.lt qA)
      have rB := rA.below hb2 (Blk.lt rA)
      clear hb2 pA qA rA a2 a3
      obtain ⟨c0, c1⟩ := two_cells rB
      obtain ⟨f0, f1⟩ := two_frozen rB
      have RA := Lib.hid rB
      have HB := Lib.hid hb4
      clear hb0 hz hy hb4 pB qB rB
      go_wp2_with fail
      refine bodyPost_ret (results_2 rfl (gives_mat (g := w.heap.size + 1 + 1) rfl ((RA.out.set_ 0 _).set_ 1 _)) (.tmp rfl)) rfl ?_
      exact MEnd.none_ HR.out ((HB.out.setCell (p := ⟨_, 0, none⟩) (by simp; omega) _).setCell (p := ⟨_, 1, none⟩) (by simp; omega) _)
  · have HR := Lib.hid (gtwo_1 (m' := m') (ys := ys) h1)
    have H1 := Lib.hid h1
    clear h1
    go_enter Try.func7, Try.ntmps7
    go_wp2_with fail
    refine (sGradesValid_is _ _ _ _ _ _ (ints_al (ints_al (ints_al hz _) _) _) H1.out).mono ?_
    rintro e w1 ⟨rfl, hb1⟩
    have hb0 := below_on (below_a3 w _ _ _) hb1
    have pA : Blk w1 w.heap.size 25 #[.int .i64 m, .slice A zs.length cap] := (((Blk.new w _ _).alloc _).alloc _).below hb1 (by simp; omega)
    have qA : Blk w1 (w.heap.size + 1) 25 #[.int .i64 m', .slice A' ys.length cap'] := ((blk_new (by simp)).alloc _).below hb1 (by simp)
    have rA : Blk w1 (w.heap.size + 1 + 1) 25 #[.int .i64 0, .slice none 0 0] := (blk_new (by simp)).below hb1 (by simp)
    obtain ⟨c0, c1⟩ := two_cells rA
    obtain ⟨f0, f1⟩ := two_frozen rA
    have RA := Lib.hid rA
    have HB := Lib.hid hb0
    clear hb0 hz hy hb1 pA qA rA
    go_wp2_with fail
    refine bodyPost_ret (results_2 rfl (gives_mat (g := w.heap.size + 1 + 1) rfl ((RA.out.set_ 0 _).set_ 1 _)) (.tmp rfl)) rfl ?_
    exact MEnd.none_ HR.out ((HB.out.setCell (p := ⟨_, 0, none⟩) (by simp; omega) _).setCell (p := ⟨_, 1, none⟩) (by simp; omega) _)

end Go.Proofs.Ytaiplhddbmhodaa
