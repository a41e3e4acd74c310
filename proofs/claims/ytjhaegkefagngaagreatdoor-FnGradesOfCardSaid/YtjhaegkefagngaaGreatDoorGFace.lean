/- MulGrades, IsIdempotent, Stabilise, GradesOf, as the program has them: the plain functions of their numbers, in new memory; the zero value and false where there is none; nothing that was there changes. -/
import Derived.Test.YtjhaegkefagngaaGreatDoorGStab
import Derived.Test.YtjhaegkefagngaaGreatDoorFace
import Derived.Deep.DeepCutAuto
namespace Go.Proofs.YtjhaegkefagngaaGreatDoor
open Go.RowKit
set_option maxHeartbeats 2000000
set_option maxRecDepth 100000
set_option linter.unusedVariables false

def gtwo (m : Int) (zs : List Int) (m' : Int) (ys : List Int) : Bool := gradeOk m zs && (gradeOk m' ys && decide (m = m'))
def gmulR (m : Int) (zs : List Int) (m' : Int) (ys : List Int) : Option (Int × List Int) := if gtwo m zs m' ys = true then some (m, gmulL m.toNat zs ys) else none
def idemB (m : Int) (zs : List Int) : Bool := gradeOk m zs && decide (gmulL m.toNat zs zs = zs)
def gstabR (m : Int) (zs : List Int) : Option (Int × List Int) := if idemB m zs = true then some (m, stabL m.toNat zs) else none
theorem gtwo_1 {m m' : Int} {zs ys : List Int} (h : gradeOk m zs = false) : gmulR m zs m' ys = none := by simp [gmulR, gtwo, h]
theorem gtwo_2 {m m' : Int} {zs ys : List Int} (h : gradeOk m' ys = false) : gmulR m zs m' ys = none := by simp [gmulR, gtwo, h]
theorem gtwo_3 {m m' : Int} {zs ys : List Int} (h : ¬ m = m') : gmulR m zs m' ys = none := by simp [gmulR, gtwo, h]
theorem gtwo_4 {n : Nat} {zs ys : List Int} (h : gradeOk (n : Int) zs = true) (h' : gradeOk (n : Int) ys = true) : gmulR n zs n ys = some ((n : Int), gmulL n zs ys) := by simp [gmulR, gtwo, h, h']
theorem gradeSquare_okl (N : Nat) (A : Option Addr) (cap : Nat) (zs : List Int) (w : World) (gv : Hid (GV N zs)) (hz : Ints w w.heap.size A zs) :
    Calls Tryz.prog 41 #[.agg #[.int .i64 N, .slice A zs.length cap]] w fun e w' => ∃ g, e = .returned (.tuple #[.agg #[.func (.func 89) #[] #[], .int .i64 0, .func (.func 45) #[] #[], .int .i64 3, .int .i64 N, .slice (some ⟨g, 0, none⟩) zs.length zs.length], .bool true]) ∧ Below w.heap.size w w' ∧ w.heap.size ≤ g ∧ GSq w' g zs :=
  gradeSquare_ok N zs.length A cap zs w gv.out.lo gv.out.hi gv.out.len rfl (gradeOk_mk gv.out) hz

theorem iMulGrades_any (m m' : Int) (A A' : Option Addr) (cap cap' : Nat) (zs ys : List Int) (w : World) (hz : Ints w w.heap.size A zs) (hy : Ints w w.heap.size A' ys) :
    Calls Tryz.prog 17 #[.agg #[.int .i64 m, .slice A zs.length cap], .agg #[.int .i64 m', .slice A' ys.length cap']] w fun e w' => MEnd (gmulR m zs m' ys) w e w' := by
  rcases Bool.eq_false_or_eq_true (gradeOk m zs) with h1 | h1
  · rcases Bool.eq_false_or_eq_true (gradeOk m' ys) with h2 | h2
    · by_cases hm : m = m'
      · subst hm
        obtain ⟨N, rfl, gv⟩ := gradeOk_t h1
        obtain ⟨N', hN, gv'⟩ := gradeOk_t h2
        obtain rfl : N = N' := by omega
        have HR := Lib.hid (gtwo_4 h1 h2)
        have n1 := gv.lo
        have n2 := gv.hi
        obtain ⟨p, hp⟩ : ∃ p, p = N * N := ⟨_, rfl⟩
        have p1 : p ≤ 16 := by rw [hp]; exact gv.mv.sq
        have HP := Lib.hid hp
        have hlp : zs.length = p := by rw [gv.len, hp]
        have hlq : ys.length = p := by rw [gv'.len, hp]
        have HLP := Lib.hid hlp
        have HLQ := Lib.hid hlq
        have HZB : Hid (∀ q, q < p → 0 ≤ zs.getD q 0 ∧ zs.getD q 0 ≤ 3) := fun q hq => gv.at_ hp hq
        have HYB : Hid (∀ q, q < p → 0 ≤ ys.getD q 0 ∧ ys.getD q 0 ≤ 3) := fun q hq => gv'.at_ hp hq
        have H1 := Lib.hid (gradeOk_mk gv)
        have H2 := Lib.hid (gradeOk_mk gv')
        clear gv gv' h1 h2 hN hp
        rw [hlp, hlq]
        clear hlp hlq
        go_enter Tryz.func17, Tryz.ntmps17
        go_wp2_with fail
        refine (gradeSquare_ok N p A cap zs _ n1 n2 HP HLP H1 (ints_al (ints_al (ints_al hz _) _) _)).mono ?_
        rintro e w1 ⟨g, rfl, hb1, hg1, hq1⟩
        unfold gsqV
        have hb0 := below_on (below_a3 w _ _ _) hb1
        have pB : Blk w1 (w.heap.size + 1) 30 #[.int .i64 N, .slice A' p cap'] := ((blk_new (by simp)).alloc _).below hb1 (by simp)
        have rA : Blk w1 (w.heap.size + 1 + 1) 30 #[.int .i64 0, .slice none 0 0] := (blk_new (by simp)).below hb1 (by simp)
        have c0 : ∀ o, (w1.alloc o).cell? ⟨w.heap.size + 1, 0, none⟩ = some (.int .i64 N) := fun o => (pB.alloc o).cell 0
        have c1 : ∀ o, (w1.alloc o).cell? ⟨w.heap.size + 1, 1, none⟩ = some (.slice A' p cap') := fun o => (pB.alloc o).cell 1
        have hy1 := (hy.below hb0).more hb0.size
        have RA := Lib.hid rA
        have HB := Lib.hid hb0
        have QA := Lib.hid hq1
        clear hb1 hb0 pB rA hz hy hq1
        go_wp2_with fail
        refine (gradeSquare_ok N p A' cap' ys _ n1 n2 HP HLQ H2 (ints_al hy1 _)).mono ?_
        rintro e w3 ⟨h, rfl, hb3, hg3, hq3⟩
        unfold gsqV
        have XB := (Blk.new w1 89 #[.func (.func 89) #[] #[], .int .i64 0, .func (.func 45) #[] #[], .int .i64 3, .int .i64 N, .slice (some ⟨g, 0, none⟩) p p]).below hb3 (Blk.lt (Blk.new _ _ _))
        obtain ⟨R, hR⟩ : ∃ R, R = w.heap.size + 1 + 1 := ⟨_, rfl⟩
        obtain ⟨X, hX⟩ : ∃ X, X = w1.heap.size := ⟨_, rfl⟩
        have hRX : R < X := by rw [hR, hX]; exact Blk.lt RA.out
        have R3 := (RA.out.alloc (.cells #[.func (.func 89) #[] #[], .int .i64 0, .func (.func 45) #[] #[], .int .i64 3, .int .i64 N, .slice (some ⟨g, 0, none⟩) p p] 89)).below hb3 (Blk.lt (RA.out.alloc _))
        have HB3 := Lib.hid (below_on (below_al HB.out (Nat.le_refl _) (.cells #[.func (.func 89) #[] #[], .int .i64 0, .func (.func 45) #[] #[], .int .i64 3, .int .i64 N, .slice (some ⟨g, 0, none⟩) p p] 89)) hb3)
        have Q3 := Lib.hid (Nm.below (Blk.alloc QA.out (.cells #[.func (.func 89) #[] #[], .int .i64 0, .func (.func 45) #[] #[], .int .i64 3, .int .i64 N, .slice (some ⟨g, 0, none⟩) p p] 89)) hb3)
        rw [← hR] at R3 ⊢
        rw [← hX] at XB ⊢
        have hRw : R < w3.heap.size := Blk.lt R3
        have hXw : X < w3.heap.size := Blk.lt XB
        have hRg : w.heap.size ≤ R := by rw [hR]; omega
        have RR := Lib.hid R3
        have x4 : ∀ o, (w3.alloc o).cell? ⟨X, 4, none⟩ = some (.int .i64 N) := fun o => (XB.alloc o).cell 4
        have x0 : ∀ o, (w3.alloc o).cell? ⟨X, 0, none⟩ = some (.func (.func 89) #[] #[]) := fun o => (XB.alloc o).cell 0
        have x1 : ∀ o, (w3.alloc o).cell? ⟨X, 1, none⟩ = some (.int .i64 0) := fun o => (XB.alloc o).cell 1
        have x2 : ∀ o, (w3.alloc o).cell? ⟨X, 2, none⟩ = some (.func (.func 45) #[] #[]) := fun o => (XB.alloc o).cell 2
        have x3 : ∀ o, (w3.alloc o).cell? ⟨X, 3, none⟩ = some (.int .i64 3) := fun o => (XB.alloc o).cell 3
        have x5 : ∀ o, (w3.alloc o).cell? ⟨X, 5, none⟩ = some (.slice (some ⟨g, 0, none⟩) p p) := fun o => (XB.alloc o).cell 5
        have P3 := Lib.hid hq3
        clear hb3 hq3 R3 XB hR hX c0 c1 hy1
        go_wp2_with fail
        refine (g_times_any N p g h zs ys _ n1 n2 HP HLP HLQ p1 HZB HYB (Blk.alloc Q3.out _) (Blk.alloc P3.out _)).mono ?_
        rintro e w5 ⟨g5, rfl, hb5, hg5, hq5⟩
        have HB5 := Lib.hid (below_on (below_al HB3.out (Nat.le_refl _) _) hb5)
        have R5 := Lib.hid ((RR.out.alloc _).below hb5 (Blk.lt (RR.out.alloc _)))
        have Q5 := Lib.hid hq5
        clear hb5 hq5 x0 x1 x2 x3 x4 x5
        go_wp2_with fail
        refine (g_matrix_any N p g5 _ _ (show p = (gmulL N zs ys).length by unfold gmulL; rw [ofF_len]; exact HP.out) p1 Q5.out).mono ?_
        rintro e w6 ⟨_, rfl, ⟨x, rfl, ho, hl⟩, hb6⟩
        obtain ⟨A6, cap6, rfl, _, _⟩ := own_ints ho (by unfold maxLen; omega)
        have HB6 := Lib.hid (below_on HB5.out hb6)
        have R6 := Lib.hid (R5.out.below hb6 (Blk.lt R5.out))
        have HO := Lib.hid ho
        have hRw := Blk.lt R5.out
        obtain ⟨d0, d1⟩ := two_cells R6.out
        obtain ⟨f0, f1⟩ := two_frozen R6.out
        clear hb6 ho
        go_wp2_with fail
        have HF := mat_fin (w := w) (m := (N : Int)) R6.out HO.out hRw hRg HB6.out hl
        refine bodyPost_ret (results_2 rfl (gives_mat (g := R) rfl HF.1) (.tmp rfl)) rfl ?_
        exact MEnd.some_ HR.out HF.2.1 HF.2.2
      · obtain ⟨N, rfl, gv⟩ := gradeOk_t h1
        obtain ⟨N', rfl, gv'⟩ := gradeOk_t h2
        have HR := Lib.hid (gtwo_3 (zs := zs) (ys := ys) hm)
        have hne : ¬ N = N' := by omega
        have hnb : ((N : Int) != (N' : Int)) = true := by rw [bne_iff_ne]; omega
        have H1 := Lib.hid gv
        have H2 := Lib.hid gv'
        clear gv gv' h1 h2 hm
        go_enter Tryz.func17, Tryz.ntmps17
        go_wp2_with fail
        refine (gradeSquare_okl _ A cap zs _ H1 (ints_al (ints_al (ints_al hz _) _) _)).mono ?_
        rintro e w1 ⟨g, rfl, hb1, hg1, hq1⟩
        have hb0 := below_on (below_a3 w _ _ _) hb1
        have pB : Blk w1 (w.heap.size + 1) 30 #[.int .i64 N', .slice A' ys.length cap'] := ((blk_new (by simp)).alloc _).below hb1 (by simp)
        have rA : Blk w1 (w.heap.size + 1 + 1) 30 #[.int .i64 0, .slice none 0 0] := (blk_new (by simp)).below hb1 (by simp)
        have c0 : ∀ o, (w1.alloc o).cell? ⟨w.heap.size + 1, 0, none⟩ = some (.int .i64 N') := fun o => (pB.alloc o).cell 0
        have c1 : ∀ o, (w1.alloc o).cell? ⟨w.heap.size + 1, 1, none⟩ = some (.slice A' ys.length cap') := fun o => (pB.alloc o).cell 1
        have hy1 := (hy.below hb0).more hb0.size
        have RA := Lib.hid rA
        have HB := Lib.hid hb0
        have QA := Lib.hid hq1
        clear hb1 hb0 pB rA hz hy hq1
        go_wp2_with fail
        refine (gradeSquare_okl _ A' cap' ys _ H2 (ints_al hy1 _)).mono ?_
        rintro e w3 ⟨h, rfl, hb3, hg3, hq3⟩
        have XB := (Blk.new w1 89 #[.func (.func 89) #[] #[], .int .i64 0, .func (.func 45) #[] #[], .int .i64 3, .int .i64 N, .slice (some ⟨g, 0, none⟩) zs.length zs.length]).below hb3 (Blk.lt (Blk.new _ _ _))
        obtain ⟨R, hR⟩ : ∃ R, R = w.heap.size + 1 + 1 := ⟨_, rfl⟩
        obtain ⟨X, hX⟩ : ∃ X, X = w1.heap.size := ⟨_, rfl⟩
        have hRX : R < X := by rw [hR, hX]; exact Blk.lt RA.out
        have R3 := (RA.out.alloc (.cells #[.func (.func 89) #[] #[], .int .i64 0, .func (.func 45) #[] #[], .int .i64 3, .int .i64 N, .slice (some ⟨g, 0, none⟩) zs.length zs.length] 89)).below hb3 (Blk.lt (RA.out.alloc _))
        have HB3 := Lib.hid (below_on (below_al HB.out (Nat.le_refl _) (.cells #[.func (.func 89) #[] #[], .int .i64 0, .func (.func 45) #[] #[], .int .i64 3, .int .i64 N, .slice (some ⟨g, 0, none⟩) zs.length zs.length] 89)) hb3)
        have Q3 := Lib.hid (Nm.below (Blk.alloc QA.out (.cells #[.func (.func 89) #[] #[], .int .i64 0, .func (.func 45) #[] #[], .int .i64 3, .int .i64 N, .slice (some ⟨g, 0, none⟩) zs.length zs.length] 89)) hb3)
        rw [← hR] at R3 ⊢
        rw [← hX] at XB ⊢
        have hRw : R < w3.heap.size := Blk.lt R3
        have hXw : X < w3.heap.size := Blk.lt XB
        have hRg : w.heap.size ≤ R := by rw [hR]; omega
        have RR := Lib.hid R3
        have x4 : ∀ o, (w3.alloc o).cell? ⟨X, 4, none⟩ = some (.int .i64 N) := fun o => (XB.alloc o).cell 4
        have d0 : ∀ o, (w3.alloc o).cell? ⟨R, 0, none⟩ = some (.int .i64 0) := fun o => (R3.alloc o).cell 0
        have d1 : ∀ o, (w3.alloc o).cell? ⟨R, 1, none⟩ = some (.slice none 0 0) := fun o => (R3.alloc o).cell 1
        have e0 : ∀ o, (w3.alloc o).frozen? ⟨R, 0, none⟩ = false := fun o => (R3.alloc o).frozen 0
        have e1 : ∀ o, (w3.alloc o).frozen? ⟨R, 1, none⟩ = false := fun o => (R3.alloc o).frozen 1
        obtain ⟨d0', d1'⟩ := two_cells R3
        obtain ⟨e0', e1'⟩ := two_frozen R3
        have hne1 : ¬ R = w3.heap.size := by omega
        clear hb3 R3 XB hR hX c0 c1 hy1 hq3
        go_wp2_with fail
        have B2 := ((RR.out.set_ 0 (.int .i64 0)).set_ 1 (.slice none 0 0)).alloc (.cells #[.func (.func 89) #[] #[], .int .i64 0, .func (.func 45) #[] #[], .int .i64 3, .int .i64 N', .slice (some ⟨h, 0, none⟩) ys.length ys.length] 89)
        refine bodyPost_ret (results_2 rfl (gives_mat (g := R) rfl B2) (.tmp rfl)) rfl ?_
        exact MEnd.none_ HR.out (below_al ((HB3.out.setCell (p := ⟨R, 0, none⟩) hRg (.int .i64 0)).setCell (p := ⟨R, 1, none⟩) hRg (.slice none 0 0)) (Nat.le_refl _) _)
    · obtain ⟨N, rfl, gv⟩ := gradeOk_t h1
      have HR := Lib.hid (gtwo_2 (m := (N : Int)) (zs := zs) h2)
      have H1 := Lib.hid gv
      have H2 := Lib.hid h2
      clear gv h1 h2
      go_enter Tryz.func17, Tryz.ntmps17
      go_wp2_with fail
      refine (gradeSquare_okl _ A cap zs _ H1 (ints_al (ints_al (ints_al hz _) _) _)).mono ?_
      rintro e w1 ⟨g, rfl, hb1, hg1, hq1⟩
      have hb0 := below_on (below_a3 w _ _ _) hb1
      have pB : Blk w1 (w.heap.size + 1) 30 #[.int .i64 m', .slice A' ys.length cap'] := ((blk_new (by simp)).alloc _).below hb1 (by simp)
      have rA : Blk w1 (w.heap.size + 1 + 1) 30 #[.int .i64 0, .slice none 0 0] := (blk_new (by simp)).below hb1 (by simp)
      have c0 : ∀ o, (w1.alloc o).cell? ⟨w.heap.size + 1, 0, none⟩ = some (.int .i64 m') := fun o => (pB.alloc o).cell 0
      have c1 : ∀ o, (w1.alloc o).cell? ⟨w.heap.size + 1, 1, none⟩ = some (.slice A' ys.length cap') := fun o => (pB.alloc o).cell 1
      have hy1 := (hy.below hb0).more hb0.size
      have RA := Lib.hid rA
      have HB := Lib.hid hb0
      have QA := Lib.hid hq1
      clear hb1 hb0 pB rA hz hy hq1
      go_wp2_with fail
      refine (gradeSquare_no m' A' cap' ys _ (ints_al hy1 _) H2.out).mono ?_
      rintro e w3 ⟨rfl, hb3⟩
      have XB := (Blk.new w1 89 #[.func (.func 89) #[] #[], .int .i64 0, .func (.func 45) #[] #[], .int .i64 3, .int .i64 N, .slice (some ⟨g, 0, none⟩) zs.length zs.length]).below hb3 (Blk.lt (Blk.new _ _ _))
      obtain ⟨R, hR⟩ : ∃ R, R = w.heap.size + 1 + 1 := ⟨_, rfl⟩
      obtain ⟨X, hX⟩ : ∃ X, X = w1.heap.size := ⟨_, rfl⟩
      have hRX : R < X := by rw [hR, hX]; exact Blk.lt RA.out
      have R3 := (RA.out.alloc (.cells #[.func (.func 89) #[] #[], .int .i64 0, .func (.func 45) #[] #[], .int .i64 3, .int .i64 N, .slice (some ⟨g, 0, none⟩) zs.length zs.length] 89)).below hb3 (Blk.lt (RA.out.alloc _))
      have HB3 := Lib.hid (below_on (below_al HB.out (Nat.le_refl _) (.cells #[.func (.func 89) #[] #[], .int .i64 0, .func (.func 45) #[] #[], .int .i64 3, .int .i64 N, .slice (some ⟨g, 0, none⟩) zs.length zs.length] 89)) hb3)
      have Q3 := Lib.hid (Nm.below (Blk.alloc QA.out (.cells #[.func (.func 89) #[] #[], .int .i64 0, .func (.func 45) #[] #[], .int .i64 3, .int .i64 N, .slice (some ⟨g, 0, none⟩) zs.length zs.length] 89)) hb3)
      rw [← hR] at R3 ⊢
      rw [← hX] at XB ⊢
      have hRw : R < w3.heap.size := Blk.lt R3
      have hXw : X < w3.heap.size := Blk.lt XB
      have hRg : w.heap.size ≤ R := by rw [hR]; omega
      have RR := Lib.hid R3
      have d0 : ∀ o, (w3.alloc o).cell? ⟨R, 0, none⟩ = some (.int .i64 0) := fun o => (R3.alloc o).cell 0
      have d1 : ∀ o, (w3.alloc o).cell? ⟨R, 1, none⟩ = some (.slice none 0 0) := fun o => (R3.alloc o).cell 1
      have e0 : ∀ o, (w3.alloc o).frozen? ⟨R, 0, none⟩ = false := fun o => (R3.alloc o).frozen 0
      have e1 : ∀ o, (w3.alloc o).frozen? ⟨R, 1, none⟩ = false := fun o => (R3.alloc o).frozen 1
      obtain ⟨d0', d1'⟩ := two_cells R3
      obtain ⟨e0', e1'⟩ := two_frozen R3
      have hne1 : ¬ R = w3.heap.size := by omega
      clear hb3 R3 XB hR hX c0 c1 hy1
      go_wp2_with fail
      have B2 := ((RR.out.set_ 0 (.int .i64 0)).set_ 1 (.slice none 0 0)).alloc (.cells #[.nilFunc, .int .i64 0, .nilFunc, .int .i64 0, .int .i64 0, .slice none 0 0] 89)
      refine bodyPost_ret (results_2 rfl (gives_mat (g := R) rfl B2) (.tmp rfl)) rfl ?_
      exact MEnd.none_ HR.out (below_al ((HB3.out.setCell (p := ⟨R, 0, none⟩) hRg (.int .i64 0)).setCell (p := ⟨R, 1, none⟩) hRg (.slice none 0 0)) (Nat.le_refl _) _)
  · have HR := Lib.hid (gtwo_1 (m' := m') (ys := ys) h1)
    rcases Bool.eq_false_or_eq_true (gradeOk m' ys) with h2 | h2
    · obtain ⟨N', rfl, gv'⟩ := gradeOk_t h2
      have H1 := Lib.hid h1
      have H2 := Lib.hid gv'
      clear gv' h1 h2
      go_enter Tryz.func17, Tryz.ntmps17
      go_wp2_with fail
      refine (gradeSquare_no m A cap zs _ (ints_al (ints_al (ints_al hz _) _) _) H1.out).mono ?_
      rintro e w1 ⟨rfl, hb1⟩
      have hb0 := below_on (below_a3 w _ _ _) hb1
      have pB : Blk w1 (w.heap.size + 1) 30 #[.int .i64 N', .slice A' ys.length cap'] := ((blk_new (by simp)).alloc _).below hb1 (by simp)
      have rA : Blk w1 (w.heap.size + 1 + 1) 30 #[.int .i64 0, .slice none 0 0] := (blk_new (by simp)).below hb1 (by simp)
      have c0 : ∀ o, (w1.alloc o).cell? ⟨w.heap.size + 1, 0, none⟩ = some (.int .i64 N') := fun o => (pB.alloc o).cell 0
      have c1 : ∀ o, (w1.alloc o).cell? ⟨w.heap.size + 1, 1, none⟩ = some (.slice A' ys.length cap') := fun o => (pB.alloc o).cell 1
      have hy1 := (hy.below hb0).more hb0.size
      have RA := Lib.hid rA
      have HB := Lib.hid hb0
      clear hb1 hb0 pB rA hz hy
      go_wp2_with fail
      refine (gradeSquare_okl _ A' cap' ys _ H2 (ints_al hy1 _)).mono ?_
      rintro e w3 ⟨h, rfl, hb3, hg3, hq3⟩
      have XB := (Blk.new w1 89 #[.nilFunc, .int .i64 0, .nilFunc, .int .i64 0, .int .i64 0, .slice none 0 0]).below hb3 (Blk.lt (Blk.new _ _ _))
      obtain ⟨R, hR⟩ : ∃ R, R = w.heap.size + 1 + 1 := ⟨_, rfl⟩
      obtain ⟨X, hX⟩ : ∃ X, X = w1.heap.size := ⟨_, rfl⟩
      have hRX : R < X := by rw [hR, hX]; exact Blk.lt RA.out
      have R3 := (RA.out.alloc (.cells #[.nilFunc, .int .i64 0, .nilFunc, .int .i64 0, .int .i64 0, .slice none 0 0] 89)).below hb3 (Blk.lt (RA.out.alloc _))
      have HB3 := Lib.hid (below_on (below_al HB.out (Nat.le_refl _) (.cells #[.nilFunc, .int .i64 0, .nilFunc, .int .i64 0, .int .i64 0, .slice none 0 0] 89)) hb3)
      rw [← hR] at R3 ⊢
      rw [← hX] at XB ⊢
      have hRw : R < w3.heap.size := Blk.lt R3
      have hXw : X < w3.heap.size := Blk.lt XB
      have hRg : w.heap.size ≤ R := by rw [hR]; omega
      have RR := Lib.hid R3
      have d0 : ∀ o, (w3.alloc o).cell? ⟨R, 0, none⟩ = some (.int .i64 0) := fun o => (R3.alloc o).cell 0
      have d1 : ∀ o, (w3.alloc o).cell? ⟨R, 1, none⟩ = some (.slice none 0 0) := fun o => (R3.alloc o).cell 1
      have e0 : ∀ o, (w3.alloc o).frozen? ⟨R, 0, none⟩ = false := fun o => (R3.alloc o).frozen 0
      have e1 : ∀ o, (w3.alloc o).frozen? ⟨R, 1, none⟩ = false := fun o => (R3.alloc o).frozen 1
      obtain ⟨d0', d1'⟩ := two_cells R3
      obtain ⟨e0', e1'⟩ := two_frozen R3
      have hne1 : ¬ R = w3.heap.size := by omega
      clear hb3 R3 XB hR hX c0 c1 hy1 hq3
      go_wp2_with fail
      have B2 := ((RR.out.set_ 0 (.int .i64 0)).set_ 1 (.slice none 0 0)).alloc (.cells #[.func (.func 89) #[] #[], .int .i64 0, .func (.func 45) #[] #[], .int .i64 3, .int .i64 N', .slice (some ⟨h, 0, none⟩) ys.length ys.length] 89)
      refine bodyPost_ret (results_2 rfl (gives_mat (g := R) rfl B2) (.tmp rfl)) rfl ?_
      exact MEnd.none_ HR.out (below_al ((HB3.out.setCell (p := ⟨R, 0, none⟩) hRg (.int .i64 0)).setCell (p := ⟨R, 1, none⟩) hRg (.slice none 0 0)) (Nat.le_refl _) _)
    · have H1 := Lib.hid h1
      have H2 := Lib.hid h2
      clear h1 h2
      go_enter Tryz.func17, Tryz.ntmps17
      go_wp2_with fail
      refine (gradeSquare_no m A cap zs _ (ints_al (ints_al (ints_al hz _) _) _) H1.out).mono ?_
      rintro e w1 ⟨rfl, hb1⟩
      have hb0 := below_on (below_a3 w _ _ _) hb1
      have pB : Blk w1 (w.heap.size + 1) 30 #[.int .i64 m', .slice A' ys.length cap'] := ((blk_new (by simp)).alloc _).below hb1 (by simp)
      have rA : Blk w1 (w.heap.size + 1 + 1) 30 #[.int .i64 0, .slice none 0 0] := (blk_new (by simp)).below hb1 (by simp)
      have c0 : ∀ o, (w1.alloc o).cell? ⟨w.heap.size + 1, 0, none⟩ = some (.int .i64 m') := fun o => (pB.alloc o).cell 0
      have c1 : ∀ o, (w1.alloc o).cell? ⟨w.heap.size + 1, 1, none⟩ = some (.slice A' ys.length cap') := fun o => (pB.alloc o).cell 1
      have hy1 := (hy.below hb0).more hb0.size
      have RA := Lib.hid rA
      have HB := Lib.hid hb0
      clear hb1 hb0 pB rA hz hy
      go_wp2_with fail
      refine (gradeSquare_no m' A' cap' ys _ (ints_al hy1 _) H2.out).mono ?_
      rintro e w3 ⟨rfl, hb3⟩
      have XB := (Blk.new w1 89 #[.nilFunc, .int .i64 0, .nilFunc, .int .i64 0, .int .i64 0, .slice none 0 0]).below hb3 (Blk.lt (Blk.new _ _ _))
      obtain ⟨R, hR⟩ : ∃ R, R = w.heap.size + 1 + 1 := ⟨_, rfl⟩
      obtain ⟨X, hX⟩ : ∃ X, X = w1.heap.size := ⟨_, rfl⟩
      have hRX : R < X := by rw [hR, hX]; exact Blk.lt RA.out
      have R3 := (RA.out.alloc (.cells #[.nilFunc, .int .i64 0, .nilFunc, .int .i64 0, .int .i64 0, .slice none 0 0] 89)).below hb3 (Blk.lt (RA.out.alloc _))
      have HB3 := Lib.hid (below_on (below_al HB.out (Nat.le_refl _) (.cells #[.nilFunc, .int .i64 0, .nilFunc, .int .i64 0, .int .i64 0, .slice none 0 0] 89)) hb3)
      rw [← hR] at R3 ⊢
      rw [← hX] at XB ⊢
      have hRw : R < w3.heap.size := Blk.lt R3
      have hXw : X < w3.heap.size := Blk.lt XB
      have hRg : w.heap.size ≤ R := by rw [hR]; omega
      have RR := Lib.hid R3
      have d0 : ∀ o, (w3.alloc o).cell? ⟨R, 0, none⟩ = some (.int .i64 0) := fun o => (R3.alloc o).cell 0
      have d1 : ∀ o, (w3.alloc o).cell? ⟨R, 1, none⟩ = some (.slice none 0 0) := fun o => (R3.alloc o).cell 1
      have e0 : ∀ o, (w3.alloc o).frozen? ⟨R, 0, none⟩ = false := fun o => (R3.alloc o).frozen 0
      have e1 : ∀ o, (w3.alloc o).frozen? ⟨R, 1, none⟩ = false := fun o => (R3.alloc o).frozen 1
      obtain ⟨d0', d1'⟩ := two_cells R3
      obtain ⟨e0', e1'⟩ := two_frozen R3
      have hne1 : ¬ R = w3.heap.size := by omega
      clear hb3 R3 XB hR hX c0 c1 hy1
      go_wp2_with fail
      have B2 := ((RR.out.set_ 0 (.int .i64 0)).set_ 1 (.slice none 0 0)).alloc (.cells #[.nilFunc, .int .i64 0, .nilFunc, .int .i64 0, .int .i64 0, .slice none 0 0] 89)
      refine bodyPost_ret (results_2 rfl (gives_mat (g := R) rfl B2) (.tmp rfl)) rfl ?_
      exact MEnd.none_ HR.out (below_al ((HB3.out.setCell (p := ⟨R, 0, none⟩) hRg (.int .i64 0)).setCell (p := ⟨R, 1, none⟩) hRg (.slice none 0 0)) (Nat.le_refl _) _)

/-- The grade of a cost. -/
def gr (c : Int) : Int := if c = 0 then 0 else if c = 1000000 then 3 else 1
def grL (zs : List Int) : List Int := zs.map gr
def gofR (m : Int) (zs : List Int) : Option (Int × List Int) := if matOk m zs = true then some (m, grL zs) else none
theorem grL_len (zs : List Int) : (grL zs).length = zs.length := by simp [grL]
theorem grL_at {zs : List Int} {k : Nat} (hk : k < zs.length) : (grL zs).getD k 0 = gr (zs.getD k 0) := by
  rw [List.getD_eq_getElem?_getD, List.getElem?_eq_getElem (by rw [grL_len]; exact hk), List.getD_eq_getElem?_getD, List.getElem?_eq_getElem hk]
  simp [grL]
theorem cgrade_is (c v : Int) (w : World) (hv : gr c = v) :
    Calls Tryz.prog 34 #[.int .i64 c] w fun e w' => e = .returned (.int .i64 v) ∧ w = w' := by
  by_cases h0 : c = 0
  · subst h0
    have hv' : v = 0 := by rw [← hv]; rfl
    subst hv'
    clear hv
    go_enter Tryz.func34, Tryz.ntmps34
    go_wp2
    go_ret
    exact ⟨rfl, rfl⟩
  · have b0 : (c == 0) = false := by rw [beq_eq_false_iff_ne]; exact h0
    by_cases h1 : c = 1000000
    · subst h1
      have hv' : v = 3 := by rw [← hv]; rfl
      subst hv'
      clear hv h0 b0
      go_enter Tryz.func34, Tryz.ntmps34
      go_wp2
      go_ret
      exact ⟨rfl, rfl⟩
    · have b1 : (c == 1000000) = false := by rw [beq_eq_false_iff_ne]; exact h1
      have hv' : v = 1 := by rw [← hv]; unfold gr; rw [if_neg h0, if_neg h1]
      subst hv'
      clear hv h0 h1
      go_enter Tryz.func34, Tryz.ntmps34
      go_wp2
      go_ret
      exact ⟨rfl, rfl⟩
/-- The program's variable of a new matrix and its numbers, in whichever order they came. -/
def GVar (w1 wx : World) (V G N p : Nat) : Prop := w1.heap.size ≤ V ∧ w1.heap.size ≤ G ∧ ¬ V = G ∧ Blk wx V 30 #[.int .i64 N, .slice (some ⟨G, 0, none⟩) p p] ∧ Nm wx G 3 (List.replicate p 0) ∧ Below w1.heap.size w1 wx
theorem gvar_1 (w1 : World) (N p : Nat) : GVar w1 ((w1.alloc (.cells #[.int .i64 N, .slice (some ⟨w1.heap.size + 1, 0, none⟩) p p] 30)).alloc (.cells (madeCells #[.int .i64 0] p) 3)).drew w1.heap.size (w1.heap.size + 1) N p :=
  ⟨Nat.le_refl _, Nat.le_succ _, by omega, ((Blk.new w1 _ _).alloc _).drewN 1, by show Blk _ _ _ _; rw [← made_zero]; exact (blk_new (by simp)).drewN 1, (below_a2 w1 _ _).drew⟩
theorem gvar_2 (w1 : World) (N p : Nat) : GVar w1 ((w1.alloc (.cells (madeCells #[.int .i64 0] p) 3)).alloc (.cells #[.int .i64 N, .slice (some ⟨w1.heap.size, 0, none⟩) p p] 30)).drew (w1.heap.size + 1) w1.heap.size N p :=
  ⟨Nat.le_succ _, Nat.le_refl _, by omega, (blk_new (by simp)).drewN 1, by show Blk _ _ _ _; rw [← made_zero]; exact ((Blk.new w1 _ _).alloc _).drewN 1, (below_a2 w1 _ _).drew⟩
theorem iGradesOf_any (m : Int) (A : Option Addr) (cap : Nat) (zs : List Int) (w : World) (hz : Ints w w.heap.size A zs) :
    Calls Tryz.prog 14 #[.agg #[.int .i64 m, .slice A zs.length cap]] w fun e w' => MEnd (gofR m zs) w e w' := by
  rcases Bool.eq_false_or_eq_true (matOk m zs) with h1 | h1
  · obtain ⟨N, rfl, mv⟩ := matOk_t h1
    have HR : Hid (gofR (N : Int) zs = some ((N : Int), grL zs)) := by show _ = _; unfold gofR; rw [if_pos h1]
    obtain ⟨p, hp⟩ : ∃ p, p = zs.length := ⟨_, rfl⟩
    have p1 : p ≤ 16 := by rw [hp]; exact mv.few
    have HLP := Lib.hid hp.symm
    have HOK := Lib.hid h1
    have hmk : ∀ w : World, (Instr.makeSlice 23 (.int .i64 (p : Int)) (.int .i64 (p : Int))).run Tryz.prog w = .ok (.slice (some ⟨w.heap.size, 0, none⟩) p p) (w.alloc (.cells (madeCells #[.int .i64 0] p) 3)) :=
      fun w => run_make_row' 23 3 (.int .i64 0) 8 Tryz.underlying23 info_int' rfl .i64 .i64 p (by omega) (by omega) w
    rw [← hp]
    clear mv h1 hp
    go_enter Tryz.func14, Tryz.ntmps14
    go_wp2_with fail
    refine (iMatrixValid_p _ _ _ _ _ _ _ HLP.out (ints_al (ints_al hz _) _) HOK.out).mono ?_
    rintro e w1 ⟨rfl, hb1⟩
    have hb0 := below_on (below_a2 w _ _) hb1
    have pA : Blk w1 w.heap.size 30 #[.int .i64 N, .slice A p cap] := ((Blk.new w _ _).alloc _).below hb1 (by simp; omega)
    have rA : Blk w1 (w.heap.size + 1) 30 #[.int .i64 0, .slice none 0 0] := (blk_new (by simp)).below hb1 (by simp)
    obtain ⟨c0, c1⟩ := two_cells pA
    have hz1 := (hz.below hb0)
    have hw1 : w.heap.size < w1.heap.size := Blk.lt pA
    clear hb1
    go_wp2_with fail
    go_upto_region 4 with fail
    go_cut [4] (fun s wx => ∃ (V G : Nat), s = .pointer (some ⟨V, 0, none⟩) ∧ Hid (GVar w1 wx V G N p))
    case first =>
      go_region
      all_goals (go_wp2_with fail; go_meet)
      all_goals first
        | exact ⟨w1.heap.size, w1.heap.size + 1, rfl, gvar_1 w1 N p⟩
        | exact ⟨w1.heap.size + 1, w1.heap.size, rfl, gvar_2 w1 N p⟩
    case rest =>
      obtain ⟨V, G, rfl, hV⟩ := hcut
      obtain ⟨v1, v2, v3, vb, vq, vw⟩ := hV.out
      have hb3 := below_on hb0 vw
      have pC := pA.below vw hw1
      obtain ⟨a0, a1⟩ := two_cells pC
      have R3 := Lib.hid (rA.below vw (Blk.lt rA))
      have z3 := (hz1.below (vw.mono hb0.size))
      have B3 := Lib.hid hb3
      have VB := Lib.hid vb
      have VQ := Lib.hid vq
      have hRw : w.heap.size + 1 < w1.heap.size := Blk.lt rA
      have hb1s := hb3.size
      obtain ⟨R, hR⟩ : ∃ R, R = w.heap.size + 1 := ⟨_, rfl⟩
      rw [← hR] at R3 hRw ⊢
      have hRg : w.heap.size < R := by omega
      clear hV hb0 vw pA pC rA hb3 vb vq hz1 c0 c1 hR hz hmk
      go_wp2_with fail
      go_loopw [21] (fun i wr => ∃ (k : Nat) (cs : List Int), k ≤ p ∧ i = .int .i64 k ∧ Hid (cs.length = p) ∧ Hid (cs.take k = (grL zs).take k) ∧ Hid (Nm wr G 3 cs) ∧ Hid (wc.grownBy wr (some G))) (fun i _ => p - (intOf i).toNat)
      case atStart => exact ⟨0, List.replicate p 0, Nat.zero_le _, rfl, List.length_replicate, rfl, VQ, World.grownBy.refl _ _⟩
      case round =>
        obtain ⟨k, cs, hk, rfl, hcl, htk, hsq, hg2⟩ := hrel
        by_cases hlt : k < p
        · have hzr := ints_grown z3 hg2.out (by omega) hb1s
          obtain ⟨b, off, z, rfl, _, hc, hd, hgz⟩ := hzr.at_ (k := k) (by have := HLP.out; omega)
          obtain ⟨v, hv⟩ : ∃ v, gr z = v := ⟨_, rfl⟩
          have HV := Lib.hid hv
          have hcell := hsq.out.at_ (k := k) (by have := hcl.out; omega)
          have hfr := hsq.out.fz k
          have Q3 := Lib.hid (hsq.out.set_ k v)
          have G3 := Lib.hid (grown_dr (grow_trans hg2.out (grow_set wr G k (.int .i64 v))) 1)
          have T3 := Lib.hid (set_prefix (z := v) htk.out (by rw [grL_len, HLP.out]; exact hlt) (by rw [grL_len, HLP.out]; exact hcl.out) (by rw [grL_at (by rw [HLP.out]; exact hlt), hgz, hv]))
          have hS0 : wr.drew.cell? ⟨V, 1, none⟩ = some (.slice (some ⟨G, 0, none⟩) p p) := (VB.out.grown hg2.out v3).cell 1
          have i0 : (0 : Int) ≤ (k : Int) := by omega
          have i1 : (k : Int) < (p : Int) := by omega
          clear hd hgz hzr hv
          go_wp2_with fail
          refine wp_region_Z (S := fun w' => w'.cell? ⟨V, 1, none⟩ = some (.slice (some ⟨G, 0, none⟩) p p)) (by kernel_rfl) hS0 (fun hS => ?_)
          clear hS0
          refine wpAnyZ_take (i := 0) (v := ?vb0) rfl (by kernel_rfl) (by kernel_rfl) (by kernel_rfl) (by kernel_rfl) (fun _ _ _ h => h) (Or.inl ⟨by rfl, ?yb0⟩) (by with_reducible assumption) ?rb0
          case yb0 => (intro w hSw; (try dsimp only at hSw); go_simp; (try with_reducible rfl))
          simp only [Act.put, List.setIfInBounds_toArray]
          refine wpAnyZ_take (i := 1) (v := ?vb1) rfl (by kernel_rfl) (by kernel_rfl) (by kernel_rfl) (by kernel_rfl) (fun _ _ _ h => h) (Or.inl ⟨by rfl, ?yb1⟩) (by with_reducible assumption) ?rb1
          case yb1 => (intro w hSw; (try dsimp only at hSw); go_simp; (try with_reducible rfl))
          simp only [Act.put]
          refine wpAnyZ_take (i := 2) (v := ?vb2) rfl (by kernel_rfl) (by kernel_rfl) (by kernel_rfl) (by kernel_rfl) (fun _ _ _ h => h) (Or.inl ⟨by rfl, ?yb2⟩) (by with_reducible assumption) ?rb2
          case yb2 => (intro w hSw; (try dsimp only at hSw); go_simp; (try with_reducible rfl))
          simp only [Act.put]
          refine wpAnyZ_take (i := 3) (v := ?vb3) rfl (by kernel_rfl) (by kernel_rfl) (by kernel_rfl) (by kernel_rfl) (fun _ _ _ h => h) (Or.inl ⟨by rfl, ?yb3⟩) (by with_reducible assumption) ?rb3
          case yb3 => (intro w hSw; (try dsimp only at hSw); go_simp; (try with_reducible rfl))
          simp only [Act.put]
          (try simp only [Act.put])
          refine wpAnyZ_step (i := 4) (by kernel_rfl) rfl ?_
          intro K1 hK1
          go_simp
          refine (cgrade_is z v _ HV.out).mono ?_
          rintro e w4 ⟨rfl, rfl⟩
          refine hK1.out _ _ hS (fun hS1 => ?_)
          clear hK1 hS
          (try simp only [Act.put])
          refine wpAnyZ_take (i := 5) (v := ?vc5) rfl (by kernel_rfl) (by kernel_rfl) (by kernel_rfl) (by kernel_rfl) (fun _ _ _ h => h) (Or.inl ⟨by rfl, ?yc5⟩) (by with_reducible assumption) ?rc5
          case yc5 => (intro w hSw; (try dsimp only at hSw); go_simp; (try with_reducible rfl))
          simp only [Act.put]
          clear hS1
          (try simp only [Act.put])
          refine wpAnyZ_last (i := 6) (by kernel_rfl) rfl (by kernel_rfl) ?_
          intro K4 hK4
          go_simp
          refine hK4.out _ _ ?_
          clear hK4 hcell hfr
          go_wp2_with fail
          go_roundw
          case rel => exact ⟨k + 1, cs.set k v, by omega, by go_num, by show _ = _; rw [List.length_set]; exact hcl.out, T3.out, Q3.out, G3.out⟩
          case measure => simp [intOf]; omega
        · have hrr := R3.out.grown hg2.out (by omega)
          have hvr := VB.out.grown hg2.out v3
          obtain ⟨a0, a1⟩ := two_cells hvr
          obtain ⟨d0, d1⟩ := two_cells hrr
          obtain ⟨f0, f1⟩ := two_frozen hrr
          have HRR := Lib.hid ((hrr.set_ 0 (.int .i64 N)).set_ 1 (.slice (some ⟨G, 0, none⟩) p p))
          have GR := Lib.hid (grow_trans (grow_set wr R 0 (.int .i64 N)) (grow_set _ R 1 (.slice (some ⟨G, 0, none⟩) p p)))
          have HZS : Hid (cs = grL zs) := by
            have h1 := htk.out
            have h2 := hcl.out
            have h3 := HLP.out
            show _ = _
            rwa [List.take_of_length_le (by omega), List.take_of_length_le (by rw [grL_len]; omega)] at h1
          clear hrr hvr
          go_wp2_with fail
          refine bodyPost_ret (results_2 rfl (gives_mat (g := R) rfl HRR.out) (.tmp rfl)) rfl ?_
          refine MEnd.some_ HR.out ⟨_, rfl, ?_, by rw [grL_len, HLP.out]; omega⟩ ?_
          · have h := Nm.own (base := w.heap.size) (show Nm _ _ _ _ from Blk.grown hsq.out GR.out (by omega)) (by omega) (by have := hcl.out; omega)
            rw [hcl.out, HZS.out] at h
            rw [grL_len, HLP.out]
            exact h
          · exact (B3.out.grown hg2.out B3.out.size (fun j hj => by cases hj; omega)).grown GR.out (by have := hg2.out.size; have := B3.out.size; omega) (fun j hj => by cases hj; omega)
  · have HR : Hid (gofR m zs = none) := by show _ = _; unfold gofR; rw [if_neg (by rw [h1]; decide)]
    have HOK := Lib.hid h1
    clear h1
    go_enter Tryz.func14, Tryz.ntmps14
    go_wp2_with fail
    refine (iMatrixValid_is _ _ _ _ _ _ (ints_al (ints_al hz _) _) HOK.out).mono ?_
    rintro e w1 ⟨rfl, hb1⟩
    have hb0 := below_on (below_a2 w _ _) hb1
    have rA : Blk w1 (w.heap.size + 1) 30 #[.int .i64 0, .slice none 0 0] := (blk_new (by simp)).below hb1 (by simp)
    obtain ⟨c0, c1⟩ := two_cells rA
    obtain ⟨f0, f1⟩ := two_frozen rA
    have RA := Lib.hid rA
    have HB := Lib.hid hb0
    clear hb1 hb0 rA
    go_wp2_with fail
    refine bodyPost_ret (results_2 rfl (gives_mat (g := w.heap.size + 1) rfl ((RA.out.set_ 0 _).set_ 1 _)) (.tmp rfl)) rfl ?_
    exact MEnd.none_ HR.out ((HB.out.setCell (p := ⟨_, 0, none⟩) (Nat.le_succ _) _).setCell (p := ⟨_, 1, none⟩) (Nat.le_succ _) _)

end Go.Proofs.YtjhaegkefagngaaGreatDoor
