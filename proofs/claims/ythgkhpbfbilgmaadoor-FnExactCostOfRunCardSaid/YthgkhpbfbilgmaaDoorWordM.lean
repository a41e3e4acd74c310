/- WordMatrix, the program's and the model's: the product of the letters' matrices, in new memory; nothing that was there changes. Condition: the text is no longer than a length. -/
import Derived.Test.YthgkhpbfbilgmaaDoorWordMS
import Derived.Test.YthgkhpbfbilgmaaDoorReader
import Derived.Test.YthgkhpbfbilgmaaDoorStepI
namespace Go.Proofs.YthgkhpbfbilgmaaDoor
open Go.RowKit
set_option maxHeartbeats 4000000
set_option maxRecDepth 100000
set_option linter.unusedVariables false

def wordR (m : Int) (xs ys : List Int) (ss : List StepD) (l : ByteArray) : Option (Int × List Int) := if autoOk m xs ys ss = true ∧ wordOk l = true then some (m, prodL m.toNat ss l.data.toList) else none
theorem wordR_some {n : Nat} {xs ys : List Int} {ss : List StepD} {l : ByteArray} (h : autoOk n xs ys ss = true) (hl : wordOk l = true) : wordR n xs ys ss l = some ((n : Int), prodL n ss l.data.toList) := by
  unfold wordR; rw [if_pos ⟨h, hl⟩]; rfl
theorem wordR_none {m : Int} {xs ys : List Int} {ss : List StepD} {l : ByteArray} (h : (autoOk m xs ys ss && wordOk l) = false) : wordR m xs ys ss l = none := by
  unfold wordR; rw [if_neg (by rintro ⟨h1, h2⟩; rw [h1, h2] at h; cases h)]
theorem wordOk_in {l : ByteArray} (h : wordOk l = true) : l.size ≤ 1000 ∧ l.data.toList.all isAB = true := by
  unfold wordOk at h
  rw [Bool.and_eq_true, decide_eq_true_eq] at h
  exact h

theorem iWordMatrix_any (m : Int) (A1 A2 A3 : Option Addr) (c1 c2 c3 : Nat) (xs ys : List Int) (ss : List StepD) (l : ByteArray) (hll : l.size ≤ maxLen) (w : World) (hx : Ints w w.heap.size A1 xs) (hy : Ints w w.heap.size A2 ys) (hs : SRow w w.heap.size A3 ss) :
    Calls Tryd.prog 14 #[.agg #[.int .i64 m, .slice A1 xs.length c1, .slice A2 ys.length c2, .slice A3 ss.length c3], .string l] w fun e w' => MEnd (wordR m xs ys ss l) w e w' := by
  have hl9 : l.size ≤ 9223372036854775807 := by unfold maxLen at hll; omega
  have HX0 := Lib.hid (ints_al (ints_al hx (.cells #[.int .i64 m, .slice A1 xs.length c1, .slice A2 ys.length c2, .slice A3 ss.length c3] 34)) (.cells #[.int .i64 0, .slice none 0 0] 29))
  have HY0 := Lib.hid (ints_al (ints_al hy (.cells #[.int .i64 m, .slice A1 xs.length c1, .slice A2 ys.length c2, .slice A3 ss.length c3] 34)) (.cells #[.int .i64 0, .slice none 0 0] 29))
  have HS := Lib.hid ((hs.al (.cells #[.int .i64 m, .slice A1 xs.length c1, .slice A2 ys.length c2, .slice A3 ss.length c3] 34)).al (.cells #[.int .i64 0, .slice none 0 0] 29))
  clear hx hy hs
  obtain ⟨b, hb⟩ : ∃ b, (autoOk m xs ys ss && wordOk l) = b := ⟨_, rfl⟩
  cases b
  · have HOK := Lib.hid hb
    have HR := Lib.hid (wordR_none hb)
    clear hb
    go_enter Tryd.func14, Tryd.ntmps14
    go_wp2_with fail
    refine (readerOf_no _ _ _ _ _ _ _ _ _ _ _ _ hl9 HX0.out HY0.out HS.out HOK.out).mono ?_
    rintro e w1 ⟨rfl, hb1⟩
    have B1 := Lib.hid (below_on (below_a2 w _ _) hb1.out)
    have R1 : Hid (Blk w1 (w.heap.size + 1) 29 #[.int .i64 0, .slice none 0 0]) := (blk_new (by simp)).below hb1.out (by simp)
    have hw1 := Blk.lt R1.out
    clear hb1 HX0 HY0 HS
    obtain ⟨d0, d1⟩ := two_cells R1.out
    obtain ⟨f0, f1⟩ := two_frozen R1.out
    go_wp2_with fail
    have HF := ((R1.out.set_ 0 (.int .i64 0)).set_ 1 (.slice none 0 0)).alloc (.cells #[.int .i64 0, .bool false, .bool false, .bool false, .bool false, .bool false, .bool false, .bool false, .bool false, .map none] 58)
    refine bodyPost_ret (results_2 rfl (gives_mat (g := w.heap.size + 1) rfl HF) (Gives.tmp rfl)) rfl ?_
    exact MEnd.none_ HR.out (below_al ((B1.out.setCell (p := ⟨_, 0, none⟩) (Nat.le_succ _) _).setCell (p := ⟨_, 1, none⟩) (Nat.le_succ _) _) (Nat.le_refl _) _)
  · rw [Bool.and_eq_true] at hb
    obtain ⟨hok, hwk⟩ := hb
    obtain ⟨n, rfl, n1, n2, _, _, _, hsi⟩ := auto_in hok
    obtain ⟨hl1, hl2⟩ := wordOk_in hwk
    obtain ⟨p, hp⟩ : ∃ p, p = n * n := ⟨_, rfl⟩
    have p1 : p ≤ 16 := by
      rw [hp]
      calc n * n ≤ 4 * 4 := Nat.mul_le_mul n2 n2
        _ = 16 := rfl
    have HP := Lib.hid hp
    have HR := Lib.hid (wordR_some hok hwk)
    have HOK := Lib.hid hok
    have HWK := Lib.hid hwk
    have HSI := Lib.hid hsi
    have HL2 := Lib.hid hl2
    clear hok hwk hsi hl2 hp
    go_enter Tryd.func14, Tryd.ntmps14
    go_wp2_with fail
    refine (readerOf_ok _ _ _ _ _ _ _ _ _ _ _ _ hl9 HX0.out HY0.out HS.out HOK.out HWK.out).mono ?_
    rintro e w1 ⟨M, rfl, hM, hmap, hb1⟩
    have B1 := Lib.hid (below_on (below_a2 w _ _) hb1.out)
    have R1 : Hid (Blk w1 (w.heap.size + 1) 29 #[.int .i64 0, .slice none 0 0]) := (blk_new (by simp)).below hb1.out (by simp)
    clear hb1 HX0 HY0 HS
    have hw1 := Blk.lt R1.out
    have R2 := Lib.hid (R1.out.alloc (.cells #[.int .i64 n, .bool (hasB xs 0), .bool (hasB xs 1), .bool (hasB xs 2), .bool (hasB xs 3), .bool (hasB ys 0), .bool (hasB ys 1), .bool (hasB ys 2), .bool (hasB ys 3), .map (some M)] 58))
    have B2 := Lib.hid (below_al B1.out (Nat.le_refl _) (.cells #[.int .i64 n, .bool (hasB xs 0), .bool (hasB xs 1), .bool (hasB xs 2), .bool (hasB xs 3), .bool (hasB ys 0), .bool (hasB ys 1), .bool (hasB ys 2), .bool (hasB ys 3), .map (some M)] 58))
    have M2 := Lib.hid (hmap.out.kept (World.grownBy_alloc w1 (.cells #[.int .i64 n, .bool (hasB xs 0), .bool (hasB xs 1), .bool (hasB xs 2), .bool (hasB xs 3), .bool (hasB ys 0), .bool (hasB ys 1), .bool (hasB ys 2), .bool (hasB ys 3), .map (some M)] 58) none) (by simp))
    clear hmap hM
    go_wp2_with fail
    refine (product_any n p M _ _ _ _ _ _ _ _ _ ss l _ n1 n2 HP.out HSI.out hl1 HL2.out M2.out).mono ?_
    rintro e w3 ⟨g, rfl, hb3, hg3, hq3⟩
    have R3 := Lib.hid (blk_b R2.out hb3)
    have B3 := Lib.hid (below_on B2.out hb3)
    have HPL : Hid (p = (prodL n ss l.data.toList).length) := by show _ = _; rw [(prodL_ok n1 n2 HSI.out l.data.toList).len, HP.out]
    have Q3 := Lib.hid hq3
    clear hb3 hg3 hq3 R1 B1 R2 B2 M2
    go_wp2_with fail
    refine (matrix_any n p g _ _ HPL p1 Q3.out).mono ?_
    rintro e w4 ⟨_, rfl, ⟨x, rfl, hox, hlx⟩, hb4⟩
    obtain ⟨A, cap, rfl, _, _⟩ := own_ints hox (by unfold maxLen; omega)
    have R4 := Lib.hid (blk_b R3.out hb4)
    have B4 := Lib.hid (below_on B3.out hb4)
    have O4 := Lib.hid (own_base hox (show w.heap.size ≤ _ from B3.out.size))
    clear hb4 hox
    obtain ⟨d0, d1⟩ := two_cells R4.out
    obtain ⟨f0, f1⟩ := two_frozen R4.out
    go_wp2_with fail
    have HF := (R4.out.set_ 0 (.int .i64 n)).set_ 1 (.slice A (prodL n ss l.data.toList).length cap)
    refine bodyPost_ret (results_2 rfl (gives_mat (g := w.heap.size + 1) rfl HF) (Gives.tmp rfl)) rfl ?_
    exact MEnd.some_ HR.out (mat_set (n := 0) ⟨_, rfl, O4.out, hlx⟩ R4.out _ _) ((B4.out.setCell (p := ⟨_, 0, none⟩) (Nat.le_succ _) _).setCell (p := ⟨_, 1, none⟩) (Nat.le_succ _) _)

theorem l4Asked_is (m : Int) (A1 A2 A3 : Option Addr) (c1 c2 c3 : Nat) (xs ys : List Int) (ss : List StepD) (l : ByteArray) (b : Bool) (w : World) (hl9 : l.size ≤ 9223372036854775807) (hx : Ints w w.heap.size A1 xs) (hy : Ints w w.heap.size A2 ys) (hs : SRow w w.heap.size A3 ss) (hb : (autoOk m xs ys ss && wordOk l) = b) :
    Calls Tryd.prog 35 #[.agg #[.int .i64 m, .slice A1 xs.length c1, .slice A2 ys.length c2, .slice A3 ss.length c3], .string l] w fun e w' => e = .returned (.bool b) ∧ Hid (Below w.heap.size w w') := by
  have HX0 := Lib.hid (ints_al hx (.cells #[.int .i64 m, .slice A1 xs.length c1, .slice A2 ys.length c2, .slice A3 ss.length c3] 34))
  have HY0 := Lib.hid (ints_al hy (.cells #[.int .i64 m, .slice A1 xs.length c1, .slice A2 ys.length c2, .slice A3 ss.length c3] 34))
  have HS := Lib.hid (hs.al (.cells #[.int .i64 m, .slice A1 xs.length c1, .slice A2 ys.length c2, .slice A3 ss.length c3] 34))
  have HB := Lib.hid hb
  obtain ⟨b1, h1⟩ : ∃ b1, autoOk m xs ys ss = b1 := ⟨_, rfl⟩
  obtain ⟨b2, h2⟩ : ∃ b2, wordOk l = b2 := ⟨_, rfl⟩
  have H1 := Lib.hid h1
  have H2 := Lib.hid h2
  rw [h1, h2] at hb
  have HBB := Lib.hid hb
  clear hx hy hs hb h1 h2
  go_enter Tryd.func35, Tryd.ntmps35
  go_wp2_with fail
  refine (sAutomatonValid_is _ _ _ _ _ _ _ _ _ _ b1 _ HX0.out HY0.out HS.out H1.out).mono ?_
  rintro e w1 ⟨rfl, hb1⟩
  have B1 := Lib.hid (below_on (below_a1 w _) hb1.out)
  clear hb1 HX0 HY0 HS
  cases b1
  · have e : b = false := by rw [← HBB.out]; rfl
    subst e
    go_wp2_with fail
    go_ret
    exact ⟨rfl, B1⟩
  · have e : b = b2 := by rw [← HBB.out]; rfl
    subst e
    go_wp2_with fail
    refine (sWordValid_is l b _ hl9 H2.out).mono ?_
    rintro e w' ⟨rfl, rfl⟩
    go_wp2_with fail
    go_ret
    exact ⟨rfl, B1⟩

theorem sWordMatrix_any (m : Int) (A1 A2 A3 : Option Addr) (c1 c2 c3 : Nat) (xs ys : List Int) (ss : List StepD) (l : ByteArray) (hll : l.size ≤ maxLen) (w : World) (hx : Ints w w.heap.size A1 xs) (hy : Ints w w.heap.size A2 ys) (hs : SRow w w.heap.size A3 ss) :
    Calls Tryd.prog 12 #[.agg #[.int .i64 m, .slice A1 xs.length c1, .slice A2 ys.length c2, .slice A3 ss.length c3], .string l] w fun e w' => MEnd (wordR m xs ys ss l) w e w' := by
  have hl9 : l.size ≤ 9223372036854775807 := by unfold maxLen at hll; omega
  have HX0 := Lib.hid (ints_al (ints_al hx (.cells #[.int .i64 m, .slice A1 xs.length c1, .slice A2 ys.length c2, .slice A3 ss.length c3] 34)) (.cells #[.int .i64 0, .slice none 0 0] 29))
  have HY0 := Lib.hid (ints_al (ints_al hy (.cells #[.int .i64 m, .slice A1 xs.length c1, .slice A2 ys.length c2, .slice A3 ss.length c3] 34)) (.cells #[.int .i64 0, .slice none 0 0] 29))
  have HS := Lib.hid ((hs.al (.cells #[.int .i64 m, .slice A1 xs.length c1, .slice A2 ys.length c2, .slice A3 ss.length c3] 34)).al (.cells #[.int .i64 0, .slice none 0 0] 29))
  clear hx hy hs
  obtain ⟨b, hb⟩ : ∃ b, (autoOk m xs ys ss && wordOk l) = b := ⟨_, rfl⟩
  have HOK := Lib.hid hb
  go_enter Tryd.func12, Tryd.ntmps12
  go_wp2_with fail
  refine (l4Asked_is _ _ _ _ _ _ _ _ _ _ _ b _ hl9 HX0.out HY0.out HS.out HOK.out).mono ?_
  rintro e w1 ⟨rfl, hb1⟩
  have B1 := Lib.hid (below_on (below_a2 w _ _) hb1.out)
  have P1 : Hid (Blk w1 w.heap.size 34 #[.int .i64 m, .slice A1 xs.length c1, .slice A2 ys.length c2, .slice A3 ss.length c3]) := ((Blk.new w _ _).alloc _).below hb1.out (by simp; omega)
  have R1 : Hid (Blk w1 (w.heap.size + 1) 29 #[.int .i64 0, .slice none 0 0]) := (blk_new (by simp)).below hb1.out (by simp)
  have S1 := Lib.hid (HS.out.on hb1.out)
  clear hb1 HX0 HY0 HS
  cases b
  · have HR := Lib.hid (wordR_none hb)
    clear hb
    obtain ⟨d0, d1⟩ := two_cells R1.out
    obtain ⟨f0, f1⟩ := two_frozen R1.out
    go_wp2_with fail
    have HF := (R1.out.set_ 0 (.int .i64 0)).set_ 1 (.slice none 0 0)
    refine bodyPost_ret (results_2 rfl (gives_mat (g := w.heap.size + 1) rfl HF) (Gives.tmp rfl)) rfl ?_
    exact MEnd.none_ HR.out ((B1.out.setCell (p := ⟨_, 0, none⟩) (Nat.le_succ _) _).setCell (p := ⟨_, 1, none⟩) (Nat.le_succ _) _)
  · rw [Bool.and_eq_true] at hb
    obtain ⟨hok, hwk⟩ := hb
    obtain ⟨n, rfl, n1, n2, _, _, _, hsi⟩ := auto_in hok
    obtain ⟨hl1, hl2⟩ := wordOk_in hwk
    have HR := Lib.hid (wordR_some hok hwk)
    have HSI := Lib.hid hsi
    have HL2 := Lib.hid hl2
    clear hok hwk hsi hl2
    obtain ⟨k0, k1, k2, k3⟩ := four_cells P1.out
    go_wp2_with fail
    refine (l4Matrix_any n _ _ _ _ _ _ _ _ ss l _ n1 n2 S1.out HSI.out hl1 HL2.out).mono ?_
    rintro e w3 ⟨_, rfl, ⟨x, rfl, hox, hlx⟩, hb3⟩
    obtain ⟨A, cap, rfl, _, _⟩ := own_ints hox (by unfold maxLen; omega)
    have R3 := Lib.hid (blk_b R1.out hb3)
    have B3 := Lib.hid (below_on B1.out hb3)
    have O3 := Lib.hid (own_base hox (show w.heap.size ≤ _ from B1.out.size))
    clear hb3 hox k0 k1 k2 k3 P1
    obtain ⟨d0, d1⟩ := two_cells R3.out
    obtain ⟨f0, f1⟩ := two_frozen R3.out
    go_wp2_with fail
    have HF := (R3.out.set_ 0 (.int .i64 n)).set_ 1 (.slice A (prodL n ss l.data.toList).length cap)
    refine bodyPost_ret (results_2 rfl (gives_mat (g := w.heap.size + 1) rfl HF) (Gives.tmp rfl)) rfl ?_
    exact MEnd.some_ HR.out (mat_set (n := 0) ⟨_, rfl, O3.out, hlx⟩ R3.out _ _) ((B3.out.setCell (p := ⟨_, 0, none⟩) (Nat.le_succ _) _).setCell (p := ⟨_, 1, none⟩) (Nat.le_succ _) _)
end Go.Proofs.YthgkhpbfbilgmaaDoor
