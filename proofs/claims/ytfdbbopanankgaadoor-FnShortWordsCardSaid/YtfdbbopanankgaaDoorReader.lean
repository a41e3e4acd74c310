/- WordValid, the program's and the model's: the plain test of the bytes; nothing that was there changes. Condition: the text is no longer than a length. An automaton that is to read a word, as the program's machine, and whether both are valid; in new memory; nothing that was there changes. Condition: the text is no longer than a length. -/
import Derived.Test.YtfdbbopanankgaaDoorWordT
import Derived.Test.YtfdbbopanankgaaDoorShelf
import Derived.Shelf.Strings.SlTrimAscii
import Derived.Test.YtfdbbopanankgaaDoorMach2
namespace Go.Proofs.YtfdbbopanankgaaDoor
open Go.RowKit Go.Shelf
set_option maxHeartbeats 1000000
set_option maxRecDepth 100000
set_option linter.unusedVariables false

theorem trim_ab (s : ByteArray) (w : World) (hs : s.size ≤ 9223372036854775807) :
    Calls Tryd.prog 55 #[.string s, .string ⟨#[97, 98]⟩] w fun e w' => e = .returned (.string ⟨(Lib.trimS s.data.toList [97, 98]).toArray⟩) ∧ Below w.heap.size w w' := by
  have h := Any.strings_Trim_laid Tryd.lays160 (by kernel_rfl) s ⟨#[97, 98]⟩ w hs (by decide) (ascii_of_all (by decide))
  exact h
theorem iWordValid_is (s : ByteArray) (r : Bool) (w : World) (hs : s.size ≤ 9223372036854775807) (hr : wordOk s = r) :
    Calls Tryd.prog 39 #[.string s] w fun e w' => e = .returned (.bool r) ∧ Hid (Below w.heap.size w w') := by
  have HR := Lib.hid hr
  have HT := Lib.hid (trim_is s)
  clear hr
  obtain ⟨b, hb⟩ : ∃ b, s.data.toList.all isAB = b := ⟨_, rfl⟩
  have HB := Lib.hid hb
  clear hb
  by_cases h1 : s.size ≤ 1000
  · have e : r = b := by rw [← HR.out]; unfold wordOk; rw [HB.out, decide_eq_true h1]; rfl
    have HE := Lib.hid e
    have h1' : (s.size : Int) ≤ 1000 := by omega
    have ht' := HT.out
    rw [HB.out] at ht'
    have HTT := Lib.hid ht'
    clear ht'
    clear e
    go_enter Tryd.func39, Tryd.ntmps39
    go_wp2_with (go_at_call 55; refine (trim_ab s _ hs).mono ?_; rintro e w1 ⟨rfl, hb1⟩)
    go_ret
    exact ⟨ret_bool (HTT.out.trans HE.out.symm), hb1⟩
  · have e : r = false := by rw [← HR.out]; unfold wordOk; rw [decide_eq_false h1]; rfl
    subst e
    have h1' : ¬ (s.size : Int) ≤ 1000 := by omega
    go_enter Tryd.func39, Tryd.ntmps39
    go_wp2_with fail
    go_ret
    exact ⟨rfl, Below.refl _ _⟩
end Go.Proofs.YtfdbbopanankgaaDoor
namespace Go.Proofs.YtfdbbopanankgaaDoor
open Go.RowKit
set_option maxHeartbeats 4000000
set_option maxRecDepth 100000
set_option linter.unusedVariables false

theorem readerOf_no (m : Int) (A1 A2 A3 : Option Addr) (c1 c2 c3 : Nat) (xs ys : List Int) (ss : List StepD) (l : ByteArray) (w : World) (hll : l.size ≤ 9223372036854775807) (hx : Ints w w.heap.size A1 xs) (hy : Ints w w.heap.size A2 ys) (hs : SRow w w.heap.size A3 ss) (hok : (autoOk m xs ys ss && wordOk l) = false) :
    Calls Tryd.prog 24 #[.agg #[.int .i64 m, .slice A1 xs.length c1, .slice A2 ys.length c2, .slice A3 ss.length c3], .string l] w fun e w' => e = .returned (.tuple #[.agg #[.int .i64 0, .bool false, .bool false, .bool false, .bool false, .bool false, .bool false, .bool false, .bool false, .map none], .bool false]) ∧ Hid (Below w.heap.size w w') := by
  have HX0 := Lib.hid (ints_al (ints_al hx (.cells #[.int .i64 m, .slice A1 xs.length c1, .slice A2 ys.length c2, .slice A3 ss.length c3] 26)) (.cells #[.int .i64 0, .bool false, .bool false, .bool false, .bool false, .bool false, .bool false, .bool false, .bool false, .map none] 45))
  have HY0 := Lib.hid (ints_al (ints_al hy (.cells #[.int .i64 m, .slice A1 xs.length c1, .slice A2 ys.length c2, .slice A3 ss.length c3] 26)) (.cells #[.int .i64 0, .bool false, .bool false, .bool false, .bool false, .bool false, .bool false, .bool false, .bool false, .map none] 45))
  have HS := Lib.hid ((hs.al (.cells #[.int .i64 m, .slice A1 xs.length c1, .slice A2 ys.length c2, .slice A3 ss.length c3] 26)).al (.cells #[.int .i64 0, .bool false, .bool false, .bool false, .bool false, .bool false, .bool false, .bool false, .bool false, .map none] 45))
  clear hx hy hs
  obtain ⟨ok, hok'⟩ : ∃ b, autoOk m xs ys ss = b := ⟨_, rfl⟩
  rw [hok'] at hok
  have HOK := Lib.hid hok'
  have HWK := Lib.hid hok
  clear hok hok'
  cases ok
  · clear HWK
    go_enter Tryd.func24, Tryd.ntmps24
    go_wp2_with fail
    refine (machineOf_no _ _ _ _ _ _ _ _ _ _ _ HX0.out HY0.out HS.out HOK.out).mono ?_
    rintro e w1 ⟨rfl, hb1⟩
    have B1 := Lib.hid (below_on (below_a2 w _ _) hb1.out)
    have R1 : Hid (Blk w1 (w.heap.size + 1) 45 #[.int .i64 0, .bool false, .bool false, .bool false, .bool false, .bool false, .bool false, .bool false, .bool false, .map none]) := (blk_new (by simp)).below hb1.out (by simp)
    have hw1 := Blk.lt R1.out
    clear hb1 HX0 HY0 HS
    go_upto_region 3 with fail
    obtain ⟨w2, hw2⟩ : ∃ w2, w2 = w1.alloc (.cells #[.int .i64 0, .bool false, .bool false, .bool false, .bool false, .bool false, .bool false, .bool false, .bool false, .map none] 45) := ⟨_, rfl⟩
    have R2 : Hid (Blk w2 (w.heap.size + 1) 45 #[.int .i64 0, .bool false, .bool false, .bool false, .bool false, .bool false, .bool false, .bool false, .bool false, .map none]) := by rw [hw2]; exact R1.out.alloc _
    have B2 : Hid (Below w.heap.size w w2) := by rw [hw2]; exact below_al B1.out (Nat.le_refl _) _
    rw [← hw2]
    clear hw2 R1 B1 hw1
    obtain ⟨d0, d1, d2, d3, d4, d5, d6, d7, d8, d9⟩ := ten_cells R2.out
    obtain ⟨f0, f1, f2, f3, f4, f5, f6, f7, f8, f9⟩ := ten_frozen R2.out
    go_wp2_with fail
    have HF := ten_blk R2.out (.int .i64 0) (.bool false) (.bool false) (.bool false) (.bool false) (.bool false) (.bool false) (.bool false) (.bool false) (.map none)
    have HG := ten_grow w2 (w.heap.size + 1) (.int .i64 0) (.bool false) (.bool false) (.bool false) (.bool false) (.bool false) (.bool false) (.bool false) (.bool false) (.map none)
    refine bodyPost_ret (results_2 rfl (gives_mach (g := w.heap.size + 1) rfl HF) (Gives.tmp rfl)) rfl ?_
    exact ⟨rfl, B2.out.grown HG B2.out.size (fun j hj => by cases hj; omega)⟩
  · have HW : Hid (wordOk l = false) := by have h := HWK.out; rwa [Bool.true_and] at h
    clear HWK
    go_enter Tryd.func24, Tryd.ntmps24
    go_wp2_with fail
    refine (machineOf_ok _ _ _ _ _ _ _ _ _ _ _ HX0.out HY0.out HS.out HOK.out).mono ?_
    rintro e w1 ⟨M, rfl, hM, _, hb1⟩
    have B1 := Lib.hid (below_on (below_a2 w _ _) hb1.out)
    have R1 : Hid (Blk w1 (w.heap.size + 1) 45 #[.int .i64 0, .bool false, .bool false, .bool false, .bool false, .bool false, .bool false, .bool false, .bool false, .map none]) := (blk_new (by simp)).below hb1.out (by simp)
    have hw1 := Blk.lt R1.out
    clear hb1 HX0 HY0 HS hM
    go_wp2_with fail
    refine (iWordValid_is _ false _ hll HW.out).mono ?_
    rintro e w2 ⟨rfl, hb2⟩
    have R2 := Lib.hid (blk_b (R1.out.alloc _) hb2.out)
    have B2 := Lib.hid (below_on (below_al B1.out (Nat.le_refl _) _) hb2.out)
    have hw2 := Blk.lt R2.out
    clear hb2 R1 B1 hw1
    obtain ⟨d0, d1, d2, d3, d4, d5, d6, d7, d8, d9⟩ := ten_cells R2.out
    obtain ⟨f0, f1, f2, f3, f4, f5, f6, f7, f8, f9⟩ := ten_frozen R2.out
    go_wp2_with fail
    have HF := ten_blk R2.out (.int .i64 0) (.bool false) (.bool false) (.bool false) (.bool false) (.bool false) (.bool false) (.bool false) (.bool false) (.map none)
    have HG := ten_grow w2 (w.heap.size + 1) (.int .i64 0) (.bool false) (.bool false) (.bool false) (.bool false) (.bool false) (.bool false) (.bool false) (.bool false) (.map none)
    refine bodyPost_ret (results_2 rfl (gives_mach (g := w.heap.size + 1) rfl HF) (Gives.tmp rfl)) rfl ?_
    exact ⟨rfl, B2.out.grown HG B2.out.size (fun j hj => by cases hj; omega)⟩

theorem readerOf_ok (m : Int) (A1 A2 A3 : Option Addr) (c1 c2 c3 : Nat) (xs ys : List Int) (ss : List StepD) (l : ByteArray) (w : World) (hll : l.size ≤ 9223372036854775807) (hx : Ints w w.heap.size A1 xs) (hy : Ints w w.heap.size A2 ys) (hs : SRow w w.heap.size A3 ss) (hok : autoOk m xs ys ss = true) (hwk : wordOk l = true) :
    Calls Tryd.prog 24 #[.agg #[.int .i64 m, .slice A1 xs.length c1, .slice A2 ys.length c2, .slice A3 ss.length c3], .string l] w fun e w' => MachEnd m xs ys ss w e w' := by
  have HX0 := Lib.hid (ints_al (ints_al hx (.cells #[.int .i64 m, .slice A1 xs.length c1, .slice A2 ys.length c2, .slice A3 ss.length c3] 26)) (.cells #[.int .i64 0, .bool false, .bool false, .bool false, .bool false, .bool false, .bool false, .bool false, .bool false, .map none] 45))
  have HY0 := Lib.hid (ints_al (ints_al hy (.cells #[.int .i64 m, .slice A1 xs.length c1, .slice A2 ys.length c2, .slice A3 ss.length c3] 26)) (.cells #[.int .i64 0, .bool false, .bool false, .bool false, .bool false, .bool false, .bool false, .bool false, .bool false, .map none] 45))
  have HS := Lib.hid ((hs.al (.cells #[.int .i64 m, .slice A1 xs.length c1, .slice A2 ys.length c2, .slice A3 ss.length c3] 26)).al (.cells #[.int .i64 0, .bool false, .bool false, .bool false, .bool false, .bool false, .bool false, .bool false, .bool false, .map none] 45))
  have HOK := Lib.hid hok
  have HW := Lib.hid hwk
  clear hx hy hs hok hwk
  go_enter Tryd.func24, Tryd.ntmps24
  go_wp2_with fail
  refine (machineOf_ok _ _ _ _ _ _ _ _ _ _ _ HX0.out HY0.out HS.out HOK.out).mono ?_
  rintro e w1 ⟨M, rfl, hM, hmap, hb1⟩
  have B1 := Lib.hid (below_on (below_a2 w _ _) hb1.out)
  have R1 : Hid (Blk w1 (w.heap.size + 1) 45 #[.int .i64 0, .bool false, .bool false, .bool false, .bool false, .bool false, .bool false, .bool false, .bool false, .map none]) := (blk_new (by simp)).below hb1.out (by simp)
  have hMw : w.heap.size + 1 < M := by simp at hM; omega
  have hw1 := Blk.lt R1.out
  clear hb1 HX0 HY0 HS hM
  go_wp2_with fail
  refine (iWordValid_is _ true _ hll HW.out).mono ?_
  rintro e w2 ⟨rfl, hb2⟩
  have R2 := Lib.hid (blk_b (R1.out.alloc (.cells #[.int .i64 m, .bool (hasB xs 0), .bool (hasB xs 1), .bool (hasB xs 2), .bool (hasB xs 3), .bool (hasB ys 0), .bool (hasB ys 1), .bool (hasB ys 2), .bool (hasB ys 3), .map (some M)] 45)) hb2.out)
  have B2 := Lib.hid (below_on (below_al B1.out (Nat.le_refl _) (.cells #[.int .i64 m, .bool (hasB xs 0), .bool (hasB xs 1), .bool (hasB xs 2), .bool (hasB xs 3), .bool (hasB ys 0), .bool (hasB ys 1), .bool (hasB ys 2), .bool (hasB ys 3), .map (some M)] 45)) hb2.out)
  have P2 := Lib.hid (blk_b (Blk.new w1 45 #[.int .i64 m, .bool (hasB xs 0), .bool (hasB xs 1), .bool (hasB xs 2), .bool (hasB xs 3), .bool (hasB ys 0), .bool (hasB ys 1), .bool (hasB ys 2), .bool (hasB ys 3), .map (some M)]) hb2.out)
  have C2 := Lib.hid ((hmap.out.kept (World.grownBy_alloc w1 (.cells #[.int .i64 m, .bool (hasB xs 0), .bool (hasB xs 1), .bool (hasB xs 2), .bool (hasB xs 3), .bool (hasB ys 0), .bool (hasB ys 1), .bool (hasB ys 2), .bool (hasB ys 3), .map (some M)] 45) none) (by simp)).below hb2.out)
  have hw2 := Blk.lt R2.out
  have hne : ¬ w1.heap.size = w.heap.size + 1 := by omega
  obtain ⟨P, hP⟩ : ∃ P, P = w1.heap.size := ⟨_, rfl⟩
  rw [← hP] at P2 hne ⊢
  clear hb2 R1 B1 hw1 hmap hP
  obtain ⟨p0, p1, p2, p3, p4, p5, p6, p7, p8, p9⟩ := ten_cells P2.out
  obtain ⟨d0, d1, d2, d3, d4, d5, d6, d7, d8, d9⟩ := ten_cells R2.out
  obtain ⟨f0, f1, f2, f3, f4, f5, f6, f7, f8, f9⟩ := ten_frozen R2.out
  go_wp2_with fail
  have HF := ten_blk R2.out (.int .i64 m) (.bool (hasB xs 0)) (.bool (hasB xs 1)) (.bool (hasB xs 2)) (.bool (hasB xs 3)) (.bool (hasB ys 0)) (.bool (hasB ys 1)) (.bool (hasB ys 2)) (.bool (hasB ys 3)) (.map (some M))
  have HG := ten_grow w2 (w.heap.size + 1) (.int .i64 m) (.bool (hasB xs 0)) (.bool (hasB xs 1)) (.bool (hasB xs 2)) (.bool (hasB xs 3)) (.bool (hasB ys 0)) (.bool (hasB ys 1)) (.bool (hasB ys 2)) (.bool (hasB ys 3)) (.map (some M))
  refine bodyPost_ret (results_2 rfl (gives_mach (g := w.heap.size + 1) rfl HF) (Gives.tmp rfl)) rfl ?_
  exact ⟨M, rfl, by omega, Lib.hid (C2.out.kept HG (by intro e; cases e; omega)), Lib.hid (B2.out.grown HG B2.out.size (fun j hj => by cases hj; omega))⟩
end Go.Proofs.YtfdbbopanankgaaDoor
