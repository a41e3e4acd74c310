/- An automaton as the program's machine and a text as its nodes, and whether both are valid; nothing that was there changes. No condition but that the arguments can be read. -/
import Derived.Test.YthcfdmphephfpaaGreatNodeOf
import Derived.Test.YthcfdmphephfpaaGreatMach2
import Derived.Test.YthcfdmphephfpaaGreatCopyM
namespace Go.Proofs.YthcfdmphephfpaaGreat
open Go.RowKit
set_option maxHeartbeats 4000000
set_option maxRecDepth 100000
set_option linter.unusedVariables false

/-- The machine and the nodes, where both are valid. -/
theorem mn_ok (m : Int) (A1 A2 A3 : Option Addr) (c1 c2 c3 : Nat) (xs ys : List Int) (ss : List StepD) (l : ByteArray) (x : Ex) (w : World) (hx : Ints w w.heap.size A1 xs) (hy : Ints w w.heap.size A2 ys) (hs : SRow w w.heap.size A3 ss) (hok : autoOk m xs ys ss = true) (hn : nodeF l.data.toList = some x) :
    Calls Tryz.prog 23 #[.agg #[.int .i64 m, .slice A1 xs.length c1, .slice A2 ys.length c2, .slice A3 ss.length c3], .string l] w fun e w' =>
      ∃ M, e = .returned (.tuple #[.agg #[.int .i64 m, .bool (hasB xs 0), .bool (hasB xs 1), .bool (hasB xs 2), .bool (hasB xs 3), .bool (hasB ys 0), .bool (hasB ys 1), .bool (hasB ys 2), .bool (hasB ys 3), .map (some M)], exV x, .bool true]) ∧ w.heap.size ≤ M ∧ Hid (CMap w' M ss.length (costAt ss)) ∧ Hid (Below w.heap.size w w') := by
  have HX0 := Lib.hid (ints_al (ints_al hx (.cells #[.int .i64 m, .slice A1 xs.length c1, .slice A2 ys.length c2, .slice A3 ss.length c3] 33)) (.cells #[.int .i64 0, .bool false, .bool false, .bool false, .bool false, .bool false, .bool false, .bool false, .bool false, .map none] 51))
  have HY0 := Lib.hid (ints_al (ints_al hy (.cells #[.int .i64 m, .slice A1 xs.length c1, .slice A2 ys.length c2, .slice A3 ss.length c3] 33)) (.cells #[.int .i64 0, .bool false, .bool false, .bool false, .bool false, .bool false, .bool false, .bool false, .bool false, .map none] 51))
  have HS := Lib.hid ((hs.al (.cells #[.int .i64 m, .slice A1 xs.length c1, .slice A2 ys.length c2, .slice A3 ss.length c3] 33)).al (.cells #[.int .i64 0, .bool false, .bool false, .bool false, .bool false, .bool false, .bool false, .bool false, .bool false, .map none] 51))
  have HOK := Lib.hid hok
  have HN := Lib.hid hn
  clear hx hy hs hok hn
  go_enter Tryz.func23, Tryz.ntmps23
  go_wp2_with fail
  refine (machineOf_ok _ _ _ _ _ _ _ _ _ _ _ HX0.out HY0.out HS.out HOK.out).mono ?_
  rintro e w1 ⟨M, rfl, hM, hmap, hb1⟩
  have B1 := Lib.hid (below_on (below_a2 w _ _) hb1.out)
  have R1 : Hid (Blk w1 (w.heap.size + 1) 51 #[.int .i64 0, .bool false, .bool false, .bool false, .bool false, .bool false, .bool false, .bool false, .bool false, .map none]) := (blk_new (by simp)).below hb1.out (by simp)
  have hMw : w.heap.size + 1 < M := by simp at hM; omega
  have hw1 := Blk.lt R1.out
  clear hb1 HX0 HY0 HS hM
  go_wp2_with fail
  refine (nodeOf_yes _ _ x HN.out).mono ?_
  rintro e w2 ⟨rfl, hb2⟩
  have R2 := Lib.hid (blk_b (R1.out.alloc (.cells #[.int .i64 m, .bool (hasB xs 0), .bool (hasB xs 1), .bool (hasB xs 2), .bool (hasB xs 3), .bool (hasB ys 0), .bool (hasB ys 1), .bool (hasB ys 2), .bool (hasB ys 3), .map (some M)] 51)) hb2)
  have B2 := Lib.hid (below_on (below_al B1.out (Nat.le_refl _) (.cells #[.int .i64 m, .bool (hasB xs 0), .bool (hasB xs 1), .bool (hasB xs 2), .bool (hasB xs 3), .bool (hasB ys 0), .bool (hasB ys 1), .bool (hasB ys 2), .bool (hasB ys 3), .map (some M)] 51)) hb2)
  have P2 := Lib.hid (blk_b (Blk.new w1 51 #[.int .i64 m, .bool (hasB xs 0), .bool (hasB xs 1), .bool (hasB xs 2), .bool (hasB xs 3), .bool (hasB ys 0), .bool (hasB ys 1), .bool (hasB ys 2), .bool (hasB ys 3), .map (some M)]) hb2)
  have C2 := Lib.hid ((hmap.out.kept (World.grownBy_alloc w1 (.cells #[.int .i64 m, .bool (hasB xs 0), .bool (hasB xs 1), .bool (hasB xs 2), .bool (hasB xs 3), .bool (hasB ys 0), .bool (hasB ys 1), .bool (hasB ys 2), .bool (hasB ys 3), .map (some M)] 51) none) (by simp)).below hb2)
  have hw2 := Blk.lt R2.out
  have hne : ¬ w1.heap.size = w.heap.size + 1 := by omega
  obtain ⟨P, hP⟩ : ∃ P, P = w1.heap.size := ⟨_, rfl⟩
  rw [← hP] at P2 hne ⊢
  clear hb2 R1 B1 hw1 hmap hP
  obtain ⟨p0, p1, p2, p3, p4, p5, p6, p7, p8, p9⟩ := ten_cells P2.out
  obtain ⟨d0, d1, d2, d3, d4, d5, d6, d7, d8, d9⟩ := ten_cells R2.out
  obtain ⟨f0, f1, f2, f3, f4, f5, f6, f7, f8, f9⟩ := ten_frozen R2.out
  obtain ⟨t0, v0, hx0⟩ := exV_iface x
  rw [hx0]
  go_wp2_with fail
  have HF := ten_blk R2.out (.int .i64 m) (.bool (hasB xs 0)) (.bool (hasB xs 1)) (.bool (hasB xs 2)) (.bool (hasB xs 3)) (.bool (hasB ys 0)) (.bool (hasB ys 1)) (.bool (hasB ys 2)) (.bool (hasB ys 3)) (.map (some M))
  have HG := ten_grow w2 (w.heap.size + 1) (.int .i64 m) (.bool (hasB xs 0)) (.bool (hasB xs 1)) (.bool (hasB xs 2)) (.bool (hasB xs 3)) (.bool (hasB ys 0)) (.bool (hasB ys 1)) (.bool (hasB ys 2)) (.bool (hasB ys 3)) (.map (some M))
  refine bodyPost_ret (results_3 rfl (gives_mach (g := w.heap.size + 1) rfl HF) (Gives.tmp rfl) (Gives.tmp rfl)) rfl ?_
  rw [hx0]
  exact ⟨M, rfl, by omega, Lib.hid (C2.out.kept HG (by intro e; cases e; omega)), Lib.hid (B2.out.grown HG B2.out.size (fun j hj => by cases hj; omega))⟩
theorem mn_auto (m : Int) (A1 A2 A3 : Option Addr) (c1 c2 c3 : Nat) (xs ys : List Int) (ss : List StepD) (l : ByteArray) (w : World) (hx : Ints w w.heap.size A1 xs) (hy : Ints w w.heap.size A2 ys) (hs : SRow w w.heap.size A3 ss) (hok : autoOk m xs ys ss = false) :
    Calls Tryz.prog 23 #[.agg #[.int .i64 m, .slice A1 xs.length c1, .slice A2 ys.length c2, .slice A3 ss.length c3], .string l] w fun e w' => e = .returned (.tuple #[.agg #[.int .i64 0, .bool false, .bool false, .bool false, .bool false, .bool false, .bool false, .bool false, .bool false, .map none], .nilIface, .bool false]) ∧ Hid (Below w.heap.size w w') := by
  have HX0 := Lib.hid (ints_al (ints_al hx (.cells #[.int .i64 m, .slice A1 xs.length c1, .slice A2 ys.length c2, .slice A3 ss.length c3] 33)) (.cells #[.int .i64 0, .bool false, .bool false, .bool false, .bool false, .bool false, .bool false, .bool false, .bool false, .map none] 51))
  have HY0 := Lib.hid (ints_al (ints_al hy (.cells #[.int .i64 m, .slice A1 xs.length c1, .slice A2 ys.length c2, .slice A3 ss.length c3] 33)) (.cells #[.int .i64 0, .bool false, .bool false, .bool false, .bool false, .bool false, .bool false, .bool false, .bool false, .map none] 51))
  have HS := Lib.hid ((hs.al (.cells #[.int .i64 m, .slice A1 xs.length c1, .slice A2 ys.length c2, .slice A3 ss.length c3] 33)).al (.cells #[.int .i64 0, .bool false, .bool false, .bool false, .bool false, .bool false, .bool false, .bool false, .bool false, .map none] 51))
  have HOK := Lib.hid hok
  clear hx hy hs hok
  go_enter Tryz.func23, Tryz.ntmps23
  go_wp2_with fail
  refine (machineOf_no _ _ _ _ _ _ _ _ _ _ _ HX0.out HY0.out HS.out HOK.out).mono ?_
  rintro e w1 ⟨rfl, hb1⟩
  have B1 := Lib.hid (below_on (below_a2 w _ _) hb1.out)
  have R1 : Hid (Blk w1 (w.heap.size + 1) 51 #[.int .i64 0, .bool false, .bool false, .bool false, .bool false, .bool false, .bool false, .bool false, .bool false, .map none]) := (blk_new (by simp)).below hb1.out (by simp)
  clear hb1 HX0 HY0 HS
  go_wp2_with fail
  cases hn : nodeF l.data.toList with
  | none =>
    refine (nodeOf_no _ _ hn).mono ?_
    rintro e w2 ⟨rfl, hb2⟩
    have R2 := Lib.hid (blk_b (R1.out.alloc (.cells #[.int .i64 0, .bool false, .bool false, .bool false, .bool false, .bool false, .bool false, .bool false, .bool false, .map none] 51)) hb2)
    have B2 := Lib.hid (below_on (below_al B1.out (Nat.le_refl _) (.cells #[.int .i64 0, .bool false, .bool false, .bool false, .bool false, .bool false, .bool false, .bool false, .bool false, .map none] 51)) hb2)
    clear hb2 R1 B1
    obtain ⟨d0, d1, d2, d3, d4, d5, d6, d7, d8, d9⟩ := ten_cells R2.out
    obtain ⟨f0, f1, f2, f3, f4, f5, f6, f7, f8, f9⟩ := ten_frozen R2.out
    go_wp2_with fail
    have HF := ten_blk R2.out (.int .i64 0) (.bool false) (.bool false) (.bool false) (.bool false) (.bool false) (.bool false) (.bool false) (.bool false) (.map none)
    have HG := ten_grow w2 (w.heap.size + 1) (.int .i64 0) (.bool false) (.bool false) (.bool false) (.bool false) (.bool false) (.bool false) (.bool false) (.bool false) (.map none)
    refine bodyPost_ret (results_3 rfl (gives_mach (g := w.heap.size + 1) rfl HF) (Gives.tmp rfl) (Gives.tmp rfl)) rfl ?_
    exact ⟨rfl, Lib.hid (B2.out.grown HG B2.out.size (fun j hj => by cases hj; omega))⟩
  | some x =>
    refine (nodeOf_yes _ _ x hn).mono ?_
    rintro e w2 ⟨rfl, hb2⟩
    have R2 := Lib.hid (blk_b (R1.out.alloc (.cells #[.int .i64 0, .bool false, .bool false, .bool false, .bool false, .bool false, .bool false, .bool false, .bool false, .map none] 51)) hb2)
    have B2 := Lib.hid (below_on (below_al B1.out (Nat.le_refl _) (.cells #[.int .i64 0, .bool false, .bool false, .bool false, .bool false, .bool false, .bool false, .bool false, .bool false, .map none] 51)) hb2)
    clear hb2 R1 B1
    obtain ⟨d0, d1, d2, d3, d4, d5, d6, d7, d8, d9⟩ := ten_cells R2.out
    obtain ⟨f0, f1, f2, f3, f4, f5, f6, f7, f8, f9⟩ := ten_frozen R2.out
    obtain ⟨t0, v0, hx0⟩ := exV_iface x
    rw [hx0]
    go_wp2_with fail
    have HF := ten_blk R2.out (.int .i64 0) (.bool false) (.bool false) (.bool false) (.bool false) (.bool false) (.bool false) (.bool false) (.bool false) (.map none)
    have HG := ten_grow w2 (w.heap.size + 1) (.int .i64 0) (.bool false) (.bool false) (.bool false) (.bool false) (.bool false) (.bool false) (.bool false) (.bool false) (.map none)
    refine bodyPost_ret (results_3 rfl (gives_mach (g := w.heap.size + 1) rfl HF) (Gives.tmp rfl) (Gives.tmp rfl)) rfl ?_
    exact ⟨rfl, Lib.hid (B2.out.grown HG B2.out.size (fun j hj => by cases hj; omega))⟩
theorem mn_node (m : Int) (A1 A2 A3 : Option Addr) (c1 c2 c3 : Nat) (xs ys : List Int) (ss : List StepD) (l : ByteArray) (w : World) (hx : Ints w w.heap.size A1 xs) (hy : Ints w w.heap.size A2 ys) (hs : SRow w w.heap.size A3 ss) (hok : autoOk m xs ys ss = true) (hn : nodeF l.data.toList = none) :
    Calls Tryz.prog 23 #[.agg #[.int .i64 m, .slice A1 xs.length c1, .slice A2 ys.length c2, .slice A3 ss.length c3], .string l] w fun e w' => e = .returned (.tuple #[.agg #[.int .i64 0, .bool false, .bool false, .bool false, .bool false, .bool false, .bool false, .bool false, .bool false, .map none], .nilIface, .bool false]) ∧ Hid (Below w.heap.size w w') := by
  have HX0 := Lib.hid (ints_al (ints_al hx (.cells #[.int .i64 m, .slice A1 xs.length c1, .slice A2 ys.length c2, .slice A3 ss.length c3] 33)) (.cells #[.int .i64 0, .bool false, .bool false, .bool false, .bool false, .bool false, .bool false, .bool false, .bool false, .map none] 51))
  have HY0 := Lib.hid (ints_al (ints_al hy (.cells #[.int .i64 m, .slice A1 xs.length c1, .slice A2 ys.length c2, .slice A3 ss.length c3] 33)) (.cells #[.int .i64 0, .bool false, .bool false, .bool false, .bool false, .bool false, .bool false, .bool false, .bool false, .map none] 51))
  have HS := Lib.hid ((hs.al (.cells #[.int .i64 m, .slice A1 xs.length c1, .slice A2 ys.length c2, .slice A3 ss.length c3] 33)).al (.cells #[.int .i64 0, .bool false, .bool false, .bool false, .bool false, .bool false, .bool false, .bool false, .bool false, .map none] 51))
  have HOK := Lib.hid hok
  have HN := Lib.hid hn
  clear hx hy hs hok hn
  go_enter Tryz.func23, Tryz.ntmps23
  go_wp2_with fail
  refine (machineOf_ok _ _ _ _ _ _ _ _ _ _ _ HX0.out HY0.out HS.out HOK.out).mono ?_
  rintro e w1 ⟨M, rfl, hM, hmap, hb1⟩
  have B1 := Lib.hid (below_on (below_a2 w _ _) hb1.out)
  have R1 : Hid (Blk w1 (w.heap.size + 1) 51 #[.int .i64 0, .bool false, .bool false, .bool false, .bool false, .bool false, .bool false, .bool false, .bool false, .map none]) := (blk_new (by simp)).below hb1.out (by simp)
  clear hb1 HX0 HY0 HS hM
  go_wp2_with fail
  refine (nodeOf_no _ _ HN.out).mono ?_
  rintro e w2 ⟨rfl, hb2⟩
  have R2 := Lib.hid (blk_b (R1.out.alloc (.cells #[.int .i64 m, .bool (hasB xs 0), .bool (hasB xs 1), .bool (hasB xs 2), .bool (hasB xs 3), .bool (hasB ys 0), .bool (hasB ys 1), .bool (hasB ys 2), .bool (hasB ys 3), .map (some M)] 51)) hb2)
  have B2 := Lib.hid (below_on (below_al B1.out (Nat.le_refl _) (.cells #[.int .i64 m, .bool (hasB xs 0), .bool (hasB xs 1), .bool (hasB xs 2), .bool (hasB xs 3), .bool (hasB ys 0), .bool (hasB ys 1), .bool (hasB ys 2), .bool (hasB ys 3), .map (some M)] 51)) hb2)
  clear hb2 R1 B1
  obtain ⟨d0, d1, d2, d3, d4, d5, d6, d7, d8, d9⟩ := ten_cells R2.out
  obtain ⟨f0, f1, f2, f3, f4, f5, f6, f7, f8, f9⟩ := ten_frozen R2.out
  go_wp2_with fail
  have HF := ten_blk R2.out (.int .i64 0) (.bool false) (.bool false) (.bool false) (.bool false) (.bool false) (.bool false) (.bool false) (.bool false) (.map none)
  have HG := ten_grow w2 (w.heap.size + 1) (.int .i64 0) (.bool false) (.bool false) (.bool false) (.bool false) (.bool false) (.bool false) (.bool false) (.bool false) (.map none)
  refine bodyPost_ret (results_3 rfl (gives_mach (g := w.heap.size + 1) rfl HF) (Gives.tmp rfl) (Gives.tmp rfl)) rfl ?_
  exact ⟨rfl, Lib.hid (B2.out.grown HG B2.out.size (fun j hj => by cases hj; omega))⟩
end Go.Proofs.YthcfdmphephfpaaGreat
