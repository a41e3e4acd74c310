/- The walk of the exact law of SameMatrix: it returns true for all arguments; nothing that was there changes. No condition. -/
import Derived.Test.YtdomejgngmbcdaaValidLaw
import Derived.Deep.RegionWith
namespace Go.Proofs.Ytdomejgngmbcdaa
open Go.RowKit
set_option maxHeartbeats 1000000
set_option maxRecDepth 100000
set_option linter.unusedVariables false

theorem sSame_is (m m' : Int) (A A' : Option Addr) (cap cap' : Nat) (zs ys : List Int) (r : Bool) (w : World) (hz : Ints w w.heap.size A zs) (hy : Ints w w.heap.size A' ys) (hr : (decide (m = m') && decide (zs = ys)) = r) :
    Calls Try.prog 39 #[.agg #[.int .i64 m, .slice A zs.length cap], .agg #[.int .i64 m', .slice A' ys.length cap']] w fun e w' => e = .returned (.bool r) ∧ Below w.heap.size w w' := by
  have HR := Lib.hid hr
  clear hr
  by_cases hm : m = m'
  · subst hm
    have hb : (m == m) = true := by simp
    go_enter Try.func39, Try.ntmps39
    go_wp2_with fail
    refine (l2Same_any _ _ _ _ _ _ _ _ _ (ints_al (ints_al hz _) _) (ints_al (ints_al hy _) _)).mono ?_
    rintro e w1 ⟨rfl, n, rfl⟩
    obtain ⟨d, hd⟩ : ∃ d, d = decide (zs = ys) := ⟨_, rfl⟩
    have hR : r = d := by rw [← HR.out, hd]; simp
    rw [← hd]
    clear hd
    go_wp2_with fail
    go_ret
    exact ⟨ret_bool hR.symm, below_dr (below_a2 _ _ _) n⟩
  · have hR : r = false := by rw [← HR.out, decide_eq_false hm]; rfl
    have hb : (m == m') = false := by rw [beq_eq_false_iff_ne]; exact hm
    clear hm
    go_enter Try.func39, Try.ntmps39
    go_wp2_with fail
    go_ret
    exact ⟨ret_bool hR.symm, below_a2 _ _ _⟩
theorem iSame_is (m m' : Int) (A A' : Option Addr) (cap cap' : Nat) (zs ys : List Int) (r : Bool) (w : World) (hz : Ints w w.heap.size A zs) (hy : Ints w w.heap.size A' ys) (hr : (decide (m = m') && decide (zs = ys)) = r) :
    Calls Try.prog 40 #[.agg #[.int .i64 m, .slice A zs.length cap], .agg #[.int .i64 m', .slice A' ys.length cap']] w fun e w' => e = .returned (.bool r) ∧ Below w.heap.size w w' := by
  have HR := Lib.hid hr
  clear hr
  by_cases hm : m = m'
  · subst hm
    have hb : (m == m) = true := by simp
    go_enter Try.func40, Try.ntmps40
    go_wp2_with fail
    refine (equal_any _ _ _ _ _ _ _ _ _ (ints_al (ints_al hz _) _) (ints_al (ints_al hy _) _)).mono ?_
    rintro e w1 ⟨rfl, n, rfl⟩
    obtain ⟨d, hd⟩ : ∃ d, d = decide (zs = ys) := ⟨_, rfl⟩
    have hR : r = d := by rw [← HR.out, hd]; simp
    rw [← hd]
    clear hd
    go_wp2_with fail
    go_ret
    exact ⟨ret_bool hR.symm, below_dr (below_a2 _ _ _) n⟩
  · have hR : r = false := by rw [← HR.out, decide_eq_false hm]; rfl
    have hb : (m == m') = false := by rw [beq_eq_false_iff_ne]; exact hm
    clear hm
    go_enter Try.func40, Try.ntmps40
    go_wp2_with fail
    go_ret
    exact ⟨ret_bool hR.symm, below_a2 _ _ _⟩

theorem FnExactSameMatrix_walk (m : Int) (A : Option Addr) (cap : Nat) (zs : List Int) (m' : Int) (A' : Option Addr) (cap' : Nat) (ys : List Int) (w : World) (hz : IRow .i64 w w.heap.size A zs) (hy : IRow .i64 w w.heap.size A' ys) :
    Calls Try.prog 14 #[.agg #[.int .i64 m, .slice A zs.length cap], .agg #[.int .i64 m', .slice A' ys.length cap']] w fun e w' => e = .returned (.bool true) ∧ Below w.heap.size w w' := by
  have hl := hz.len
  have hl' := hy.len
  obtain ⟨r, hr⟩ : ∃ r, (decide (m = m') && decide (zs = ys)) = r := ⟨_, rfl⟩
  have HR := Lib.hid hr
  clear hr
  have hb0 := below_a2 w (.cells #[.int .i64 m, .slice A zs.length cap] 40) (.cells #[.int .i64 m', .slice A' ys.length cap'] 40)
  by_cases hs : (zs.length : Int) ≤ 1048576
  · by_cases hs' : (ys.length : Int) ≤ 1048576 - zs.length
    · go_enter Try.func14, Try.ntmps14
      go_wp2_with fail
      refine (szMatrix_ok _ _ _ _ _ _ _ (by omega) (by omega) hs rfl).mono ?_
      rintro e w1 ⟨rfl, hb1⟩
      have bA : Blk w1 w.heap.size 40 #[.int .i64 m, .slice A zs.length cap] := ((Blk.new w _ _).alloc _).below hb1 (by simp; omega)
      have bB : Blk w1 (w.heap.size + 1) 40 #[.int .i64 m', .slice A' ys.length cap'] := (blk_new (by simp)).below hb1 (by simp)
      have hbA := below_on hb0 hb1
      obtain ⟨b0, b1⟩ := two_cells bB
      go_wp2_with fail
      refine (szMatrix_ok _ _ _ _ _ _ _ (by omega) (by omega) hs' rfl).mono ?_
      rintro e w2 ⟨rfl, hb2⟩
      clear b0 b1
      have hbB := below_on hbA hb2
      have cA := bA.below hb2 (Blk.lt bA)
      have cB := bB.below hb2 (Blk.lt bB)
      have keep : ∀ w', Below w2.heap.size w2 w' → (Hid (Below w2.heap.size w2 w') ∧ w'.cell? ⟨w.heap.size, 0, none⟩ = some (.int .i64 m) ∧ w'.cell? ⟨w.heap.size, 1, none⟩ = some (.slice A zs.length cap) ∧ w'.cell? ⟨w.heap.size + 1, 0, none⟩ = some (.int .i64 m') ∧ w'.cell? ⟨w.heap.size + 1, 1, none⟩ = some (.slice A' ys.length cap')) :=
        fun w' h => ⟨h, (cells_below cA h).1, (cells_below cA h).2, (cells_below cB h).1, (cells_below cB h).2⟩
      have K := Lib.hid keep
      have KZ : Hid (∀ w', Below w2.heap.size w2 w' → Ints w' w'.heap.size A zs) := fun w' h => (hz.below (below_on hbB h)).more (below_on hbB h).size
      have KY : Hid (∀ w', Below w2.heap.size w2 w' → Ints w' w'.heap.size A' ys) := fun w' h => (hy.below (below_on hbB h)).more (below_on hbB h).size
      have hS0 := K.out w2.drew ((Below.refl _ _).drew)
      have HB := Lib.hid hbB
      have CA := Lib.hid cA
      have CB := Lib.hid cB
      have hs2 : zs.length ≤ 1048576 := by omega
      have hs3 : ys.length ≤ 1048576 := by omega
      clear keep hb0 hb1 hb2 hbA hbB bA bB cA cB hz hy
      go_wp2_with fail
      go_region_held3 (fun w' => Hid (Below w2.heap.size w2 w') ∧ w'.cell? ⟨w.heap.size, 0, none⟩ = some (.int .i64 m) ∧ w'.cell? ⟨w.heap.size, 1, none⟩ = some (.slice A zs.length cap) ∧ w'.cell? ⟨w.heap.size + 1, 0, none⟩ = some (.int .i64 m') ∧ w'.cell? ⟨w.heap.size + 1, 1, none⟩ = some (.slice A' ys.length cap')) (first | with_reducible assumption | skip)
        (first
          | (go_at_call_of 33 (Value.slice A zs.length cap); refine (toMatrix_any _ _ _ _ _ (KZ.out _ hS0.1.out) hs2).mono ?_; rintro e w3 ⟨_, rfl, ⟨A3, cap3, rfl, hc3, hi3⟩, hb3⟩; have hS1 := K.out _ (below_on hS0.1.out hb3))
          | (go_at_call_of 33 (Value.slice A' ys.length cap'); refine (toMatrix_any _ _ _ _ _ (KY.out _ hS1.1.out) hs3).mono ?_; rintro e w4 ⟨_, rfl, ⟨A4, cap4, rfl, hc4, hi4⟩, hb4⟩; have hS2 := K.out _ (below_on hS1.1.out hb4); have hi3' := (hi3.below hb4).more hb4.size)
          | (go_at_call 39; refine (sSame_is _ _ _ _ _ _ _ _ _ _ hi3' hi4 HR.out).mono ?_; rintro e w5 ⟨rfl, hb5⟩; have hS3 := K.out _ (below_on hS2.1.out hb5)))
      clear hi3 hi3' hi4 hS0 hS1 hS2
      have B5 := Lib.hid hS3.1.out
      obtain ⟨_, p0, p1, q0, q1⟩ := hS3
      go_wp2_with fail
      refine (toMatrix_any _ _ _ _ _ (KZ.out _ B5.out) hs2).mono ?_
      rintro e w6 ⟨_, rfl, ⟨A6, cap6, rfl, hc6, hi6⟩, hb6⟩
      have B6 := Lib.hid (below_on B5.out hb6)
      have Q0 : ∀ o, (w6.alloc o).cell? ⟨w.heap.size + 1, 0, none⟩ = some (.int .i64 m') := fun o => (K.out _ (below_al B6.out (Nat.le_refl _) o)).2.2.2.1
      have Q1 : ∀ o, (w6.alloc o).cell? ⟨w.heap.size + 1, 1, none⟩ = some (.slice A' ys.length cap') := fun o => (K.out _ (below_al B6.out (Nat.le_refl _) o)).2.2.2.2
      have I6 := Lib.hid hi6
      clear hb6 hi6 p0 p1 q0 q1
      go_wp2_with fail
      refine (toMatrix_any _ _ _ _ _ (KY.out _ (below_al B6.out (Nat.le_refl _) _)) hs3).mono ?_
      rintro e w7 ⟨_, rfl, ⟨A7, cap7, rfl, hc7, hi7⟩, hb7⟩
      have B7 := Lib.hid (below_on (below_al B6.out (Nat.le_refl _) _) hb7)
      have X7 := Lib.hid ((Blk.new w6 25 #[.int .i64 m, .slice A6 zs.length cap6]).below hb7 (Blk.lt (Blk.new _ _ _)))
      obtain ⟨X0, hX0⟩ : ∃ n, n = w6.heap.size := ⟨_, rfl⟩
      rw [← hX0] at X7
      rw [← hX0]
      have I67 := Lib.hid (((ints_al I6.out _).below hb7).more hb7.size)
      have I7 := Lib.hid hi7
      have x0 : ∀ o, (w7.alloc o).cell? ⟨X0, 0, none⟩ = some (.int .i64 m) := fun o => (X7.out.alloc o).cell 0
      have x1 : ∀ o, (w7.alloc o).cell? ⟨X0, 1, none⟩ = some (.slice A6 zs.length cap6) := fun o => (X7.out.alloc o).cell 1
      clear hb7 hi7 Q0 Q1 hX0
      go_wp2_with fail
      refine (iSame_is _ _ _ _ _ _ _ _ _ _ (ints_al I67.out _) (ints_al I7.out _) HR.out).mono ?_
      rintro e w8 ⟨rfl, hb8⟩
      have B8 := Lib.hid (below_on (below_al B7.out (Nat.le_refl _) _) hb8)
      have X8 := (X7.out.alloc (.cells #[.int .i64 m', .slice A7 ys.length cap7] 25)).below hb8 (Blk.lt (X7.out.alloc _))
      have Y8 := (Blk.new w7 25 #[.int .i64 m', .slice A7 ys.length cap7]).below hb8 (Blk.lt (Blk.new _ _ _))
      obtain ⟨X1, hX1⟩ : ∃ n, n = w7.heap.size := ⟨_, rfl⟩
      rw [← hX1] at Y8
      rw [← hX1]
      have I68 := ((ints_al I67.out (.cells #[.int .i64 m', .slice A7 ys.length cap7] 25)).below hb8).more hb8.size
      have I78 := ((ints_al I7.out (.cells #[.int .i64 m', .slice A7 ys.length cap7] 25)).below hb8).more hb8.size
      have keep : ∀ w', Below w8.heap.size w8 w' → Hid (Below w8.heap.size w8 w') ∧ w'.cell? ⟨w.heap.size, 0, none⟩ = some (.int .i64 m) ∧ w'.cell? ⟨w.heap.size, 1, none⟩ = some (.slice A zs.length cap) ∧ w'.cell? ⟨w.heap.size + 1, 0, none⟩ = some (.int .i64 m') ∧ w'.cell? ⟨w.heap.size + 1, 1, none⟩ = some (.slice A' ys.length cap') ∧ w'.cell? ⟨X0, 0, none⟩ = some (.int .i64 m) ∧ w'.cell? ⟨X0, 1, none⟩ = some (.slice A6 zs.length cap6) ∧ w'.cell? ⟨X1, 0, none⟩ = some (.int .i64 m') ∧ w'.cell? ⟨X1, 1, none⟩ = some (.slice A7 ys.length cap7) := fun w' h => by
        have k := K.out w' (below_on B8.out h)
        exact ⟨h, k.2.1, k.2.2.1, k.2.2.2.1, k.2.2.2.2, (cells_below X8 h).1, (cells_below X8 h).2, (cells_below Y8 h).1, (cells_below Y8 h).2⟩
      have L := Lib.hid keep
      have JX : Hid (∀ w', Below w8.heap.size w8 w' → Ints w' w'.heap.size A6 zs) := fun w' h => (I68.below h).more h.size
      have JY : Hid (∀ w', Below w8.heap.size w8 w' → Ints w' w'.heap.size A7 ys) := fun w' h => (I78.below h).more h.size
      have JZ : Hid (∀ w', Below w8.heap.size w8 w' → Ints w' w'.heap.size A zs) := fun w' h => KZ.out w' (below_on B8.out h)
      have JW : Hid (∀ w', Below w8.heap.size w8 w' → Ints w' w'.heap.size A' ys) := fun w' h => KY.out w' (below_on B8.out h)
      have hS0 := L.out w8.drew ((Below.refl _ _).drew)
      clear keep hb8 X8 Y8 I68 I78 x0 x1 hX1
      go_wp2_with fail
      go_region_held3 (fun w' => Hid (Below w8.heap.size w8 w') ∧ w'.cell? ⟨w.heap.size, 0, none⟩ = some (.int .i64 m) ∧ w'.cell? ⟨w.heap.size, 1, none⟩ = some (.slice A zs.length cap) ∧ w'.cell? ⟨w.heap.size + 1, 0, none⟩ = some (.int .i64 m') ∧ w'.cell? ⟨w.heap.size + 1, 1, none⟩ = some (.slice A' ys.length cap') ∧ w'.cell? ⟨X0, 0, none⟩ = some (.int .i64 m) ∧ w'.cell? ⟨X0, 1, none⟩ = some (.slice A6 zs.length cap6) ∧ w'.cell? ⟨X1, 0, none⟩ = some (.int .i64 m') ∧ w'.cell? ⟨X1, 1, none⟩ = some (.slice A7 ys.length cap7)) (first | with_reducible assumption | skip)
        (first
          | (go_at_call 33; refine (toMatrix_any _ _ _ _ _ (JZ.out _ hS0.1.out) hs2).mono ?_; rintro e w9 ⟨_, rfl, ⟨A9, cap9, rfl, hc9, hi9⟩, hb9⟩; have hS1 := L.out _ (below_on hS0.1.out hb9))
          | (go_at_call 34; refine (eqMatrix_eq _ _ _ _ _ _ _ (JX.out _ hS1.1.out) hi9).mono ?_; rintro e w10 ⟨rfl, hb10⟩; have hS2 := L.out _ (below_on hS1.1.out hb10)))
      have hT0 := L.out w10.drew (hS2.1.out.drew)
      clear hi9 hS0 hS1
      go_wp2_with fail
      go_region_held3 (fun w' => Hid (Below w8.heap.size w8 w') ∧ w'.cell? ⟨w.heap.size, 0, none⟩ = some (.int .i64 m) ∧ w'.cell? ⟨w.heap.size, 1, none⟩ = some (.slice A zs.length cap) ∧ w'.cell? ⟨w.heap.size + 1, 0, none⟩ = some (.int .i64 m') ∧ w'.cell? ⟨w.heap.size + 1, 1, none⟩ = some (.slice A' ys.length cap') ∧ w'.cell? ⟨X0, 0, none⟩ = some (.int .i64 m) ∧ w'.cell? ⟨X0, 1, none⟩ = some (.slice A6 zs.length cap6) ∧ w'.cell? ⟨X1, 0, none⟩ = some (.int .i64 m') ∧ w'.cell? ⟨X1, 1, none⟩ = some (.slice A7 ys.length cap7)) (first | with_reducible assumption | skip)
        (first
          | (go_at_call 33; refine (toMatrix_any _ _ _ _ _ (JW.out _ hT0.1.out) hs3).mono ?_; rintro e w11 ⟨_, rfl, ⟨A11, cap11, rfl, hc11, hi11⟩, hb11⟩; have hT1 := L.out _ (below_on hT0.1.out hb11))
          | (go_at_call 34; refine (eqMatrix_eq _ _ _ _ _ _ _ (JY.out _ hT1.1.out) hi11).mono ?_; rintro e w12 ⟨rfl, hb12⟩; have hT2 := L.out _ (below_on hT1.1.out hb12)))
      go_wp2_with fail
      go_ret
      exact ⟨rfl, below_on HB.out (below_on B8.out hT2.1.out)⟩
    · go_enter Try.func14, Try.ntmps14
      go_wp2_with fail
      refine (szMatrix_ok _ _ _ _ _ _ _ (by omega) (by omega) hs rfl).mono ?_
      rintro e w1 ⟨rfl, hb1⟩
      have bB : Blk w1 (w.heap.size + 1) 40 #[.int .i64 m', .slice A' ys.length cap'] := (blk_new (by simp)).below hb1 (by simp)
      have hbA := below_on hb0 hb1
      obtain ⟨b0, b1⟩ := two_cells bB
      go_wp2_with fail
      refine (szMatrix_no _ _ _ _ _ _ (by omega) (by omega) (by omega) hl').mono ?_
      rintro e w2 ⟨rfl, hb2⟩
      go_wp2_with fail
      go_ret
      exact ⟨rfl, below_on hbA hb2⟩
  · go_enter Try.func14, Try.ntmps14
    go_wp2_with fail
    refine (szMatrix_no _ _ _ _ _ _ (by omega) (by omega) (by omega) hl).mono ?_
    rintro e w1 ⟨rfl, hb1⟩
    go_wp2_with fail
    go_ret
    exact ⟨rfl, below_on hb0 hb1⟩
end Go.Proofs.Ytdomejgngmbcdaa
